/-
  EntryReads walked.
-/
import Derived.Test.YtkghldobefgjeaaREnRefRd
import Derived.Test.YtkghldobefgjeaaREnBackH
set_option linter.unusedSimpArgs false
set_option linter.unusedVariables false
namespace Go.Proofs.Ytkghldobefgjeaa
open Go.RowKit
set_option maxRecDepth 100000 in
set_option maxHeartbeats 4000000 in
theorem entryReads_at (s s' : ByteArray) (b long : Bool) (f : En.E) (w : World) (hl1 : long = true → 4000 < s.size ∧ s.extract 0 4000 = s') (hl2 : long = false → s.size ≤ 4000 ∧ s = s')
    (HR : Hid (∀ W, Calls Try.prog 39 #[.string s'] W fun r w' => r = .returned (.tuple #[.agg (entC f), .bool b]) ∧ Below W.heap.size W w'))
    (HQ : Hid (∀ W, Calls Try.prog 45 #[.string s'] W fun r w' => r = .returned (.tuple #[.agg (entC f), .bool b]) ∧ Below W.heap.size W w')) :
    Calls Try.prog 12 #[.string s] w fun r w' => r = .returned (.bool true) ∧ Below w.heap.size w w' := by
  have HA := Lib.hid entAwake_any
  have hre := ent_eql f f
  rw [decide_eq_true rfl] at hre
  unfold entC at hre
  have F := entF f
  obtain ⟨P, hP⟩ : ∃ P, P = entC f := ⟨_, rfl⟩
  rw [← hP] at F HR HQ
  have hst := storeEnt P F.size F.one
  have hps := F.size
  have HP := Lib.hid hP
  clear F hP
  have fin : ∀ (W5 : World) (q1 q2 : Nat), True := fun _ _ _ => trivial
  clear fin
  cases long
  · obtain ⟨hk, rfl⟩ := hl2 rfl
    have d3 : decide ((4000 : Int) < (s.size : Int)) = false := by simp; omega
    clear hl1 hl2 hk
    go_enter Try.func12, Try.ntmps12
    go_wp2_with fail
    refine (HR.out _).mono ?_
    rintro r w1 ⟨rfl, hb1⟩
    have HB1 := Lib.hid hb1
    clear hb1
    go_wp2_with fail
    refine (HQ.out _).mono ?_
    rintro r w2 ⟨rfl, hb2⟩
    have HB2 := Lib.hid (And.intro (bnext (bnew HB1.out (.cells P 62)) hb2) ((RowE.new w1 P).below hb2))
    clear hb2
    go_upto_region 5 with (fail)
    refine forget (fun W => Below w.heap.size w W ∧ RowE W w1.heap.size (entC f) ∧ RowE W w2.heap.size (entC f)) ⟨bnew HB2.out.1 _, by have h := HB2.out.2.below (bnew (Below.refl _ _) (.cells P 62)); rw [HP.out] at h ⊢; exact h, by have h := RowE.new w2 P; rw [HP.out] at h ⊢; exact h⟩ ?_
    rintro W5 ⟨hb5, h1, h2⟩
    obtain ⟨c0, c1, c2, c3, c4, c5, c6, c7, c8, c9, c10, c11, c12, _⟩ := h1.at_
    obtain ⟨k0, k1, k2, k3, k4, k5, k6, k7, k8, k9, k10, k11, k12, _⟩ := h2.at_
    have HB5 := Lib.hid hb5
    clear h1 h2 hb5 hst hps HB1 HB2 HR HQ
    cases b
    all_goals
      go_wp2_with fail
      refine (HA.out _).mono ?_
      rintro r w12 ⟨rfl, hb12⟩
      have HB12 := Lib.hid (bnext HB5.out hb12)
      clear hb12
      go_wp2_with fail
      go_ret
      exact ⟨rfl, HB12.out⟩
  · obtain ⟨hk, hss⟩ := hl1 rfl
    have d3 : decide ((4000 : Int) < (s.size : Int)) = true := by simp; omega
    have d3' : (4000 : Int) ≤ (s.size : Int) := by omega
    have HSS := Lib.hid hss
    clear hl1 hl2 hk hss
    go_enter Try.func12, Try.ntmps12
    go_wp2_with fail
    rw [HSS.out]
    refine (HR.out _).mono ?_
    rintro r w1 ⟨rfl, hb1⟩
    have HB1 := Lib.hid hb1
    clear hb1
    go_wp2_with fail
    refine (HQ.out _).mono ?_
    rintro r w2 ⟨rfl, hb2⟩
    have HB2 := Lib.hid (And.intro (bnext (bnew HB1.out (.cells P 62)) hb2) ((RowE.new w1 P).below hb2))
    clear hb2
    go_upto_region 5 with (fail)
    refine forget (fun W => Below w.heap.size w W ∧ RowE W w1.heap.size (entC f) ∧ RowE W w2.heap.size (entC f)) ⟨bnew HB2.out.1 _, by have h := HB2.out.2.below (bnew (Below.refl _ _) (.cells P 62)); rw [HP.out] at h ⊢; exact h, by have h := RowE.new w2 P; rw [HP.out] at h ⊢; exact h⟩ ?_
    rintro W5 ⟨hb5, h1, h2⟩
    obtain ⟨c0, c1, c2, c3, c4, c5, c6, c7, c8, c9, c10, c11, c12, _⟩ := h1.at_
    obtain ⟨k0, k1, k2, k3, k4, k5, k6, k7, k8, k9, k10, k11, k12, _⟩ := h2.at_
    have HB5 := Lib.hid hb5
    clear h1 h2 hb5 hst hps HB1 HB2 HR HQ
    cases b
    all_goals
      go_wp2_with fail
      refine (HA.out _).mono ?_
      rintro r w12 ⟨rfl, hb12⟩
      have HB12 := Lib.hid (bnext HB5.out hb12)
      clear hb12
      go_wp2_with fail
      go_ret
      exact ⟨rfl, HB12.out⟩
theorem entryReads_walk (s : ByteArray) (_w : s.size ≤ maxLen) (w : World) :
    Calls Try.prog 12 #[.string s] w fun r w' => r = .returned (.bool true) ∧ Below w.heap.size w w' := by
  obtain ⟨s', long, h1, h2, hz⟩ : ∃ (s' : ByteArray) (long : Bool), (long = true → 4000 < s.size ∧ s.extract 0 4000 = s') ∧ (long = false → s.size ≤ 4000 ∧ s = s') ∧ s'.size ≤ 4000 := by
    by_cases hk : 4000 < s.size
    · exact ⟨s.extract 0 4000, true, fun _ => ⟨hk, rfl⟩, (fun h => (by cases h)), by rw [ByteArray.size_extract]; omega⟩
    · exact ⟨s, false, (fun h => (by cases h)), fun _ => ⟨by omega, rfl⟩, by omega⟩
  have hR := fun W => enRead_any s' W (by omega)
  have hQ := fun W => refRead_any s' W (by omega)
  rcases hr : En.read s'.data.toList with _ | f <;> rw [hr] at hR hQ
  · exact entryReads_at s s' false long En.zero w h1 h2 (Lib.hid hR) (Lib.hid hQ)
  · exact entryReads_at s s' true long f w h1 h2 (Lib.hid hR) (Lib.hid hQ)
end Go.Proofs.Ytkghldobefgjeaa
