/-
  MsgReads walked. WRITTEN BY wip/tools/gen_mgreads.py.
-/
import Derived.Test.YtpdahbfjbgcmgaaRMgRefRd
import Derived.Test.YtpdahbfjbgcmgaaRMgRef
import Derived.Test.YtpdahbfjbgcmgaaRMgBackH
set_option linter.unusedSimpArgs false
set_option linter.unusedVariables false
namespace Go.Proofs.Ytpdahbfjbgcmgaa
open Go.RowKit
theorem mRefRead_out (s : ByteArray) (w : World) (hs : s.size ≤ 100000000) : Calls Try.prog 47 #[.string s] w fun e w' => ∃ A cap, e = .returned (.tuple #[.agg (msgC ((Mg.read s.data.toList).getD Mg.zero) A cap), .bool (Mg.read s.data.toList).isSome]) ∧ Lies w' A (ec ((Mg.read s.data.toList).getD Mg.zero).ents) ∧ Below w.heap.size w w' := by
  refine (mRefRead_any s w hs).mono ?_
  intro e w' h
  unfold RetMs at h
  cases hr : Mg.read s.data.toList with
  | none =>
    rw [hr] at h
    exact ⟨none, 0, h.1, .inl rfl, h.2⟩
  | some m =>
    rw [hr] at h
    obtain ⟨A, cap, rfl, hl, hb⟩ := h
    exact ⟨A, cap, rfl, hl, hb⟩
set_option maxRecDepth 100000 in
set_option maxHeartbeats 8000000 in
theorem msgReads_at (s s' : ByteArray) (b long : Bool) (f : Mg.M) (hf : f.ents.length ≤ 1000) (w : World) (hl1 : long = true → 7000 < s.size ∧ s.extract 0 7000 = s') (hl2 : long = false → s.size ≤ 7000 ∧ s = s')
    (HR : Hid (∀ W, Calls Try.prog 39 #[.string s'] W fun e w' => ∃ A cap, e = .returned (.tuple #[.agg (msgC f A cap), .bool b]) ∧ Lies w' A (ec f.ents) ∧ Below W.heap.size W w'))
    (HQ : Hid (∀ W, Calls Try.prog 47 #[.string s'] W fun e w' => ∃ A cap, e = .returned (.tuple #[.agg (msgC f A cap), .bool b]) ∧ Lies w' A (ec f.ents) ∧ Below W.heap.size W w')) :
    Calls Try.prog 12 #[.string s] w fun r w' => r = .returned (.bool true) ∧ Below w.heap.size w w' := by
  have HA := Lib.hid mAwake_any
  have HS := Lib.hid (fun (A B : Option Addr) (ca cb : Nat) (W : World) (hA : Lies W A (ec f.ents)) (hB : Lies W B (ec f.ents)) => refSame_any5 f f A B ca cb W hA hB (by omega) (by omega))
  simp only [decide_true] at HS
  unfold msgC at HS
  have hbb : (b == b) = true := by cases b <;> rfl
  clear hf
  cases long
  · skip
    obtain ⟨hk, rfl⟩ := hl2 rfl
    have d3 : decide ((7000 : Int) < (s.size : Int)) = false := by simp; omega
    clear hl1 hl2 hk
    go_enter Try.func12, Try.ntmps12
    go_wp2_with fail
    refine (HR.out _).mono ?_
    rintro r V1 ⟨A1, cap1, rfl, hl, hb⟩
    have HV := Lib.hid (And.intro hl hb)
    have FP := msgF f A1 cap1
    obtain ⟨P, hP⟩ : ∃ P, P = msgC f A1 cap1 := ⟨_, rfl⟩
    rw [← hP] at FP ⊢
    have hst := storeMsg P FP.size FP.one
    have hps := FP.size
    have HP := Lib.hid hP
    clear hP FP hl hb
    go_upto_region 4 with (fail)
    refine forget (fun W => Below w.heap.size w W ∧ W.heap[V1.heap.size]? = some (.cells (msgC f A1 cap1) 63 (0, 0)) ∧ Lies W A1 (ec f.ents)) ⟨bnew HV.out.2 _, by rw [← HP.out]; exact heap_alloc_new V1 _, HV.out.1.below (bnew (Below.refl _ _) _)⟩ ?_
    clear hst hps HV HP
    obtain ⟨g1, hg1⟩ : ∃ g, g = V1.heap.size := ⟨_, rfl⟩
    rw [← hg1]
    clear hg1
    clear V1
    rintro W1 ⟨a1, b1, c1⟩
    have HM1 := Lib.hid (And.intro a1 (And.intro b1 c1))
    clear a1 b1 c1
    go_wp2_with fail
    refine (HQ.out _).mono ?_
    rintro r V2 ⟨A2, cap2, rfl, hl, hb⟩
    have HV := Lib.hid (And.intro hl hb)
    have FP := msgF f A2 cap2
    obtain ⟨P, hP⟩ : ∃ P, P = msgC f A2 cap2 := ⟨_, rfl⟩
    rw [← hP] at FP ⊢
    have hst := storeMsg P FP.size FP.one
    have hps := FP.size
    have HP := Lib.hid hP
    clear hP FP hl hb
    go_upto_region 5 with (fail)
    refine forget (fun W => Below w.heap.size w W ∧ W.heap[g1]? = some (.cells (msgC f A1 cap1) 63 (0, 0)) ∧ Lies W A1 (ec f.ents) ∧ W.heap[V2.heap.size]? = some (.cells (msgC f A2 cap2) 63 (0, 0)) ∧ Lies W A2 (ec f.ents)) (by
      have hbb := bnew HV.out.2 (.cells P 63)
      obtain ⟨q1, q2, q3⟩ := HM1.out
      exact ⟨bnext q1 hbb, (hbb.block _ (Array.getElem?_eq_some_iff.1 q2).1).trans q2, q3.below hbb, by rw [← HP.out]; exact heap_alloc_new V2 _, HV.out.1.below (bnew (Below.refl _ _) _)⟩) ?_
    clear hst hps HV HP
    obtain ⟨g2, hg2⟩ : ∃ g, g = V2.heap.size := ⟨_, rfl⟩
    rw [← hg2]
    clear hg2
    clear V2
    rintro W2 ⟨a1, b1, c1, b2, c2⟩
    have HM2 := Lib.hid (And.intro a1 (And.intro c1 c2))
    obtain ⟨e0, e1, e2, e3, e4, e5, e6, e7, e8, e9, e10, e11, e12, _⟩ := msgAt b1
    obtain ⟨f0, f1, f2, f3, f4, f5, f6, f7, f8, f9, f10, f11, f12, _⟩ := msgAt b2
    clear a1 b1 c1 b2 c2 HM1 HR HQ
    go_wp2_with fail
    refine (HS.out _ _ _ _ _ HM2.out.2.1 HM2.out.2.2).mono ?_
    rintro r W3 ⟨rfl, hb3⟩
    have HB3 := Lib.hid (bnext HM2.out.1 hb3)
    clear hb3
    go_wp2_with fail
    refine (HA.out _).mono ?_
    rintro r W4 ⟨rfl, hb4⟩
    have HB4 := Lib.hid (bnext HB3.out hb4)
    clear hb4
    go_wp2_with fail
    go_ret
    exact ⟨rfl, HB4.out⟩
  · skip
    obtain ⟨hk, hss⟩ := hl1 rfl
    have d3 : decide ((7000 : Int) < (s.size : Int)) = true := by simp; omega
    have d3' : (7000 : Int) ≤ (s.size : Int) := by omega
    have HSS := Lib.hid hss
    clear hl1 hl2 hk hss
    go_enter Try.func12, Try.ntmps12
    go_wp2_with fail
    rw [HSS.out]
    refine (HR.out _).mono ?_
    rintro r V1 ⟨A1, cap1, rfl, hl, hb⟩
    have HV := Lib.hid (And.intro hl hb)
    have FP := msgF f A1 cap1
    obtain ⟨P, hP⟩ : ∃ P, P = msgC f A1 cap1 := ⟨_, rfl⟩
    rw [← hP] at FP ⊢
    have hst := storeMsg P FP.size FP.one
    have hps := FP.size
    have HP := Lib.hid hP
    clear hP FP hl hb
    go_upto_region 4 with (fail)
    refine forget (fun W => Below w.heap.size w W ∧ W.heap[V1.heap.size]? = some (.cells (msgC f A1 cap1) 63 (0, 0)) ∧ Lies W A1 (ec f.ents)) ⟨bnew HV.out.2 _, by rw [← HP.out]; exact heap_alloc_new V1 _, HV.out.1.below (bnew (Below.refl _ _) _)⟩ ?_
    clear hst hps HV HP
    obtain ⟨g1, hg1⟩ : ∃ g, g = V1.heap.size := ⟨_, rfl⟩
    rw [← hg1]
    clear hg1
    clear V1
    rintro W1 ⟨a1, b1, c1⟩
    have HM1 := Lib.hid (And.intro a1 (And.intro b1 c1))
    clear a1 b1 c1
    go_wp2_with fail
    refine (HQ.out _).mono ?_
    rintro r V2 ⟨A2, cap2, rfl, hl, hb⟩
    have HV := Lib.hid (And.intro hl hb)
    have FP := msgF f A2 cap2
    obtain ⟨P, hP⟩ : ∃ P, P = msgC f A2 cap2 := ⟨_, rfl⟩
    rw [← hP] at FP ⊢
    have hst := storeMsg P FP.size FP.one
    have hps := FP.size
    have HP := Lib.hid hP
    clear hP FP hl hb
    go_upto_region 5 with (fail)
    refine forget (fun W => Below w.heap.size w W ∧ W.heap[g1]? = some (.cells (msgC f A1 cap1) 63 (0, 0)) ∧ Lies W A1 (ec f.ents) ∧ W.heap[V2.heap.size]? = some (.cells (msgC f A2 cap2) 63 (0, 0)) ∧ Lies W A2 (ec f.ents)) (by
      have hbb := bnew HV.out.2 (.cells P 63)
      obtain ⟨q1, q2, q3⟩ := HM1.out
      exact ⟨bnext q1 hbb, (hbb.block _ (Array.getElem?_eq_some_iff.1 q2).1).trans q2, q3.below hbb, by rw [← HP.out]; exact heap_alloc_new V2 _, HV.out.1.below (bnew (Below.refl _ _) _)⟩) ?_
    clear hst hps HV HP
    obtain ⟨g2, hg2⟩ : ∃ g, g = V2.heap.size := ⟨_, rfl⟩
    rw [← hg2]
    clear hg2
    clear V2
    rintro W2 ⟨a1, b1, c1, b2, c2⟩
    have HM2 := Lib.hid (And.intro a1 (And.intro c1 c2))
    obtain ⟨e0, e1, e2, e3, e4, e5, e6, e7, e8, e9, e10, e11, e12, _⟩ := msgAt b1
    obtain ⟨f0, f1, f2, f3, f4, f5, f6, f7, f8, f9, f10, f11, f12, _⟩ := msgAt b2
    clear a1 b1 c1 b2 c2 HM1 HR HQ
    go_wp2_with fail
    refine (HS.out _ _ _ _ _ HM2.out.2.1 HM2.out.2.2).mono ?_
    rintro r W3 ⟨rfl, hb3⟩
    have HB3 := Lib.hid (bnext HM2.out.1 hb3)
    clear hb3
    go_wp2_with fail
    refine (HA.out _).mono ?_
    rintro r W4 ⟨rfl, hb4⟩
    have HB4 := Lib.hid (bnext HB3.out hb4)
    clear hb4
    go_wp2_with fail
    go_ret
    exact ⟨rfl, HB4.out⟩
theorem msgReads_walk (s : ByteArray) (_w : s.size ≤ maxLen) (w : World) :
    Calls Try.prog 12 #[.string s] w fun r w' => r = .returned (.bool true) ∧ Below w.heap.size w w' := by
  obtain ⟨s', long, h1, h2, hz⟩ : ∃ (s' : ByteArray) (long : Bool), (long = true → 7000 < s.size ∧ s.extract 0 7000 = s') ∧ (long = false → s.size ≤ 7000 ∧ s = s') ∧ s'.size ≤ 7000 := by
    by_cases hk : 7000 < s.size
    · exact ⟨s.extract 0 7000, true, fun _ => ⟨hk, rfl⟩, (fun h => (by cases h)), by rw [ByteArray.size_extract]; omega⟩
    · exact ⟨s, false, (fun h => (by cases h)), fun _ => ⟨by omega, rfl⟩, by omega⟩
  have hR := fun W => mRead_out s' W (by omega)
  have hQ := fun W => mRefRead_out s' W (by omega)
  have hl : ((Mg.read s'.data.toList).getD Mg.zero).ents.length ≤ 1000 := by
    rcases hr : Mg.read s'.data.toList with _ | f
    · exact Nat.zero_le _
    · have := Mg.may_len ((Mg.read_iff _ _).1 hr).2.1
      show f.ents.length ≤ 1000
      omega
  exact msgReads_at s s' _ long _ hl w h1 h2 (Lib.hid hR) (Lib.hid hQ)
end Go.Proofs.Ytpdahbfjbgcmgaa
