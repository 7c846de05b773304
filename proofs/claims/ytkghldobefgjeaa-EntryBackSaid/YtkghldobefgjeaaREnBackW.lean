/-
  EntryBack walked. WRITTEN BY wip/tools/gen_enback.py.
-/
import Derived.Test.YtkghldobefgjeaaREnBackA
import Derived.Test.YtkghldobefgjeaaREnBackB
import Derived.Test.YtkghldobefgjeaaREnBackC
set_option linter.unusedSimpArgs false
set_option linter.unusedVariables false
namespace Go.Proofs.Ytkghldobefgjeaa
open Go.RowKit
theorem reV_some (e : En.E) : reV (some e) = .tuple #[.agg (entC e), .bool true] := rfl
theorem reV_none : reV none = .tuple #[.agg (entC En.zero), .bool false] := rfl
set_option maxRecDepth 100000 in
set_option maxHeartbeats 2000000 in
theorem back_over (e : En.E) (s beh : ByteArray) (i : Int) (h : 4000 < e.body.size ∨ 100 < beh.size) (w : World) :
    Calls Try.prog 14 #[.agg (entC e), .string s, .int .u16 i, .string beh] w fun r w' => r = .returned (.bool true) ∧ Below w.heap.size w w' := by
  have HA := Lib.hid entAwake_any
  have F := entF e
  generalize entC e = X at F ⊢
  obtain ⟨hx, _, x0, x1, x2, x3, x4, x5, x6, x7, x8, x9, x10, x11, x12⟩ := F
  by_cases h1 : 4000 < e.body.size
  · have d1 : decide ((4000 : Int) < (e.body.size : Int)) = true := by simp; omega
    clear h h1
    go_enter Try.func14, Try.ntmps14
    go_wp2_with fail
    refine (HA.out _).mono ?_
    rintro r w1 ⟨rfl, hb1⟩
    go_wp2_with fail
    go_ret
    exact ⟨rfl, bnext (bnew (Below.refl _ _) _) hb1⟩
  · have d1 : decide ((4000 : Int) < (e.body.size : Int)) = false := by simp; omega
    have d2 : decide ((100 : Int) < (beh.size : Int)) = true := by simp; omega
    clear h h1
    go_enter Try.func14, Try.ntmps14
    go_wp2_with fail
    refine (HA.out _).mono ?_
    rintro r w1 ⟨rfl, hb1⟩
    go_wp2_with fail
    go_ret
    exact ⟨rfl, bnext (bnew (Below.refl _ _) _) hb1⟩
theorem entryBack_walk (e : En.E) (hf : En.Fits e) (_z : e.body.size ≤ maxLen) (s : ByteArray) (_w1 : s.size ≤ maxLen) (i : Int) (wf : (Lit.int .u16 i).wf = true) (beh : ByteArray) (_w3 : beh.size ≤ maxLen) (w : World) :
    Calls Try.prog 14 #[.agg (entC e), .string s, .int .u16 i, .string beh] w fun r w' => r = .returned (.bool true) ∧ Below w.heap.size w w' := by
  by_cases hov : 4000 < e.body.size ∨ 100 < beh.size
  · exact back_over e s beh i hov w
  have hbz : e.body.size ≤ 4000 := by omega
  have hbh : beh.size ≤ 100 := by omega
  obtain ⟨cut, rfl, hc⟩ := u16_nat wf
  have hbt : e.body.size < Nm.top := by unfold Nm.top; omega
  obtain ⟨s', hs', hsz⟩ : ∃ s' : ByteArray, (4000 < s.size → s.extract 0 4000 = s') ∧ (¬ 4000 < s.size → s = s') ∧ s'.size ≤ 4000 := by
    by_cases hk : 4000 < s.size
    · exact ⟨s.extract 0 4000, fun _ => rfl, fun h => absurd hk h, by rw [ByteArray.size_extract]; omega⟩
    · exact ⟨s, fun h => absurd h hk, fun _ => rfl, by omega⟩
  obtain ⟨hs2, hsz⟩ := hsz
  have hB := backC e hf (by omega)
  have hRd := fun (x : ByteArray) (hx : x.size ≤ 100000000) W => enRead_any x W hx
  have hF := fun W => hRd s' (by omega) W
  obtain ⟨t, ht⟩ : ∃ t : ByteArray, t = ⟨(En.write e).toArray⟩ := ⟨_, rfl⟩
  rw [← ht] at hB
  have fin : ∀ (o : Option En.E), o = En.read s'.data.toList → ∀ f, o = some f → BackC f s' true := by
    intro o ho f hf2
    obtain ⟨⟨hff, hfb⟩, hm, hl⟩ := (En.read_iff _ _).1 (ho.symm.trans hf2)
    have hlen : s'.size = (En.enc f).length := by rw [Lib.size_eq, hl]
    have hbody : f.body.size ≤ 1000000 := by
      have h2 : (En.bod f).length ≤ (En.enc f).length := by unfold En.enc; simp only [List.length_append]; omega
      by_cases hb : En.hasB f.kind
      · unfold En.bod at h2; rw [if_pos hb] at h2
        have : f.body.size ≤ (Cm.txt f.body).length := by unfold Cm.txt row; rw [List.length_append, ← Lib.size_eq]; omega
        omega
      · have := (En.may_parts hm).2.1 hb
        rw [this]; exact Nat.zero_le _
    have h3 := backC f hff hbody
    have e1 : (⟨(En.write f).toArray⟩ : ByteArray) = s' := by
      unfold En.write
      rw [hm, if_pos rfl, ← hl]
    rw [e1, hm] at h3
    exact h3
  rcases hm : En.may e with _ | _
  · have ht0 : t = ⟨#[]⟩ := by rw [ht]; unfold En.write; rw [hm]; rfl
    rw [hm] at hB
    rcases hz : En.read s'.data.toList with _ | f <;> rw [hz] at hF
    · by_cases hk : 4000 < s.size
      · exact back_0100 e s s' t beh (Lib.hid hB) hbz hbh w ht0 cut En.zero (Lib.hid hF) hk (hs' hk)
      · exact back_0000 e s s' t beh (Lib.hid hB) hbz hbh w ht0 cut En.zero (Lib.hid hF) (by omega) (hs2 hk)
    · have hG := fin _ hz.symm f rfl
      by_cases hk : 4000 < s.size
      · exact back_0110 e s s' t beh (Lib.hid hB) hbz hbh w ht0 cut f (Lib.hid hF) (Lib.hid hG) hk (hs' hk)
      · exact back_0010 e s s' t beh (Lib.hid hB) hbz hbh w ht0 cut f (Lib.hid hF) (Lib.hid hG) (by omega) (hs2 hk)
  · have htl : t.data.toList = En.enc e := by rw [ht]; unfold En.write; rw [hm]; rfl
    have hlen : t.size = (En.enc e).length := by rw [Lib.size_eq, htl]
    have hlz := En.enc_len e hf hbt
    have ht0 : 0 < t.size := by
      rw [hlen]
      rcases h : En.enc e with _ | ⟨c, r⟩
      · exact absurd h (En.enc_ne e)
      · simp
    have hR1 := fun W => hRd t (by omega) W
    have hR2 := fun W => hRd (t.extract 0 (cut % t.size)) (by rw [ByteArray.size_extract]; omega) W
    have hR3 := fun W => hRd (t ++ beh) (by rw [ByteArray.size_append]; omega) W
    have l2 : (t.extract 0 (cut % t.size)).data.toList = (En.enc e).take (cut % t.size) := by
      rw [Lib.extract_eq]; simp [htl]
    have l3 : (t ++ beh).data.toList = En.enc e ++ beh.data.toList := by rw [ByteArray.data_append]; simp [htl]
    have q1 : En.read t.data.toList = some e := by
      have := En.read_more hf hbt hm []
      rw [List.append_nil] at this
      rw [htl, this]; rfl
    have q2 : En.read (t.extract 0 (cut % t.size)).data.toList = none := by
      rw [l2]; exact En.read_less hf hbt hm _ (by rw [← hlen]; exact Nat.mod_lt _ ht0)
    have q3 := En.read_more hf hbt hm beh.data.toList
    rw [← l3] at q3
    rw [q1] at hR1
    rw [q2] at hR2
    rw [hm] at hB
    have ht5 : t.size ≤ 5000 := by omega
    by_cases hbe : beh.size = 0
    · rw [if_pos (List.eq_nil_of_length_eq_zero (by rw [← Lib.size_eq]; exact hbe))] at q3
      rw [q3] at hR3
      rcases hz : En.read s'.data.toList with _ | f <;> rw [hz] at hF
      · by_cases hk : 4000 < s.size
        · exact back_1101 e s s' t beh (Lib.hid hB) hbz hbh w ht0 ht5 cut hc (Lib.hid hR1) (Lib.hid hR2) (Lib.hid hR3) hbe En.zero (Lib.hid hF) hk (hs' hk)
        · exact back_1001 e s s' t beh (Lib.hid hB) hbz hbh w ht0 ht5 cut hc (Lib.hid hR1) (Lib.hid hR2) (Lib.hid hR3) hbe En.zero (Lib.hid hF) (by omega) (hs2 hk)
      · have hG := fin _ hz.symm f rfl
        by_cases hk : 4000 < s.size
        · exact back_1111 e s s' t beh (Lib.hid hB) hbz hbh w ht0 ht5 cut hc (Lib.hid hR1) (Lib.hid hR2) (Lib.hid hR3) hbe f (Lib.hid hF) (Lib.hid hG) hk (hs' hk)
        · exact back_1011 e s s' t beh (Lib.hid hB) hbz hbh w ht0 ht5 cut hc (Lib.hid hR1) (Lib.hid hR2) (Lib.hid hR3) hbe f (Lib.hid hF) (Lib.hid hG) (by omega) (hs2 hk)
    · rw [if_neg (fun h => hbe (by rw [Lib.size_eq, h]; rfl))] at q3
      rw [q3] at hR3
      rcases hz : En.read s'.data.toList with _ | f <;> rw [hz] at hF
      · by_cases hk : 4000 < s.size
        · exact back_1100 e s s' t beh (Lib.hid hB) hbz hbh w ht0 ht5 cut hc (Lib.hid hR1) (Lib.hid hR2) (Lib.hid hR3) hbe En.zero (Lib.hid hF) hk (hs' hk)
        · exact back_1000 e s s' t beh (Lib.hid hB) hbz hbh w ht0 ht5 cut hc (Lib.hid hR1) (Lib.hid hR2) (Lib.hid hR3) hbe En.zero (Lib.hid hF) (by omega) (hs2 hk)
      · have hG := fin _ hz.symm f rfl
        by_cases hk : 4000 < s.size
        · exact back_1110 e s s' t beh (Lib.hid hB) hbz hbh w ht0 ht5 cut hc (Lib.hid hR1) (Lib.hid hR2) (Lib.hid hR3) hbe f (Lib.hid hF) (Lib.hid hG) hk (hs' hk)
        · exact back_1010 e s s' t beh (Lib.hid hB) hbz hbh w ht0 ht5 cut hc (Lib.hid hR1) (Lib.hid hR2) (Lib.hid hR3) hbe f (Lib.hid hF) (Lib.hid hG) (by omega) (hs2 hk)
end Go.Proofs.Ytkghldobefgjeaa
