/-
  The document's level walked.
-/
import Derived.Test.YtdodpocckjcomaaRCfRef2
set_option linter.unusedSimpArgs false
set_option linter.unusedVariables false
namespace Go.Proofs.Ytdodpocckjcomaa
open Go.RowKit
namespace Cf
def maj (L : List Nat) (x : Nat) : Bool := decide (L.length < 2 * L.countP (fun y => decide (x ≤ y)))
/-- The greatest so far of those that a majority reaches. -/
structure Best (L : List Nat) (j b : Nat) : Prop where
  ge : ∀ i, i < j → ∀ x, L[i]? = some x → maj L x = true → x ≤ b
  in_ : b = 0 ∨ (b ∈ L ∧ maj L b = true)
theorem Best.start (L : List Nat) : Best L 0 0 := ⟨fun i hi => by omega, .inl rfl⟩
theorem Best.step {L : List Nat} {j b x : Nat} (h : Best L j b) (hx : L[j]? = some x) (y : Nat) (hy : y = if maj L x = true ∧ b < x then x else b) : Best L (j + 1) y := by
  subst hy
  refine ⟨fun i hi z hz hm => ?_, ?_⟩
  · by_cases hij : i = j
    · subst hij
      rw [hx] at hz
      injection hz with hz
      subst hz
      split
      · exact Nat.le_refl _
      · rename_i hno
        have : ¬ b < x := fun hlt => hno ⟨hm, hlt⟩
        omega
    · have := h.ge i (by omega) z hz hm
      split
      · rename_i hyes; omega
      · exact this
  · split
    · rename_i hyes
      exact .inr ⟨List.mem_of_getElem? hx, hyes.1⟩
    · exact h.in_
theorem lvl_exists {L : List Nat} (h : L ≠ []) : ∃ v, Lvl L v := by
  have hp := List.mergeSort_perm L (fun x y => decide (x ≤ y))
  have hs : (L.mergeSort fun x y => decide (x ≤ y)).Pairwise (· ≤ ·) := (List.pairwise_mergeSort (le := fun x y : Nat => decide (x ≤ y)) (fun a b c h1 h2 => by simp at h1 h2 ⊢; omega) (fun a b => by simp; omega) L).imp (fun h => by simpa using h)
  have hl : 0 < L.length := by cases L with | nil => exact absurd rfl h | cons _ _ => simp
  have h0 := hp.length_eq
  exact ⟨_, Lvl.of_sorted hp hs (by omega)⟩
theorem Best.level {L : List Nat} {b : Nat} (h : Best L L.length b) : (L = [] ∧ b = 0) ∨ Lvl L b := by
  by_cases h0 : L = []
  · subst h0
    refine .inl ⟨rfl, ?_⟩
    rcases h.in_ with h | h
    · exact h
    · cases h.1
  · obtain ⟨v, hv⟩ := lvl_exists h0
    have hvb : v ≤ b := by
      obtain ⟨i, hi, he⟩ := List.mem_iff_getElem.1 hv.mem
      exact h.ge i hi v (by rw [List.getElem?_eq_getElem hi, he]) (by unfold maj; exact decide_eq_true hv.won)
    have hbv : b ≤ v := by
      rcases h.in_ with h | h
      · omega
      · rcases Nat.lt_or_ge v b with hlt | hge
        · exfalso
          have h1 := of_decide_eq_true h.2
          have h2 := hv.not
          have h3 := List.countP_mono_left (l := L) (p := fun y => decide (b ≤ y)) (q := fun y => decide (v < y)) (fun y _ hy => by simp at hy ⊢; omega)
          omega
        · exact hge
    obtain rfl : v = b := by omega
    exact .inr hv
theorem cp_map (l : List Nat) (x : Nat → Nat) (y j : Nat) (h : j < l.length) : ((l.take (j + 1)).map x).countP (fun z => decide (y ≤ z)) = ((l.take j).map x).countP (fun z => decide (y ≤ z)) + (if y ≤ x l[j] then 1 else 0) := by
  rw [List.take_succ_eq_append_getElem h, List.map_append, List.countP_append, List.map_singleton, List.countP_singleton]
  simp only [decide_eq_true_eq]
end Cf
set_option maxRecDepth 100000 in
set_option maxHeartbeats 4000000 in
theorem rlevel_any (m : Nat) (hm : m < 256) (cs : Array Value) (x : Nat → Nat) (hM : Mk cs x) (w : World) : Calls Try.prog 22 #[.int .u8 (m : Int), .agg cs] w fun e w' => ∃ v : Nat, e = .returned (.int .u64 (v : Int)) ∧ Cf.IsLevel m x v ∧ Below w.heap.size w w' := by
  have HL := Lib.hid (fun w => rlist_any10 m hm w)
  have hlen := Cf.mem_len m
  have hnode := Cf.mem_le m
  have HIs : Hid (∀ v, (((Cf.mem m).map x) = [] ∧ v = 0) ∨ Cf.Lvl ((Cf.mem m).map x) v → Cf.IsLevel m x v) := Lib.hid fun v h => h.imp (fun h => ⟨by simpa using h.1, h.2⟩) (fun h => h)
  obtain ⟨l, hl⟩ : ∃ l, l = Cf.mem m := ⟨_, rfl⟩
  rw [← hl] at HL hlen hnode HIs
  have HN := Lib.hid hnode
  clear hl hnode
  have HM := Lib.hid hM
  have hcsz := hM.size
  clear hM
  go_enter Try.func22, Try.ntmps22
  go_wp2_with fail
  have HX : Hid ((w.alloc (.cells cs 23)).heap[w.heap.size]? = some (.cells cs 23 (0, 0))) := Lib.hid (heap_alloc_new w _)
  refine (HL.out _).mono ?_
  rintro e w1 ⟨lv, rfl, hlo, hb1⟩
  obtain ⟨A, cap, rfl, hli⟩ := hlo.lies
  have H1 : Hid (Below w.heap.size w w1 ∧ w1.heap[w.heap.size]? = some (.cells cs 23 (0, 0)) ∧ Lies w1 A (nc l)) := Lib.hid ⟨((Below.refl w.heap.size w).alloc (Nat.le_refl _) _).trans (hb1.mono (by simp)), (hb1.block w.heap.size (by simp)).trans HX.out, hli⟩
  have HC := Lib.hid (fun (j : Nat) (hj : j < l.length) => show ∃ bb oo, A = some ⟨bb, oo, none⟩ ∧ w1.cell? ⟨bb, oo + j, none⟩ = some (.int .u8 (l[j] : Int)) ∧ w1.cell? ⟨w.heap.size, l[j], none⟩ = some (.int .u64 (x l[j] : Int)) ∧ l[j] ≤ 5 ∧ x l[j] < 18446744073709551616 from by
    obtain ⟨bb, oo, h1, h2⟩ := nc_cell H1.out.2.2 hj rfl
    have h3 := HN.out l[j] (List.getElem_mem hj)
    exact ⟨bb, oo, h1, h2, by rw [cell_of_row _ w.heap.size _ _ _ _ H1.out.2.1]; exact HM.out.at_ _ (by omega), h3.2.1, HM.out.top _ (by omega)⟩)
  clear hlo hli hb1 HX
  go_wp2_with fail
  go_loopw [6, 7, 8, 9, 10] (fun b i _ _ _ wr => ∃ j y : Nat, j ≤ l.length ∧ i = .int .i64 (j : Int) ∧ b = .int .u64 (y : Int) ∧ Cf.Best (l.map x) j y ∧ w1 = wr) (fun _ i _ _ _ _ => l.length - (intOf i).toNat)
  case atStart => exact ⟨0, 0, Nat.zero_le _, rfl, rfl, Cf.Best.start _, rfl⟩
  case round =>
    obtain ⟨j, y, hj, rfl, rfl, hbest, rfl⟩ := hrel
    by_cases hlt : j < l.length
    · obtain ⟨bb, oo, rfl, hc1, hc2, hn5, hxt⟩ := HC.out j hlt
      obtain ⟨n, hn⟩ : ∃ n, n = l[j] := ⟨_, rfl⟩
      rw [← hn] at hc1 hc2 hn5 hxt
      obtain ⟨z, hz⟩ : ∃ z, z = x n := ⟨_, rfl⟩
      rw [← hz] at hc2 hxt
      have HLx : Hid ((l.map x)[j]? = some z) := Lib.hid (by rw [List.getElem?_map, List.getElem?_eq_getElem hlt, ← hn, hz]; rfl)
      have HBe := Lib.hid hbest
      clear hbest hn hz
      go_wp2_with fail
      go_loopw [9, 10] (fun c i wr => ∃ k n : Nat, k ≤ l.length ∧ i = .int .i64 (k : Int) ∧ c = .int .i64 (n : Int) ∧ n = ((l.take k).map x).countP (fun q => decide (z ≤ q)) ∧ w1 = wr) (fun _ i _ => l.length - (intOf i).toNat)
      case atStart => exact ⟨0, 0, Nat.zero_le _, rfl, rfl, rfl, rfl⟩
      case round =>
        obtain ⟨k, c, hk, rfl, rfl, hc, rfl⟩ := hrel
        have hc5 : c ≤ 5 := by rw [hc]; exact Nat.le_trans List.countP_le_length (by rw [List.length_map, List.length_take]; omega)
        by_cases hklt : k < l.length
        · obtain ⟨bb2, oo2, hA2, hd1, hd2, hp5, hyt⟩ := HC.out k hklt
          injection hA2 with hA3
          injection hA3 with hA4 hA5
          subst hA4 hA5
          have hst := Cf.cp_map l x z k hklt
          rw [← hc] at hst
          obtain ⟨p, hp⟩ : ∃ p, p = l[k] := ⟨_, rfl⟩
          rw [← hp] at hd1 hd2 hp5 hyt hst
          obtain ⟨u, hu⟩ : ∃ u, u = x p := ⟨_, rfl⟩
          rw [← hu] at hd2 hyt hst
          clear hc hp hu
          by_cases hzu : z ≤ u
          · have e1 : ((z : Int) ≤ (u : Int)) = True := by simp; omega
            have e2 : decide (z ≤ u) = true := decide_eq_true hzu
            rw [if_pos hzu] at hst
            have E2 := Lib.hid hst
            clear hst hzu
            go_wp2_with fail
            go_roundw
            case rel => exact ⟨k + 1, c + 1, by omega, by go_num, by go_num, E2.out.symm, by trivial⟩
            case measure => simp [intOf]; omega
          · have e1 : ((z : Int) ≤ (u : Int)) = False := by simp; omega
            have e2 : decide (z ≤ u) = false := decide_eq_false hzu
            rw [if_neg hzu] at hst
            have E2 := Lib.hid hst
            clear hst hzu
            go_wp2_with fail
            go_roundw
            case rel => exact ⟨k + 1, c, by omega, by go_num, by go_num, E2.out.symm, by trivial⟩
            case measure => simp [intOf]; omega
        · obtain rfl : k = l.length := by omega
          rw [List.take_of_length_le (Nat.le_refl _)] at hc
          have hmaj : Cf.maj (l.map x) z = decide (l.length < 2 * c) := by unfold Cf.maj; rw [List.length_map, hc]
          have HS : Hid (∀ y', y' = (if l.length < 2 * c ∧ y < z then z else y) → Cf.Best (l.map x) (j + 1) y') := Lib.hid fun y' hy' => HBe.out.step HLx.out y' (by rw [hy', hmaj]; simp only [decide_eq_true_eq])
          clear hc hmaj
          by_cases h1 : l.length < 2 * c
          · have e1 : ((l.length : Int) - (c : Int) < (c : Int)) = True := by simp; omega
            have e1' : decide ((l.length : Int) - (c : Int) < (c : Int)) = true := by simp; omega
            by_cases h2 : y < z
            · have e2 : ((y : Int) < (z : Int)) = True := by simp; omega
              have e2' : decide (y < z) = true := decide_eq_true h2
              have HS2 := Lib.hid (HS.out z (by rw [if_pos ⟨h1, h2⟩]))
              clear h1 h2
              go_wp2_with fail
              go_roundw
              case rel => exact ⟨j + 1, z, by omega, by go_num, rfl, HS2.out, by trivial⟩
              case measure => simp [intOf]; omega
            · have e2 : ((y : Int) < (z : Int)) = False := by simp; omega
              have e2' : decide (y < z) = false := decide_eq_false h2
              have HS2 := Lib.hid (HS.out y (by rw [if_neg (fun h => h2 h.2)]))
              clear h1 h2
              go_wp2_with fail
              go_roundw
              case rel => exact ⟨j + 1, y, by omega, by go_num, rfl, HS2.out, by trivial⟩
              case measure => simp [intOf]; omega
          · have e1 : ((l.length : Int) - (c : Int) < (c : Int)) = False := by simp; omega
            have e1' : decide ((l.length : Int) - (c : Int) < (c : Int)) = false := by simp; omega
            have HS2 := Lib.hid (HS.out y (by rw [if_neg (fun h => h1 h.1)]))
            clear h1
            go_wp2_with fail
            go_roundw
            case rel => exact ⟨j + 1, y, by omega, by go_num, rfl, HS2.out, by trivial⟩
            case measure => simp [intOf]; omega
    · obtain rfl : j = l.length := by omega
      have hlm : (l.map x).length = l.length := List.length_map _
      have HF := Lib.hid (HIs.out y ((hlm ▸ hbest : Cf.Best (l.map x) (l.map x).length y).level))
      clear hbest hlm
      go_wp2_with fail
      go_ret
      exact ⟨y, rfl, HF.out, H1.out.1⟩
end Go.Proofs.Ytdodpocckjcomaa
