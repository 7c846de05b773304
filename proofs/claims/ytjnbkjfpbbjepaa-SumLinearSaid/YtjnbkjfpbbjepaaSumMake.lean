/-
  sum.Make walked.
-/
import Derived.Test.YtjnbkjfpbbjepaaSumRef
namespace Go.Proofs.Ytjnbkjfpbbjepaa
open Go.RowKit

/-- The first k numbers of the table stand in block g. -/
def Filled (w : World) (g k : Nat) : Prop := ∃ cur : Array Value, w.heap[g]? = some (.cells cur 24 (0, 0)) ∧ cur.size = 256 ∧ ∀ j, j < k → cur[j]? = some (.int .u32 ((Cr.tab j : Nat) : Int))
theorem Filled.step {w : World} {g k : Nat} (h : Filled w g k) (hk : k < 256) : Filled (w.setCell ⟨g, k, none⟩ (.int .u32 ((Cr.tab k : Nat) : Int))) g (k + 1) := by
  obtain ⟨cur, hg, hs, hc⟩ := h
  refine ⟨cur.setIfInBounds k (.int .u32 ((Cr.tab k : Nat) : Int)), heap_setCell_same w g k cur _ _ hg, by simpa using hs, fun j hj => ?_⟩
  by_cases e : j = k
  · subst e; simp [hs, hk]
  · rw [Array.getElem?_setIfInBounds_ne (fun h => e h.symm)]; exact hc j (by omega)
theorem Filled.cell {w : World} {g k : Nat} (h : Filled w g k) (j : Nat) (hj : j < 256) : ∃ u, w.cell? ⟨g, j, none⟩ = some u := by
  obtain ⟨cur, hg, hs, _⟩ := h
  exact ⟨cur[j], by rw [cell_of_row w g j cur _ _ hg, Array.getElem?_eq_getElem]⟩
theorem Filled.free {w : World} {g k : Nat} (h : Filled w g k) (j : Nat) : w.frozen? ⟨g, j, none⟩ = false := by
  obtain ⟨cur, hg, _⟩ := h
  exact frozen_of_row w g j cur _ hg
theorem Filled.all {w : World} {g : Nat} (h : Filled w g 256) : TabAt w g := by
  obtain ⟨cur, hg, hs, hc⟩ := h
  have e : cur = tabA := by
    apply Array.ext_getElem?
    intro j
    by_cases hj : j < 256
    · rw [hc j hj, tabA_at j hj]
    · rw [Array.getElem?_eq_none (by omega), Array.getElem?_eq_none (by rw [tabA_size]; omega)]
  rw [e] at hg
  exact hg
theorem storeTabAt (w : World) (g : Nat) (cur : Array Value) (hg : w.heap[g]? = some (.cells cur 24 (0, 0))) (hs : cur.size = 256) :
    (storeCells ⟨g, 0, none⟩ tabA.toList 0).run Try.prog w = .ok () (w.setRow g tabA) := by
  have := run_storeVar_row (P := Try.prog) w g 24 24 cur tabA hg (by rw [tabA_size]; exact sizeTable) (by rw [hs, tabA_size]) tabA_one
  cases hq : Try.prog.info? 24 with
  | none => have := sizeTable; rw [hq] at this; cases this
  | some i =>
    have hsz : tabA.size = i.size := by have := sizeTable; rw [hq] at this; rw [tabA_size]; simpa using this.symm
    simpa [storeVar, sizeOf, typeInfo, hq, Value.cells, hsz] using this

theorem and1 (x : Nat) (h : x < 4294967296) : bits .and .u32 (x : Int) 1 = ((x % 2 : Nat) : Int) := by
  have := u32_and_nat x 1 h (by omega)
  rw [nat_mask1] at this
  exact this

set_option maxHeartbeats 2000000 in
set_option maxRecDepth 100000 in
theorem shifted_any (k : Nat) (hk : k < 256) (w : World) : Calls Try.prog 13 #[.int .u32 (k : Int)] w fun e w' => e = .returned (.int .u32 ((Cr.tab k : Nat) : Int)) ∧ w' = w := by
  go_enter Try.func13, Try.ntmps13
  go_wp2
  go_loop [0, 3, 4] (fun r _ q => ∃ (j x : Nat), j ≤ 8 ∧ q = .int .i64 (j : Int) ∧ r = .int .u32 (x : Int) ∧ x = Cr.bits j k) (fun _ _ q => 8 - (intOf q).toNat)
  case atStart => exact ⟨0, k, by omega, rfl, rfl, rfl⟩
  case round =>
    obtain ⟨j, x, hj, rfl, rfl, hx⟩ := hrel
    have hxl : x < 4294967296 := by rw [hx]; exact Cr.bits_lt j (by omega)
    have Hx := Lib.hid hx
    clear hx
    by_cases h8 : j < 8
    · have ha := and1 x hxl
      have Hxor := Lib.hid (xorHalf x hxl)
      by_cases h1 : x % 2 = 1
      · have d : (bits .and .u32 (x : Int) 1 == 1) = true := by rw [ha, h1]; rfl
        have Ho := Lib.hid (bit_odd x h1)
        clear ha h1
        go_wp2
        go_round
        case rel => exact ⟨j + 1, _, by omega, by go_num, by rw [Hxor.out], by rw [bits_next, ← Hx.out, Ho.out]⟩
        case measure => simp [intOf]; omega
      · have h2 : x % 2 = 0 := by omega
        have d : (bits .and .u32 (x : Int) 1 == 1) = false := by rw [ha, h2]; rfl
        have Ho := Lib.hid (bit_even x h1)
        clear ha h1 h2
        go_wp2
        go_round
        case rel => exact ⟨j + 1, x / 2, by omega, by go_num, by go_num, by rw [bits_next, ← Hx.out, Ho.out]⟩
        case measure => simp [intOf]; omega
    · obtain rfl : j = 8 := by omega
      obtain rfl : x = Cr.tab k := Hx.out
      go_wp2
      go_ret
      exact ⟨rfl, rfl⟩

set_option maxHeartbeats 2000000 in
set_option maxRecDepth 100000 in
theorem make_any (w : World) : Calls Try.prog 8 #[] w fun e w' => e = .returned (.agg tabA) ∧ Below w.heap.size w w' := by
  have hz := zeroTable
  go_enter Try.func8, Try.ntmps8
  go_wp2
  have f0 : Filled ((w.alloc (.cells zerosA 24)).alloc (.cells zerosA 24)) (w.heap.size + 1) 0 :=
    ⟨zerosA, by have := heap_alloc_new (w.alloc (.cells zerosA 24)) (.cells zerosA 24); rw [World.size_alloc] at this; exact this, zeros_size, fun j hj => absurd hj (by omega)⟩
  have r0 : ((w.alloc (.cells zerosA 24)).alloc (.cells zerosA 24)).heap[w.heap.size]? = some (.cells zerosA 24 (0, 0)) := by
    rw [Below.heap_alloc _ _ _ (by simp)]; exact heap_alloc_new w _
  have F0 := Lib.hid f0
  have R0 := Lib.hid r0
  clear f0 r0 hz
  go_loopw [2, 3] (fun _ i wr => ∃ k : Nat, k ≤ 256 ∧ i = .int .i64 (k : Int) ∧ Filled wr (w.heap.size + 1) k ∧ wr.heap[w.heap.size]? = some (.cells zerosA 24 (0, 0)) ∧ Below w.heap.size w wr) (fun _ i _ => 256 - (intOf i).toNat)
  case atStart => exact ⟨0, by omega, rfl, F0.out, R0.out, bnew (bnew (Below.refl _ _) _) _⟩
  case round =>
    obtain ⟨k, hk, rfl, hF, hR, hL⟩ := hrel
    by_cases hlt : k < 256
    · obtain ⟨u, hu⟩ := hF.cell k hlt
      have hf := hF.free k
      have HF := Lib.hid (hF.step hlt)
      have HR := Lib.hid hR
      clear hF hR
      have H := Lib.hid (shifted_any k hlt)
      go_wp2_with (go_at_call 13; refine (H.out _).mono ?_; rintro e w1 ⟨rfl, rfl⟩)
      go_roundw
      case rel => exact ⟨k + 1, by omega, by go_num, HF.out, (Below.heap_setCell _ _ _ _ (by simp)).trans HR.out, hL.setCell (p := ⟨w.heap.size + 1, k, none⟩) (by simp) _⟩
      case measure => simp [intOf]; omega
    · obtain rfl : k = 256 := by omega
      have hT := hF.all
      have Hst := Lib.hid (storeTabAt wr w.heap.size zerosA hR zeros_size)
      clear hF
      have hsz := tabA_size
      go_wp2
      refine wp_load_row 24 _ rfl (w.heap.size + 1) rfl 24 tabA (0, 0) _ hT Try.underlying24 rfl (by rw [tabA_size]; exact sizeTable) ?_
      go_wp2
      rw [Hst.out]
      go_wp2
      have hrow : (wr.setRow w.heap.size tabA).heap[w.heap.size]? = some (.cells tabA 24 (0, 0)) := setRow_heap wr w.heap.size zerosA tabA _ _ hR
      refine bodyPost_ret (results_cell_row rfl _ _ w.heap.size 24 tabA (0, 0) _ rfl hrow Try.underlying24 rfl (by rw [tabA_size]; exact sizeTable)) rfl ⟨rfl, ?_⟩
      exact hL.trans ⟨rfl, rfl, rfl, by simp [World.setRow], fun k hk => setRow_other wr w.heap.size k tabA (by omega)⟩
end Go.Proofs.Ytjnbkjfpbbjepaa
