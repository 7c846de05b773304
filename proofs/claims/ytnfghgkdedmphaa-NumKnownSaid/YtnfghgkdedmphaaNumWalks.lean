/-
  The statements of layer 1 walked, out of the contracts of the functions that they call.
-/
import Derived.Test.YtnfghgkdedmphaaNumAwake
import Derived.Test.YtnfghgkdedmphaaNumOrder
namespace Go.Proofs.Ytnfghgkdedmphaa
open Go.RowKit

/-- A statement's end: true; what was there is as it was. -/
theorem isTrue {w w1 : World} (h : Below w.heap.size w w1) : (Ending.returned (.bool true) = .returned (.bool true)) ∧ Below w.heap.size w w1 := ⟨rfl, h⟩

/-! NumKnown. -/
theorem rdNone (s : ByteArray) (w : World) (hs : s.size ≤ 9223372036854775807) (h : Nm.readV s.data.toList = none) : Calls Try.prog 10 #[.string s] w fun e w' => e = .returned (.tuple #[.int .u64 0, .int .i64 0, .bool false]) ∧ w = w' := by
  have := ReadV_any s w hs
  rw [h] at this
  exact this

/-- The texts that are no groups. -/
def bad : List ByteArray := [⟨#[]⟩, ⟨#[128, 1]⟩, ⟨#[129]⟩, ⟨#[130, 255, 255, 255, 255, 255, 255, 255, 255, 127]⟩, ⟨#[129, 128, 128, 128, 128, 128, 128, 128, 128, 128, 0]⟩]
theorem bad_none : ∀ s ∈ bad, Nm.readV s.data.toList = none ∧ s.size ≤ 20 := by decide +kernel

def badCells : Array Value := #[.string ⟨#[]⟩, .string ⟨#[128, 1]⟩, .string ⟨#[129]⟩, .string ⟨#[130, 255, 255, 255, 255, 255, 255, 255, 255, 127]⟩, .string ⟨#[129, 128, 128, 128, 128, 128, 128, 128, 128, 128, 0]⟩]
theorem bad_at (w : World) (k : Nat) (hk : k < 5) : ∃ s : ByteArray, (w.alloc (.cells badCells 9)).cell? ⟨w.heap.size, k, none⟩ = some (.string s) ∧ Nm.readV s.data.toList = none ∧ s.size ≤ 20 := by
  have hl : k < bad.length := hk
  refine ⟨bad[k], ?_, bad_none bad[k] (List.getElem_mem hl)⟩
  rw [cell_of_row _ w.heap.size k badCells _ (0, 0) (heap_alloc_new w _)]
  have : badCells = (sc bad).toArray := rfl
  rw [this]
  simp [sc, hl]

theorem kn1 (w : World) : Calls Try.prog 9 #[.string ⟨#[1, 2]⟩, .int .i64 2] w fun e w' => e = .returned (.tuple #[.int .u64 258, .bool true]) ∧ w = w' :=
  ReadU_any ⟨#[1, 2]⟩ 2 w (by decide +kernel) (by omega) (by omega) (by decide +kernel)
theorem kn2 (w : World) : Calls Try.prog 9 #[.string ⟨#[1]⟩, .int .i64 2] w fun e w' => e = .returned (.tuple #[.int .u64 0, .bool false]) ∧ w = w' :=
  ReadU_no ⟨#[1]⟩ 2 w (by decide +kernel)
theorem kn3 (w : World) : Calls Try.prog 10 #[.string ⟨#[129, 255, 255, 255, 255, 255, 255, 255, 255, 127]⟩] w fun e w' => e = .returned (.tuple #[.int .u64 18446744073709551615, .int .i64 10, .bool true]) ∧ w = w' := by
  have := ReadV_any ⟨#[129, 255, 255, 255, 255, 255, 255, 255, 255, 127]⟩ w (by decide +kernel)
  rw [show Nm.readV (ByteArray.mk #[129, 255, 255, 255, 255, 255, 255, 255, 255, 127]).data.toList = some (18446744073709551615, 10) by decide +kernel] at this
  exact this
theorem kn4 (w : World) : Calls Try.prog 11 #[.string ⟨#[2, 97]⟩] w fun e w' => e = .returned (.tuple #[.string ⟨#[]⟩, .int .i64 0, .bool false]) ∧ Below w.heap.size w w' := by
  have := ReadS_any ⟨#[2, 97]⟩ w (by decide +kernel)
  rw [show Nm.readS (ByteArray.mk #[2, 97]).data.toList = none by decide +kernel] at this
  exact this
theorem kn5 (w : World) : Calls Try.prog 12 #[.int .u64 258, .int .i64 1] w fun e w' => e = .returned (.string ⟨#[2]⟩) ∧ Below w.heap.size w w' := by
  have := U_any 258 1 w (by omega) (by omega)
  rw [show Nm.wid 1 258 = [2] by decide +kernel] at this
  exact this
theorem kn6 (w : World) : Calls Try.prog 12 #[.int .u64 1, .int .i64 9] w fun e w' => e = .returned (.string ⟨#[]⟩) ∧ w = w' := U_no 1 9 w (by omega)
theorem kn7 (w : World) : Calls Try.prog 12 #[.int .u64 1, .int .i64 0] w fun e w' => e = .returned (.string ⟨#[]⟩) ∧ w = w' := U_no 1 0 w (by omega)
theorem kn8 (w : World) (A : Option Addr) (h : Lies w A (uc [18446744073709551615])) : Calls Try.prog 13 #[.slice A 1 1] w fun e w' => e = .returned (.string ⟨#[129, 255, 255, 255, 255, 255, 255, 255, 255, 127]⟩) ∧ Below w.heap.size w w' := by
  have := V_any [18446744073709551615] (by simp [Nm.top]) A 1 w h (by simp)
  rw [show vs [18446744073709551615] = [129, 255, 255, 255, 255, 255, 255, 255, 255, 127] by decide +kernel] at this
  exact this
theorem kn9 (w : World) (A : Option Addr) (h : Lies w A (sc [⟨#[97, 98]⟩, ⟨#[]⟩])) : Calls Try.prog 14 #[.slice A 2 2] w fun e w' => e = .returned (.string ⟨#[2, 97, 98, 0]⟩) ∧ Below w.heap.size w w' := by
  have e : sr [⟨#[97, 98]⟩, ⟨#[]⟩] = [2, 97, 98, 0] := by decide +kernel
  have := S_any [⟨#[97, 98]⟩, ⟨#[]⟩] A 2 w h (by simp) (by rw [e]; simp)
  rw [e] at this
  exact this
theorem kn10 (w : World) : Calls Try.prog 13 #[.slice none 0 0] w fun e w' => e = .returned (.string ⟨#[]⟩) ∧ Below w.heap.size w w' :=
  V_any [] (by simp) none 0 w (.inl rfl) (by simp)

set_option maxHeartbeats 2000000 in
set_option maxRecDepth 100000 in
theorem numKnown_walk (w : World) : Calls Try.prog 3 #[] w fun e w' => e = .returned (.bool true) ∧ Below w.heap.size w w' := by
  go_enter Try.func3, Try.ntmps3
  go_wp2_with (first | (go_at_call 9; ((with_reducible refine (kn1 _).mono ?_); rintro e w' ⟨rfl, rfl⟩)) | (go_at_call 9; ((with_reducible refine (kn2 _).mono ?_); rintro e w' ⟨rfl, rfl⟩)))
  go_loop [6, 7, 8, 9, 26] (fun _ _ _ _ i => ∃ k : Nat, k ≤ 5 ∧ i = .int .i64 k) (fun _ _ _ _ i => 5 - (intOf i).toNat)
  case atStart => exact ⟨0, by omega, rfl⟩
  case round =>
    obtain ⟨k, hk, rfl⟩ := hrel
    by_cases hlt : k < 5
    · obtain ⟨s, hcell, hn⟩ := bad_at w k hlt
      unfold badCells at hcell
      have Hn := Lib.hid hn
      clear hn
      go_wp2_with (go_at_call 10; refine (rdNone _ _ (by have := Hn.out.2; omega) Hn.out.1).mono ?_; rintro e w' ⟨rfl, rfl⟩)
      go_round
      case rel => exact ⟨k + 1, by omega, by go_num⟩
      case measure => simp [intOf]; omega
    · go_wp2_with (first | (go_at_call 10; ((with_reducible refine (kn3 _).mono ?_); rintro e w' ⟨rfl, rfl⟩)) | (go_at_call 11; refine (kn4 _).mono ?_; rintro e w1 ⟨rfl, hb1⟩) | (go_at_call 12; ((with_reducible refine (kn5 _).mono ?_); rintro e w2 ⟨rfl, hb2⟩)) | (go_at_call 12; ((with_reducible refine (kn6 _).mono ?_); rintro e w' ⟨rfl, rfl⟩)) | (go_at_call 12; ((with_reducible refine (kn7 _).mono ?_); rintro e w' ⟨rfl, rfl⟩)) | (go_at_call 13; ((with_reducible refine (kn10 _).mono ?_); rintro e w5 ⟨rfl, hb5⟩)) | (go_at_call 13; refine (kn8 _ _ (Lies.new _ (uc [18446744073709551615]) _)).mono ?_; rintro e w3 ⟨rfl, hb3⟩) | (go_at_call 14; refine (kn9 _ _ (Lies.new _ (sc [⟨#[97, 98]⟩, ⟨#[]⟩]) _)).mono ?_; rintro e w4 ⟨rfl, hb4⟩) | (go_at_call 15; refine (awake_any _).mono ?_; rintro e w6 ⟨rfl, hb6⟩))
      go_ret
      exact ⟨rfl, bnext (bnext (bnext (bnew (bnext (bnew (bnext (bnext (bnew (Below.refl _ w) _) hb1) hb2) _) hb3) _) hb4) hb5) hb6⟩
end Go.Proofs.Ytnfghgkdedmphaa
