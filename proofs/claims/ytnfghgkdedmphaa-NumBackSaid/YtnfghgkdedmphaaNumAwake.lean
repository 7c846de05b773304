/-
  The statements' own 'awake' of layer 1 walked: it returns true, and turns nothing that was there.
-/
import Derived.Test.YtnfghgkdedmphaaNumS
import Derived.Test.YtnfghgkdedmphaaNumRead
namespace Go.Proofs.Ytnfghgkdedmphaa
open Go.RowKit

theorem Lies.new (w : World) (vs : List Value) (t : TypeId) : Lies (w.alloc (.cells vs.toArray t)) (some ⟨w.heap.size, 0, none⟩) vs := by
  refine .inr ⟨w.heap.size, 0, rfl, by simp, fun i u hu => ?_⟩
  rw [Nat.zero_add, cell_of_row _ w.heap.size i vs.toArray t (0, 0) (heap_alloc_new w _)]
  simpa using hu

theorem aw1 (w : World) : Calls Try.prog 10 #[.string ⟨#[129, 0, 122]⟩] w fun e w' => e = .returned (.tuple #[.int .u64 128, .int .i64 2, .bool true]) ∧ w = w' :=
  (ReadV_any ⟨#[129, 0, 122]⟩ w (by decide +kernel)).mono fun _ _ h => h
theorem aw2 (w : World) : Calls Try.prog 11 #[.string ⟨#[2, 97, 98, 99]⟩] w fun e w' => e = .returned (.tuple #[.string ⟨#[97, 98]⟩, .int .i64 3, .bool true]) ∧ Below w.heap.size w w' :=
  (ReadS_any ⟨#[2, 97, 98, 99]⟩ w (by decide +kernel)).mono fun _ _ h => h
theorem vs4 : vs [0, 127, 128, 16384] = [0, 127, 129, 0, 129, 128, 0] := by decide +kernel
theorem aw3 (w : World) (A : Option Addr) (h : Lies w A (uc [0, 127, 128, 16384])) : Calls Try.prog 13 #[.slice A 4 4] w fun e w' => e = .returned (.string ⟨#[0, 127, 129, 0, 129, 128, 0]⟩) ∧ Below w.heap.size w w' := by
  have := V_any [0, 127, 128, 16384] (by simp [Nm.top]) A 4 w h (by simp)
  rw [vs4] at this
  exact this
theorem wid2 : Nm.wid 2 258 = [1, 2] := by decide +kernel
theorem aw4 (w : World) : Calls Try.prog 12 #[.int .u64 258, .int .i64 2] w fun e w' => e = .returned (.string ⟨#[1, 2]⟩) ∧ Below w.heap.size w w' := by
  have := U_any 258 2 w (by omega) (by omega)
  rw [wid2] at this
  exact this

set_option maxHeartbeats 1000000 in
theorem awake_any (w : World) : Calls Try.prog 15 #[] w fun e w' => e = .returned (.bool true) ∧ Below w.heap.size w w' := by
  go_enter Try.func15, Try.ntmps15
  go_wp2_with (first | (go_at_call 10; refine (aw1 _).mono ?_; rintro e w' ⟨rfl, rfl⟩) | (go_at_call 11; refine (aw2 _).mono ?_; rintro e w1 ⟨rfl, hb1⟩) | (go_at_call 13; refine (aw3 _ _ (Lies.new _ (uc [0, 127, 128, 16384]) _)).mono ?_; rintro e w2 ⟨rfl, hb2⟩) | (go_at_call 12; refine (aw4 _).mono ?_; rintro e w3 ⟨rfl, hb3⟩))
  go_ret
  exact ⟨rfl, ((hb1.alloc hb1.size _).trans (hb2.mono (by simp; have := hb1.size; omega))).trans (hb3.mono (by have h1 := hb1.size; have h2 := hb2.size; simp at h2; omega))⟩
end Go.Proofs.Ytnfghgkdedmphaa
