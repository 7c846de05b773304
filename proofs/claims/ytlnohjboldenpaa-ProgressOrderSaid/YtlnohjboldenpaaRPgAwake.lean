/-
  Layer 12's law: awake walked.
-/
import Derived.Test.YtlnohjboldenpaaRPgRefu
set_option linter.unusedSimpArgs false
set_option linter.unusedVariables false
namespace Go.Proofs.Ytlnohjboldenpaa
open Go.RowKit
/-- Cells of a peer of these numbers. -/
def pgL (m n r s c : Int) : Array Value := #[.int .u64 m, .int .u64 n, .int .u64 r, .int .u64 s, .int .u8 c]
theorem pgl_all (m n r s c : Int) : (pgL m n r s c).all (·.oneCell') = true := by simp [pgL, Value.oneCell']
theorem pgl_size (m n r s c : Int) : (Try.prog.info? 57).map (·.size) = some (pgL m n r s c).size := sizePg
set_option maxRecDepth 100000 in
set_option maxHeartbeats 2000000 in
theorem awake12_any (w : World) : Calls Try.prog 28 #[] w (RetP (.bool true) w) := by
  have N7 : Hid (∀ W, Calls Try.prog 37 #[.int .u64 7] W (RetP (.agg #[.int .u64 0, .int .u64 8, .int .u64 0, .int .u64 0, .int .u8 0]) W)) := Lib.hid fun W => pnew_any 7 (by decide) W
  have N0 : Hid (∀ W, Calls Try.prog 37 #[.int .u64 0] W (RetP (.agg #[.int .u64 0, .int .u64 1, .int .u64 0, .int .u64 0, .int .u8 0]) W)) := Lib.hid fun W => pnew_any 0 (by decide) W
  have T7 : Hid (∀ W, Calls Try.prog 30 #[.agg #[.int .u64 0, .int .u64 8, .int .u64 0, .int .u64 0, .int .u8 0], .bool false, .int .u64 4, .int .u64 1] W (RetP (.agg #[.int .u64 0, .int .u64 5, .int .u64 1, .int .u64 0, .int .u8 0]) W)) := Lib.hid fun W => ptold_any ⟨0, 8, 0, 0, 0⟩ (by decide) false 4 1 (by decide) W
  have S0 : Hid (∀ W, Calls Try.prog 32 #[.agg #[.int .u64 0, .int .u64 1, .int .u64 0, .int .u64 0, .int .u8 0], .int .u64 6] W (RetP (.agg #[.int .u64 0, .int .u64 1, .int .u64 0, .int .u64 6, .int .u8 0]) W)) := Lib.hid fun W => psend_any ⟨0, 1, 0, 0, 0⟩ 6 W
  have C0 : Hid (∀ W, Calls Try.prog 35 #[.agg #[.int .u64 0, .int .u64 1, .int .u64 0, .int .u64 6, .int .u8 0], .int .u64 6, .int .u8 4] W (RetP (.agg #[.int .u64 0, .int .u64 1, .int .u64 0, .int .u64 6, .int .u8 4]) W)) := Lib.hid fun W => psect_any ⟨0, 1, 0, 6, 0⟩ 6 4 W
  have T0 : Hid (∀ W, Calls Try.prog 30 #[.agg #[.int .u64 0, .int .u64 1, .int .u64 0, .int .u64 6, .int .u8 4], .bool true, .int .u64 6, .int .u64 0] W (RetP (.agg #[.int .u64 6, .int .u64 7, .int .u64 0, .int .u64 0, .int .u8 0]) W)) := Lib.hid fun W => ptold_any ⟨0, 1, 0, 6, 4⟩ (by decide) true 6 0 (by decide) W
  have E5 : Hid (∀ W, Calls Try.prog 34 #[.agg #[.int .u64 0, .int .u64 5, .int .u64 1, .int .u64 0, .int .u8 0], .int .u64 5] W (RetP (.bool true) W)) := Lib.hid fun W => needs_any ⟨0, 5, 1, 0, 0⟩ 5 W
  have E4 : Hid (∀ W, Calls Try.prog 34 #[.agg #[.int .u64 0, .int .u64 5, .int .u64 1, .int .u64 0, .int .u8 0], .int .u64 4] W (RetP (.bool false) W)) := Lib.hid fun W => needs_any ⟨0, 5, 1, 0, 0⟩ 4 W
  have q1 : ∀ W : World, (binOp .eql 57 (.agg #[.int .u64 0, .int .u64 5, .int .u64 1, .int .u64 0, .int .u8 0]) (.agg #[.int .u64 0, .int .u64 5, .int .u64 1, .int .u64 0, .int .u8 0])).run Try.prog W = .ok (.bool true) W := fun W => pg_eql ⟨0, 5, 1, 0, 0⟩ ⟨0, 5, 1, 0, 0⟩ W
  have q2 : ∀ W : World, (binOp .eql 57 (.agg #[.int .u64 6, .int .u64 7, .int .u64 0, .int .u64 0, .int .u8 0]) (.agg #[.int .u64 6, .int .u64 7, .int .u64 0, .int .u64 0, .int .u8 0])).run Try.prog W = .ok (.bool true) W := fun W => pg_eql ⟨6, 7, 0, 0, 0⟩ ⟨6, 7, 0, 0, 0⟩ W
  go_enter Try.func28, Try.ntmps28
  go_upto_region 2 with (first
    | (go_at_call 30; refine (T7.out _).mono ?_; rintro e w2 ⟨rfl, b2⟩)
    | (go_at_call 37; refine (N7.out _).mono ?_; rintro e w1 ⟨rfl, b1⟩))
  refine forget (fun W => Rw W w2.heap.size #[.int .u64 0, .int .u64 5, .int .u64 1, .int .u64 0, .int .u8 0] 57 ∧ Bl w W) ⟨Rw.new w2 _ _, bnew (bnext b1 b2) _⟩ ?_
  generalize w2.heap.size = g
  intro W3 H3
  have HR3 := Lib.hid H3.1
  have HB3 := Lib.hid H3.2
  clear H3 b1 b2 N7 T7
  go_upto_region 3 with (first
    | (go_at_call 30; refine (T0.out _).mono ?_; rintro e w7 ⟨rfl, b7⟩)
    | (go_at_call 35; refine (C0.out _).mono ?_; rintro e w6 ⟨rfl, b6⟩)
    | (go_at_call 32; refine (S0.out _).mono ?_; rintro e w5 ⟨rfl, b5⟩)
    | (go_at_call 37; refine (N0.out _).mono ?_; rintro e w4 ⟨rfl, b4⟩))
  have b47 := bnext (bnext (bnext b4 b5) b6) b7
  refine forget (fun W => Rw W g #[.int .u64 0, .int .u64 5, .int .u64 1, .int .u64 0, .int .u8 0] 57 ∧ Rw W w7.heap.size #[.int .u64 6, .int .u64 7, .int .u64 0, .int .u64 0, .int .u8 0] 57 ∧ Bl w W) ⟨HR3.out.bel (bnew b47 _), Rw.new w7 _ _, bnew (bnext HB3.out b47) _⟩ ?_
  generalize w7.heap.size = h
  intro W8 H8
  have HR : Hid (∀ W, Below W8.heap.size W8 W → Rw W g #[.int .u64 0, .int .u64 5, .int .u64 1, .int .u64 0, .int .u8 0] 57 ∧ Rw W h #[.int .u64 6, .int .u64 7, .int .u64 0, .int .u64 0, .int .u8 0] 57) := Lib.hid fun W hb => ⟨H8.1.bel hb, H8.2.1.bel hb⟩
  have HB8 := Lib.hid H8.2.2
  clear H8 HR3 HB3 b4 b5 b6 b7 b47 N0 T0 C0 S0
  go_wp2_with (first
    | (refine wpList_load_sub (by kernel_rfl) 57 _ rfl h 0 rfl 57 _ #[.int .u64 6, .int .u64 7, .int .u64 0, .int .u64 0, .int .u8 0] (0, 0) _ (HR.out _ z4).2 (fun j hj => by rw [Nat.zero_add]) Try.underlying57 rfl sizePg ?_)
    | (go_at_call 34; refine (E4.out _).mono ?_; rintro e x4 ⟨rfl, y4⟩; have z4 := bnext z5 y4)
    | (refine wpList_load_sub (by kernel_rfl) 57 _ rfl g 0 rfl 57 _ #[.int .u64 0, .int .u64 5, .int .u64 1, .int .u64 0, .int .u8 0] (0, 0) _ (HR.out _ z5).1 (fun j hj => by rw [Nat.zero_add]) Try.underlying57 rfl sizePg ?_)
    | (go_at_call 34; refine (E5.out _).mono ?_; rintro e x5 ⟨rfl, y5⟩; have z5 := y5)
    | (refine wpList_load_sub (by kernel_rfl) 57 _ rfl g 0 rfl 57 _ #[.int .u64 0, .int .u64 5, .int .u64 1, .int .u64 0, .int .u8 0] (0, 0) _ (HR.out _ (Below.refl _ _)).1 (fun j hj => by rw [Nat.zero_add]) Try.underlying57 rfl sizePg ?_))
  go_ret
  exact ⟨rfl, bnext HB8.out z4⟩
end Go.Proofs.Ytlnohjboldenpaa
