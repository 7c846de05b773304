/-
  ProgressKnown walked. (gen_pgknown.py)
-/
import Derived.Test.YtlnohjboldenpaaRPgAwake
import Derived.Test.YtlnohjboldenpaaRDkB
import Derived.Lib.QuietBelow
set_option linter.unusedSimpArgs false
set_option linter.unusedVariables false
namespace Go.Proofs.Ytlnohjboldenpaa
open Go.RowKit Go.Sort
set_option maxRecDepth 100000 in
set_option maxHeartbeats 8000000 in
theorem progressKnown_walk (w : World) : Calls Try.prog 6 #[] w fun e w' => e = .returned (.bool true) ∧ Below w.heap.size w w' := by
  have N7 : Hid (∀ W, Calls Try.prog 37 #[.int .u64 7] W (RetP (.agg #[.int .u64 0, .int .u64 8, .int .u64 0, .int .u64 0, .int .u8 0]) W)) := Lib.hid fun W => pnew_any 7 (by decide) W
  have N0 : Hid (∀ W, Calls Try.prog 37 #[.int .u64 0] W (RetP (.agg #[.int .u64 0, .int .u64 1, .int .u64 0, .int .u64 0, .int .u8 0]) W)) := Lib.hid fun W => pnew_any 0 (by decide) W
  have TA : Hid (∀ W, Calls Try.prog 30 #[.agg #[.int .u64 0, .int .u64 8, .int .u64 0, .int .u64 0, .int .u8 0], .bool true, .int .u64 9, .int .u64 3] W (RetP (.agg #[.int .u64 9, .int .u64 10, .int .u64 3, .int .u64 0, .int .u8 0]) W)) := Lib.hid fun W => ptold_any ⟨0, 8, 0, 0, 0⟩ (by decide) true 9 3 (by decide) W
  have S0 : Hid (∀ W, Calls Try.prog 32 #[.agg #[.int .u64 0, .int .u64 1, .int .u64 0, .int .u64 0, .int .u8 0], .int .u64 6] W (RetP (.agg #[.int .u64 0, .int .u64 1, .int .u64 0, .int .u64 6, .int .u8 0]) W)) := Lib.hid fun W => psend_any ⟨0, 1, 0, 0, 0⟩ 6 W
  have C5 : Hid (∀ W, Calls Try.prog 35 #[.agg #[.int .u64 0, .int .u64 1, .int .u64 0, .int .u64 6, .int .u8 0], .int .u64 6, .int .u8 5] W (RetP (.agg #[.int .u64 0, .int .u64 1, .int .u64 0, .int .u64 6, .int .u8 0]) W)) := Lib.hid fun W => psect_any ⟨0, 1, 0, 6, 0⟩ 6 5 W
  have C3 : Hid (∀ W, Calls Try.prog 35 #[.agg #[.int .u64 0, .int .u64 1, .int .u64 0, .int .u64 6, .int .u8 0], .int .u64 5, .int .u8 3] W (RetP (.agg #[.int .u64 0, .int .u64 1, .int .u64 0, .int .u64 6, .int .u8 0]) W)) := Lib.hid fun W => psect_any ⟨0, 1, 0, 6, 0⟩ 5 3 W
  have C1 : Hid (∀ W, Calls Try.prog 35 #[.agg #[.int .u64 0, .int .u64 1, .int .u64 0, .int .u64 6, .int .u8 0], .int .u64 6, .int .u8 1] W (RetP (.agg #[.int .u64 0, .int .u64 1, .int .u64 0, .int .u64 6, .int .u8 1]) W)) := Lib.hid fun W => psect_any ⟨0, 1, 0, 6, 0⟩ 6 1 W
  have D1 : Hid (∀ W, Calls Try.prog 30 #[.agg #[.int .u64 9, .int .u64 10, .int .u64 3, .int .u64 0, .int .u8 0], .bool false, .int .u64 4, .int .u64 2] W (RetP (.agg #[.int .u64 9, .int .u64 10, .int .u64 3, .int .u64 0, .int .u8 0]) W)) := Lib.hid fun W => ptold_any ⟨9, 10, 3, 0, 0⟩ (by decide) false 4 2 (by decide) W
  have D2 : Hid (∀ W, Calls Try.prog 32 #[.agg #[.int .u64 0, .int .u64 1, .int .u64 0, .int .u64 6, .int .u8 0], .int .u64 6] W (RetP (.agg #[.int .u64 0, .int .u64 1, .int .u64 0, .int .u64 6, .int .u8 0]) W)) := Lib.hid fun W => psend_any ⟨0, 1, 0, 6, 0⟩ 6 W
  have D3 : Hid (∀ W, Calls Try.prog 32 #[.agg #[.int .u64 0, .int .u64 1, .int .u64 0, .int .u64 6, .int .u8 1], .int .u64 7] W (RetP (.agg #[.int .u64 0, .int .u64 1, .int .u64 0, .int .u64 7, .int .u8 0]) W)) := Lib.hid fun W => psend_any ⟨0, 1, 0, 6, 1⟩ 7 W
  have D4 : Hid (∀ W, Calls Try.prog 30 #[.agg #[.int .u64 0, .int .u64 1, .int .u64 0, .int .u64 6, .int .u8 1], .bool true, .int .u64 6, .int .u64 0] W (RetP (.agg #[.int .u64 6, .int .u64 7, .int .u64 0, .int .u64 0, .int .u8 0]) W)) := Lib.hid fun W => ptold_any ⟨0, 1, 0, 6, 1⟩ (by decide) true 6 0 (by decide) W
  have D5 : Hid (∀ W, Calls Try.prog 30 #[.agg #[.int .u64 0, .int .u64 1, .int .u64 0, .int .u64 6, .int .u8 1], .bool true, .int .u64 5, .int .u64 0] W (RetP (.agg #[.int .u64 5, .int .u64 6, .int .u64 0, .int .u64 6, .int .u8 1]) W)) := Lib.hid fun W => ptold_any ⟨0, 1, 0, 6, 1⟩ (by decide) true 5 0 (by decide) W
  have D6 : Hid (∀ W, Calls Try.prog 35 #[.agg #[.int .u64 0, .int .u64 8, .int .u64 0, .int .u64 0, .int .u8 0], .int .u64 0, .int .u8 0] W (RetP (.agg #[.int .u64 0, .int .u64 8, .int .u64 0, .int .u64 0, .int .u8 0]) W)) := Lib.hid fun W => psect_any ⟨0, 8, 0, 0, 0⟩ 0 0 W
  have HAw := Lib.hid awake12_any
  go_enter Try.func6, Try.ntmps6
  go_upto_region 2 with (first
    | (go_at_call 37; refine (N7.out _).mono ?_; rintro e x0_0 ⟨rfl, bx0_0⟩))
  refine forget (fun W => Rw W x0_0.heap.size #[.int .u64 0, .int .u64 8, .int .u64 0, .int .u64 0, .int .u8 0] 57 ∧ Bl w W) ⟨Rw.new x0_0 _ _, bnew bx0_0 _⟩ ?_
  generalize x0_0.heap.size = g1
  clear bx0_0 N7
  intro W1 ⟨r1, hB⟩
  have HR1 := Lib.hid r1
  have HB := Lib.hid hB
  clear r1 hB
  go_upto_region 3 with (first
    | (go_at_call 30; refine (TA.out _).mono ?_; rintro e x1_0 ⟨rfl, bx1_0⟩)
    | (refine wpList_load_sub (by kernel_rfl) 57 _ rfl g1 0 rfl 57 _ #[.int .u64 0, .int .u64 8, .int .u64 0, .int .u64 0, .int .u8 0] (0, 0) _ HR1.out (fun j hj => by rw [Nat.zero_add]) Try.underlying57 rfl sizePg ?_))
  refine forget (fun W => Rw W g1 #[.int .u64 0, .int .u64 8, .int .u64 0, .int .u64 0, .int .u8 0] 57 ∧ Rw W x1_0.heap.size #[.int .u64 9, .int .u64 10, .int .u64 3, .int .u64 0, .int .u8 0] 57 ∧ Bl w W) ⟨HR1.out.bel (bnew bx1_0 _), Rw.new x1_0 _ _, bnew (bnext HB.out bx1_0) _⟩ ?_
  generalize x1_0.heap.size = g2
  clear bx1_0 HB HR1 TA
  intro W2 ⟨r1, r2, hB⟩
  have HR1 := Lib.hid r1
  have HR2 := Lib.hid r2
  have HB := Lib.hid hB
  clear r1 r2 hB
  go_upto_region 4 with (first
    | (go_at_call 32; refine (S0.out _).mono ?_; rintro e x2_0 ⟨rfl, bx2_0⟩)
    | (go_at_call 37; refine (N0.out _).mono ?_; rintro e x2_1 ⟨rfl, bx2_1⟩))
  refine forget (fun W => Rw W g1 #[.int .u64 0, .int .u64 8, .int .u64 0, .int .u64 0, .int .u8 0] 57 ∧ Rw W g2 #[.int .u64 9, .int .u64 10, .int .u64 3, .int .u64 0, .int .u8 0] 57 ∧ Rw W x2_0.heap.size #[.int .u64 0, .int .u64 1, .int .u64 0, .int .u64 6, .int .u8 0] 57 ∧ Bl w W) ⟨HR1.out.bel (bnew (bnext bx2_1 bx2_0) _), HR2.out.bel (bnew (bnext bx2_1 bx2_0) _), Rw.new x2_0 _ _, bnew (bnext HB.out (bnext bx2_1 bx2_0)) _⟩ ?_
  generalize x2_0.heap.size = g3
  clear bx2_0 bx2_1 HB HR1 HR2 S0 N0
  intro W3 ⟨r1, r2, r3, hB⟩
  have HR1 := Lib.hid r1
  have HR2 := Lib.hid r2
  have HR3 := Lib.hid r3
  have HB := Lib.hid hB
  clear r1 r2 r3 hB
  go_upto_region 5 with (first
    | (go_at_call 35; refine (C5.out _).mono ?_; rintro e x3_0 ⟨rfl, bx3_0⟩)
    | (refine wpList_load_sub (by kernel_rfl) 57 _ rfl g3 0 rfl 57 _ #[.int .u64 0, .int .u64 1, .int .u64 0, .int .u64 6, .int .u8 0] (0, 0) _ HR3.out (fun j hj => by rw [Nat.zero_add]) Try.underlying57 rfl sizePg ?_))
  refine forget (fun W => Rw W g1 #[.int .u64 0, .int .u64 8, .int .u64 0, .int .u64 0, .int .u8 0] 57 ∧ Rw W g2 #[.int .u64 9, .int .u64 10, .int .u64 3, .int .u64 0, .int .u8 0] 57 ∧ Rw W g3 #[.int .u64 0, .int .u64 1, .int .u64 0, .int .u64 6, .int .u8 0] 57 ∧ Rw W x3_0.heap.size #[.int .u64 0, .int .u64 1, .int .u64 0, .int .u64 6, .int .u8 0] 57 ∧ Bl w W) ⟨HR1.out.bel (bnew bx3_0 _), HR2.out.bel (bnew bx3_0 _), HR3.out.bel (bnew bx3_0 _), Rw.new x3_0 _ _, bnew (bnext HB.out bx3_0) _⟩ ?_
  generalize x3_0.heap.size = g4
  clear bx3_0 HB HR1 HR2 HR3 C5
  intro W4 ⟨r1, r2, r3, r4, hB⟩
  have HR1 := Lib.hid r1
  have HR2 := Lib.hid r2
  have HR3 := Lib.hid r3
  have HR4 := Lib.hid r4
  have HB := Lib.hid hB
  clear r1 r2 r3 r4 hB
  go_upto_region 6 with (first
    | (go_at_call 35; refine (C3.out _).mono ?_; rintro e x4_0 ⟨rfl, bx4_0⟩)
    | (refine wpList_load_sub (by kernel_rfl) 57 _ rfl g3 0 rfl 57 _ #[.int .u64 0, .int .u64 1, .int .u64 0, .int .u64 6, .int .u8 0] (0, 0) _ HR3.out (fun j hj => by rw [Nat.zero_add]) Try.underlying57 rfl sizePg ?_))
  refine forget (fun W => Rw W g1 #[.int .u64 0, .int .u64 8, .int .u64 0, .int .u64 0, .int .u8 0] 57 ∧ Rw W g2 #[.int .u64 9, .int .u64 10, .int .u64 3, .int .u64 0, .int .u8 0] 57 ∧ Rw W g3 #[.int .u64 0, .int .u64 1, .int .u64 0, .int .u64 6, .int .u8 0] 57 ∧ Rw W g4 #[.int .u64 0, .int .u64 1, .int .u64 0, .int .u64 6, .int .u8 0] 57 ∧ Rw W x4_0.heap.size #[.int .u64 0, .int .u64 1, .int .u64 0, .int .u64 6, .int .u8 0] 57 ∧ Bl w W) ⟨HR1.out.bel (bnew bx4_0 _), HR2.out.bel (bnew bx4_0 _), HR3.out.bel (bnew bx4_0 _), HR4.out.bel (bnew bx4_0 _), Rw.new x4_0 _ _, bnew (bnext HB.out bx4_0) _⟩ ?_
  generalize x4_0.heap.size = g5
  clear bx4_0 HB HR1 HR2 HR3 HR4 C3
  intro W5 ⟨r1, r2, r3, r4, r5, hB⟩
  have HR1 := Lib.hid r1
  have HR2 := Lib.hid r2
  have HR3 := Lib.hid r3
  have HR4 := Lib.hid r4
  have HR5 := Lib.hid r5
  have HB := Lib.hid hB
  clear r1 r2 r3 r4 r5 hB
  go_upto_region 7 with (first
    | (go_at_call 35; refine (C1.out _).mono ?_; rintro e x5_0 ⟨rfl, bx5_0⟩)
    | (refine wpList_load_sub (by kernel_rfl) 57 _ rfl g3 0 rfl 57 _ #[.int .u64 0, .int .u64 1, .int .u64 0, .int .u64 6, .int .u8 0] (0, 0) _ HR3.out (fun j hj => by rw [Nat.zero_add]) Try.underlying57 rfl sizePg ?_))
  refine forget (fun W => Rw W g1 #[.int .u64 0, .int .u64 8, .int .u64 0, .int .u64 0, .int .u8 0] 57 ∧ Rw W g2 #[.int .u64 9, .int .u64 10, .int .u64 3, .int .u64 0, .int .u8 0] 57 ∧ Rw W g3 #[.int .u64 0, .int .u64 1, .int .u64 0, .int .u64 6, .int .u8 0] 57 ∧ Rw W g4 #[.int .u64 0, .int .u64 1, .int .u64 0, .int .u64 6, .int .u8 0] 57 ∧ Rw W g5 #[.int .u64 0, .int .u64 1, .int .u64 0, .int .u64 6, .int .u8 0] 57 ∧ Rw W x5_0.heap.size #[.int .u64 0, .int .u64 1, .int .u64 0, .int .u64 6, .int .u8 1] 57 ∧ Bl w W) ⟨HR1.out.bel (bnew bx5_0 _), HR2.out.bel (bnew bx5_0 _), HR3.out.bel (bnew bx5_0 _), HR4.out.bel (bnew bx5_0 _), HR5.out.bel (bnew bx5_0 _), Rw.new x5_0 _ _, bnew (bnext HB.out bx5_0) _⟩ ?_
  generalize x5_0.heap.size = g6
  clear bx5_0 HB HR1 HR2 HR3 HR4 HR5 C1
  intro W6 ⟨r1, r2, r3, r4, r5, r6, hB⟩
  have HR1 := Lib.hid r1
  have HR2 := Lib.hid r2
  have HR3 := Lib.hid r3
  have HR4 := Lib.hid r4
  have HR5 := Lib.hid r5
  have HR6 := Lib.hid r6
  have HB := Lib.hid hB
  clear r1 r2 r3 r4 r5 r6 hB
  have q1 : ∀ W : World, (binOp .eql 57 (.agg #[.int .u64 0, .int .u64 8, .int .u64 0, .int .u64 0, .int .u8 0]) (.agg #[.int .u64 0, .int .u64 8, .int .u64 0, .int .u64 0, .int .u8 0])).run Try.prog W = .ok (.bool true) W := fun W => pg_eql ⟨0, 8, 0, 0, 0⟩ ⟨0, 8, 0, 0, 0⟩ W
  have q2 : ∀ W : World, (binOp .eql 57 (.agg #[.int .u64 9, .int .u64 10, .int .u64 3, .int .u64 0, .int .u8 0]) (.agg #[.int .u64 9, .int .u64 10, .int .u64 3, .int .u64 0, .int .u8 0])).run Try.prog W = .ok (.bool true) W := fun W => pg_eql ⟨9, 10, 3, 0, 0⟩ ⟨9, 10, 3, 0, 0⟩ W
  have q3 : ∀ W : World, (binOp .eql 57 (.agg #[.int .u64 0, .int .u64 1, .int .u64 0, .int .u64 6, .int .u8 0]) (.agg #[.int .u64 0, .int .u64 1, .int .u64 0, .int .u64 6, .int .u8 0])).run Try.prog W = .ok (.bool true) W := fun W => pg_eql ⟨0, 1, 0, 6, 0⟩ ⟨0, 1, 0, 6, 0⟩ W
  have q4 : ∀ W : World, (binOp .eql 57 (.agg #[.int .u64 0, .int .u64 1, .int .u64 0, .int .u64 7, .int .u8 0]) (.agg #[.int .u64 0, .int .u64 1, .int .u64 0, .int .u64 7, .int .u8 0])).run Try.prog W = .ok (.bool true) W := fun W => pg_eql ⟨0, 1, 0, 7, 0⟩ ⟨0, 1, 0, 7, 0⟩ W
  have q5 : ∀ W : World, (binOp .eql 57 (.agg #[.int .u64 6, .int .u64 7, .int .u64 0, .int .u64 0, .int .u8 0]) (.agg #[.int .u64 6, .int .u64 7, .int .u64 0, .int .u64 0, .int .u8 0])).run Try.prog W = .ok (.bool true) W := fun W => pg_eql ⟨6, 7, 0, 0, 0⟩ ⟨6, 7, 0, 0, 0⟩ W
  have k6 := fun d os => cell_regrown (HR6.out.cell 4 (v := .int .u8 1) rfl) d os
  have hf : ∀ W : World, (Instr.field 57 (.agg #[.int .u64 5, .int .u64 6, .int .u64 0, .int .u64 6, .int .u8 1]) 4).run Try.prog W = .ok (.int .u8 1) W := fun W => by kernel_rfl
  refine wp_region_quiet_below (by kernel_rfl) (by kernel_rfl) ?_
  repeat (first
    | (refine wpQuiet_load_sub (by kernel_rfl) 57 _ rfl g1 0 rfl 57 _ #[.int .u64 0, .int .u64 8, .int .u64 0, .int .u64 0, .int .u8 0] (0, 0) _ HR1.out (fun j hj => by rw [Nat.zero_add]) Try.underlying57 rfl sizePg ?_; (conv => arg 6; simp [Act.put]))
    | (refine wpQuiet_load_sub (by kernel_rfl) 57 _ rfl g2 0 rfl 57 _ #[.int .u64 9, .int .u64 10, .int .u64 3, .int .u64 0, .int .u8 0] (0, 0) _ HR2.out (fun j hj => by rw [Nat.zero_add]) Try.underlying57 rfl sizePg ?_; (conv => arg 6; simp [Act.put]))
    | (refine wpQuiet_load_sub (by kernel_rfl) 57 _ rfl g3 0 rfl 57 _ #[.int .u64 0, .int .u64 1, .int .u64 0, .int .u64 6, .int .u8 0] (0, 0) _ HR3.out (fun j hj => by rw [Nat.zero_add]) Try.underlying57 rfl sizePg ?_; (conv => arg 6; simp [Act.put]))
    | (refine wpQuiet_load_sub (by kernel_rfl) 57 _ rfl g4 0 rfl 57 _ #[.int .u64 0, .int .u64 1, .int .u64 0, .int .u64 6, .int .u8 0] (0, 0) _ HR4.out (fun j hj => by rw [Nat.zero_add]) Try.underlying57 rfl sizePg ?_; (conv => arg 6; simp [Act.put]))
    | (refine wpQuiet_load_sub (by kernel_rfl) 57 _ rfl g5 0 rfl 57 _ #[.int .u64 0, .int .u64 1, .int .u64 0, .int .u64 6, .int .u8 0] (0, 0) _ HR5.out (fun j hj => by rw [Nat.zero_add]) Try.underlying57 rfl sizePg ?_; (conv => arg 6; simp [Act.put]))
    | (refine wpQuiet_load_sub (by kernel_rfl) 57 _ rfl g6 0 rfl 57 _ #[.int .u64 0, .int .u64 1, .int .u64 0, .int .u64 6, .int .u8 1] (0, 0) _ HR6.out (fun j hj => by rw [Nat.zero_add]) Try.underlying57 rfl sizePg ?_; (conv => arg 6; simp [Act.put]))
    | (go_big_quiet_step ((first | (go_at_call 30; with_reducible exact Calls.regrown_of (D1.out _)) | (go_at_call 32; with_reducible exact Calls.regrown_of (D2.out _)) | (go_at_call 32; with_reducible exact Calls.regrown_of (D3.out _)) | (go_at_call 30; with_reducible exact Calls.regrown_of (D4.out _)) | (go_at_call 30; with_reducible exact Calls.regrown_of (D5.out _)) | (go_at_call 35; with_reducible exact Calls.regrown_of (D6.out _)) | (go_at_call 28; exact Calls.regrown_of (HAw.out _))))))
  refine wpQuiet_nil ?_
  intro _ hw'
  obtain ⟨pq, hw''⟩ := hw'
  subst hw''
  have hb1 := below_regrown W6 pq.d pq.os
  go_wp2_with fail
  go_ret
  exact ⟨rfl, bnext HB.out hb1⟩
end Go.Proofs.Ytlnohjboldenpaa
