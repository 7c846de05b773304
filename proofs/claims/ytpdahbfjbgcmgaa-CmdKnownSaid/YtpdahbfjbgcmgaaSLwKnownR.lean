/-
  CmdKnown's region 20, whose order is open. WRITTEN BY wip/tools/gen_lwknownr.py.
-/
import Derived.Test.YtpdahbfjbgcmgaaSCmd
import Derived.Test.YtpdahbfjbgcmgaaSReg2
set_option linter.unusedSimpArgs false
set_option linter.unusedVariables false
namespace Go.Proofs.Ytpdahbfjbgcmgaa
open Go.RowKit
set_option linter.unusedVariables false
noncomputable def lwk20C : Code := ((Try.f3.body.bind (Reg.findRegion 20)).getD .skip)
set_option maxRecDepth 100000 in
set_option maxHeartbeats 4000000 in
theorem lwk20 {c0 c1 c2 c3 c4 c5 c6 c8 c9 c10 c11 c12 c13 c14 c15 c16 c17 c18 c19 c20 c21 c22 c23 c24 c25 c26 c27 c28 c29 c30 c31 c32 c33 c34 c35 c36 c37 c38 c39 c40 c41 c42 c43 c44 c45 c46 c47 c48 c49 c50 c51 c52 c53 c54 c55 c56 c57 c58 c59 c60 c61 c62 c63 c64 c65 c66 c67 c68 c69 c70 c71 c72 c73 c74 c75 c76 c77 c78 c79 c80 c81 c82 c83 c84 c85 c86 c87 c88 c89 c90 c91 c92 c93 c94 c95 c96 c97 c98 c99 c100 c101 c102 c103 c104 c105 c106 c107 c108 c109 c110 c111 c112 c113 c114 c115 c116 c117 c118 c119 c120 c121 c122 c123 : Value} (L x1 x2 x3 : ByteArray) (w : World) (hL : L.size = 65) (h16 : L.extract 0 16 = x1) (h64 : L.extract 0 64 = x2) (h17 : L.extract 0 17 = x3)
   (hO1 : ∀ W, Calls Try.prog 18 #[.agg #[.int .u8 0, .int .u64 0, .int .u64 0, .string x1, .string x2, .string x2, .string x1, .string x1, .int .u8 0, .int .u64 0, .int .u64 0, .slice none 0 0]] W fun e w' => e = .returned (.bool false) ∧ Below W.heap.size W w')
   (hO2 : ∀ W, Calls Try.prog 18 #[.agg #[.int .u8 0, .int .u64 0, .int .u64 0, .string ⟨#[]⟩, .string ⟨#[]⟩, .string ⟨#[]⟩, .string ⟨#[]⟩, .string x3, .int .u8 0, .int .u64 0, .int .u64 0, .slice none 0 0]] W fun e w' => e = .returned (.bool true) ∧ Below W.heap.size W w')
   (hO3 : ∀ W, Calls Try.prog 18 #[.agg #[.int .u8 0, .int .u64 0, .int .u64 0, .string ⟨#[]⟩, .string ⟨#[]⟩, .string L, .string ⟨#[]⟩, .string ⟨#[]⟩, .int .u8 0, .int .u64 0, .int .u64 0, .slice none 0 0]] W fun e w' => e = .returned (.bool true) ∧ Below W.heap.size W w')
   (hO4 : ∀ (W : World) (r : Nat), Lies W (some ⟨r, 0, none⟩) [.int .u8 0, .string ⟨#[]⟩, .string ⟨#[]⟩, .int .u8 0, .string x3, .string ⟨#[]⟩] → Calls Try.prog 18 #[.agg #[.int .u8 0, .int .u64 0, .int .u64 0, .string ⟨#[]⟩, .string ⟨#[]⟩, .string ⟨#[]⟩, .string ⟨#[]⟩, .string ⟨#[]⟩, .int .u8 0, .int .u64 0, .int .u64 0, .slice (some ⟨r, 0, none⟩) 2 2]] W fun e w' => e = .returned (.bool true) ∧ Below W.heap.size W w') (Q : Exit → Act → World → Prop)
   (h : ∀ (u29 u30 : Value) (w' : World), Below w.heap.size w w' → Q .normal ⟨#[c0, c1, c2, c3, c4, c5, c6, .string L, .bool true, c9, c10, c11, c12, c13, c14, c15, c16, c17, c18, c19, c20, c21, c22, c23, c24, c25, c26, c27, c28, c29, c30, c31, c32, c33, c34, c35, c36, c37, c38, c39, c40, c41, c42, c43, c44, c45, c46, c47, c48, c49, c50, c51, c52, c53, c54, c55, c56, c57, c58, c59, c60, c61, c62, c63, c64, c65, c66, c67, .string L, .string x1, .string L, .string x1, .string L, .string x1, .string L, .string x2, .string L, .string x2, .agg #[.int .u8 0, .int .u64 0, .int .u64 0, .string x1, .string x2, .string x2, .string x1, .string x1, .int .u8 0, .int .u64 0, .int .u64 0, .slice none 0 0], .bool false, .bool true, .bool true, .string L, .string x3, .agg #[.int .u8 0, .int .u64 0, .int .u64 0, .string ⟨#[]⟩, .string ⟨#[]⟩, .string ⟨#[]⟩, .string ⟨#[]⟩, .string x3, .int .u8 0, .int .u64 0, .int .u64 0, .slice none 0 0], .bool true, .bool true, .bool true, .string L, .agg #[.int .u8 0, .int .u64 0, .int .u64 0, .string ⟨#[]⟩, .string ⟨#[]⟩, .string L, .string ⟨#[]⟩, .string ⟨#[]⟩, .int .u8 0, .int .u64 0, .int .u64 0, .slice none 0 0], .bool true, .bool true, .bool true, .agg #[.int .u8 0, .string ⟨#[]⟩, .string ⟨#[]⟩], .string L, .string x3, .agg #[.int .u8 0, .string x3, .string ⟨#[]⟩], u29, u30, .bool true, .bool true, c101, c102, c103, c104, c105, c106, c107, c108, c109, c110, c111, c112, c113, c114, c115, c116, c117, c118, c119, c120, c121, c122, c123], []⟩ w') :
   Code.wp Try.prog lwk20C Q ⟨#[c0, c1, c2, c3, c4, c5, c6, .string L, c8, c9, c10, c11, c12, c13, c14, c15, c16, c17, c18, c19, c20, c21, c22, c23, c24, c25, c26, c27, c28, c29, c30, c31, c32, c33, c34, c35, c36, c37, c38, c39, c40, c41, c42, c43, c44, c45, c46, c47, c48, c49, c50, c51, c52, c53, c54, c55, c56, c57, c58, c59, c60, c61, c62, c63, c64, c65, c66, c67, c68, c69, c70, c71, c72, c73, c74, c75, c76, c77, c78, c79, c80, c81, c82, c83, c84, c85, c86, c87, c88, c89, c90, c91, c92, c93, c94, c95, c96, c97, c98, c99, c100, c101, c102, c103, c104, c105, c106, c107, c108, c109, c110, c111, c112, c113, c114, c115, c116, c117, c118, c119, c120, c121, c122, c123], []⟩ w := by
  obtain ⟨Sp, hSp⟩ : ∃ Sp : Nat → Value → World → Prop, Sp = fun i v w => ∃ r, v = (if i = 29 then .slice (some ⟨r, 0, none⟩) 2 2 else .agg #[.int .u8 0, .int .u64 0, .int .u64 0, .string ⟨#[]⟩, .string ⟨#[]⟩, .string ⟨#[]⟩, .string ⟨#[]⟩, .string ⟨#[]⟩, .int .u8 0, .int .u64 0, .int .u64 0, .slice (some ⟨r, 0, none⟩) 2 2]) ∧ Lies w (some ⟨r, 0, none⟩) [.int .u8 0, .string ⟨#[]⟩, .string ⟨#[]⟩, .int .u8 0, .string x3, .string ⟨#[]⟩] := ⟨_, rfl⟩
  conv => arg 2; whnf
  refine Reg.wp_region_inv (fun w' => Below w.heap.size w w') (fun x y => Below x.heap.size x y) (Reg.KnownI [some (.string L), some (.string x1), some (.string L), some (.string x1), some (.string L), some (.string x1), some (.string L), some (.string x2), some (.string L), some (.string x2), some (.agg #[.int .u8 0, .int .u64 0, .int .u64 0, .string x1, .string x2, .string x2, .string x1, .string x1, .int .u8 0, .int .u64 0, .int .u64 0, .slice none 0 0]), some (.bool false), some (.bool true), some (.bool true), some (.string L), some (.string x3), some (.agg #[.int .u8 0, .int .u64 0, .int .u64 0, .string ⟨#[]⟩, .string ⟨#[]⟩, .string ⟨#[]⟩, .string ⟨#[]⟩, .string x3, .int .u8 0, .int .u64 0, .int .u64 0, .slice none 0 0]), some (.bool true), some (.bool true), some (.bool true), some (.string L), some (.agg #[.int .u8 0, .int .u64 0, .int .u64 0, .string ⟨#[]⟩, .string ⟨#[]⟩, .string L, .string ⟨#[]⟩, .string ⟨#[]⟩, .int .u8 0, .int .u64 0, .int .u64 0, .slice none 0 0]), some (.bool true), some (.bool true), some (.bool true), some (.agg #[.int .u8 0, .string ⟨#[]⟩, .string ⟨#[]⟩]), some (.string L), some (.string x3), some (.agg #[.int .u8 0, .string x3, .string ⟨#[]⟩]), none, none, some (.bool true), some (.bool true), some (.bool true)] Sp) (by kernel_rfl) (by kernel_rfl) (Reg.knownI_mono ?mono) (Below.refl _ _).drew ?steps ?fin
  case mono =>
    intro i v w w' hs hb
    rw [hSp] at hs ⊢
    obtain ⟨r, hr, hl⟩ := hs
    exact ⟨r, hr, hl.below hb⟩
  case steps =>
    intro hB
    refine ⟨?_, ?_, ?_, ?_, ?_, ?_, ?_, ?_, ?_, ?_, ?_, ?_, ?_, ?_, ?_, ?_, ?_, ?_, ?_, ?_, ?_, ?_, ?_, ?_, ?_, ?_, ?_, ?_, ?_, ?_, ?_, ?_, ?_, ?_, trivial⟩
    · -- 0: Op.move (Operand.tmp 7)
      refine Reg.step_run hB (Reg.runs_none rfl) (fun a w1 hI hb hd => ?_)
      have e7 : a.eval (.tmp 7) = .string L := hb 7 (by kernel_rfl)
      exact Reg.run_value (Reg.run_move rfl e7) rfl (Below.refl _ _) hI
    · -- 1: Op.slice 9 (Operand.tmp 68) none (some (Operand.const (Value.int IntKind.i64 16))) none
      refine Reg.step_run hB (Reg.runs_none rfl) (fun a w1 hI hb hd => ?_)
      have e68 : a.eval (.tmp 68) = .string L := hd 0 68 (by kernel_rfl) (by kernel_rfl)
      refine Reg.run_value (v := .string x1) ?_ rfl (Below.refl _ _) hI
      clear hb hd
      have hc := fun v => Reg.eval_const a v
      have hf := fun f => Reg.eval_func a f
      generalize a.eval = ρ at *
      simp [execOp, go_sem, hL, h16, h64, h17, *]
    · -- 2: Op.move (Operand.tmp 7)
      refine Reg.step_run hB (Reg.runs_none rfl) (fun a w1 hI hb hd => ?_)
      have e7 : a.eval (.tmp 7) = .string L := hb 7 (by kernel_rfl)
      exact Reg.run_value (Reg.run_move rfl e7) rfl (Below.refl _ _) hI
    · -- 3: Op.slice 9 (Operand.tmp 70) none (some (Operand.const (Value.int IntKind.i64 16))) none
      refine Reg.step_run hB (Reg.runs_none rfl) (fun a w1 hI hb hd => ?_)
      have e70 : a.eval (.tmp 70) = .string L := hd 2 70 (by kernel_rfl) (by kernel_rfl)
      refine Reg.run_value (v := .string x1) ?_ rfl (Below.refl _ _) hI
      clear hb hd
      have hc := fun v => Reg.eval_const a v
      have hf := fun f => Reg.eval_func a f
      generalize a.eval = ρ at *
      simp [execOp, go_sem, hL, h16, h64, h17, *]
    · -- 4: Op.move (Operand.tmp 7)
      refine Reg.step_run hB (Reg.runs_none rfl) (fun a w1 hI hb hd => ?_)
      have e7 : a.eval (.tmp 7) = .string L := hb 7 (by kernel_rfl)
      exact Reg.run_value (Reg.run_move rfl e7) rfl (Below.refl _ _) hI
    · -- 5: Op.slice 9 (Operand.tmp 72) none (some (Operand.const (Value.int IntKind.i64 16))) none
      refine Reg.step_run hB (Reg.runs_none rfl) (fun a w1 hI hb hd => ?_)
      have e72 : a.eval (.tmp 72) = .string L := hd 4 72 (by kernel_rfl) (by kernel_rfl)
      refine Reg.run_value (v := .string x1) ?_ rfl (Below.refl _ _) hI
      clear hb hd
      have hc := fun v => Reg.eval_const a v
      have hf := fun f => Reg.eval_func a f
      generalize a.eval = ρ at *
      simp [execOp, go_sem, hL, h16, h64, h17, *]
    · -- 6: Op.move (Operand.tmp 7)
      refine Reg.step_run hB (Reg.runs_none rfl) (fun a w1 hI hb hd => ?_)
      have e7 : a.eval (.tmp 7) = .string L := hb 7 (by kernel_rfl)
      exact Reg.run_value (Reg.run_move rfl e7) rfl (Below.refl _ _) hI
    · -- 7: Op.slice 9 (Operand.tmp 74) none (some (Operand.const (Value.int IntKind.i64 64))) none
      refine Reg.step_run hB (Reg.runs_none rfl) (fun a w1 hI hb hd => ?_)
      have e74 : a.eval (.tmp 74) = .string L := hd 6 74 (by kernel_rfl) (by kernel_rfl)
      refine Reg.run_value (v := .string x2) ?_ rfl (Below.refl _ _) hI
      clear hb hd
      have hc := fun v => Reg.eval_const a v
      have hf := fun f => Reg.eval_func a f
      generalize a.eval = ρ at *
      simp [execOp, go_sem, hL, h16, h64, h17, *]
    · -- 8: Op.move (Operand.tmp 7)
      refine Reg.step_run hB (Reg.runs_none rfl) (fun a w1 hI hb hd => ?_)
      have e7 : a.eval (.tmp 7) = .string L := hb 7 (by kernel_rfl)
      exact Reg.run_value (Reg.run_move rfl e7) rfl (Below.refl _ _) hI
    · -- 9: Op.slice 9 (Operand.tmp 76) none (some (Operand.const (Value.int IntKind.i64 64))) none
      refine Reg.step_run hB (Reg.runs_none rfl) (fun a w1 hI hb hd => ?_)
      have e76 : a.eval (.tmp 76) = .string L := hd 8 76 (by kernel_rfl) (by kernel_rfl)
      refine Reg.run_value (v := .string x2) ?_ rfl (Below.refl _ _) hI
      clear hb hd
      have hc := fun v => Reg.eval_const a v
      have hf := fun f => Reg.eval_func a f
      generalize a.eval = ρ at *
      simp [execOp, go_sem, hL, h16, h64, h17, *]
    · -- 10: Op.build 27 #[(3, Operand.tmp 69), (6, Operand.tmp 71), (7, Operand.tmp 73), (4, Operand.tmp 75), (5
      refine Reg.step_run hB (Reg.runs_none rfl) (fun a w1 hI hb hd => ?_)
      have e69 : a.eval (.tmp 69) = .string x1 := hd 1 69 (by kernel_rfl) (by kernel_rfl)
      have e71 : a.eval (.tmp 71) = .string x1 := hd 3 71 (by kernel_rfl) (by kernel_rfl)
      have e73 : a.eval (.tmp 73) = .string x1 := hd 5 73 (by kernel_rfl) (by kernel_rfl)
      have e75 : a.eval (.tmp 75) = .string x2 := hd 7 75 (by kernel_rfl) (by kernel_rfl)
      have e77 : a.eval (.tmp 77) = .string x2 := hd 9 77 (by kernel_rfl) (by kernel_rfl)
      refine Reg.run_value (v := .agg #[.int .u8 0, .int .u64 0, .int .u64 0, .string x1, .string x2, .string x2, .string x1, .string x1, .int .u8 0, .int .u64 0, .int .u64 0, .slice none 0 0]) ?_ rfl (Below.refl _ _) hI
      clear hb hd
      have hc := fun v => Reg.eval_const a v
      have hf := fun f => Reg.eval_func a f
      generalize a.eval = ρ at *
      simp [execOp, go_sem, Try.underlying27, *]
    · -- 11: Op.call { callee := Callee.value (Operand.func 18), args := #[Operand.tmp 78], argTypes := #[27] }
      refine Reg.step_run hB (Reg.runs_none rfl) (fun a w1 hI hb hd => ?_)
      have e78 : a.eval (.tmp 78) = .agg #[.int .u8 0, .int .u64 0, .int .u64 0, .string x1, .string x2, .string x2, .string x1, .string x1, .int .u8 0, .int .u64 0, .int .u64 0, .slice none 0 0] := hd 10 78 (by kernel_rfl) (by kernel_rfl)
      refine Reg.run_call (f := 18) (args := #[.agg #[.int .u8 0, .int .u64 0, .int .u64 0, .string x1, .string x2, .string x2, .string x1, .string x1, .int .u8 0, .int .u64 0, .int .u64 0, .slice none 0 0]]) ?_ (hO1 w1) (fun _ _ => rfl) (fun _ h => bnext hI h)
      clear hb hd
      have hc := fun v => Reg.eval_const a v
      have hf := fun f => Reg.eval_func a f
      generalize a.eval = ρ at *
      simp [go_sem, *]
    · -- 12: Op.unOp UnOp.not 4 (Operand.tmp 79)
      refine Reg.step_run hB (Reg.runs_none rfl) (fun a w1 hI hb hd => ?_)
      have e79 : a.eval (.tmp 79) = .bool false := hd 11 79 (by kernel_rfl) (by kernel_rfl)
      refine Reg.run_value (v := .bool true) ?_ rfl (Below.refl _ _) hI
      clear hb hd
      have hc := fun v => Reg.eval_const a v
      have hf := fun f => Reg.eval_func a f
      generalize a.eval = ρ at *
      simp [execOp, go_sem, *]
    · -- 13: Op.move (Operand.tmp 80)
      refine Reg.step_run hB (Reg.runs_none rfl) (fun a w1 hI hb hd => ?_)
      have e80 : a.eval (.tmp 80) = .bool true := hd 12 80 (by kernel_rfl) (by kernel_rfl)
      exact Reg.run_value (Reg.run_move rfl e80) rfl (Below.refl _ _) hI
    · -- 14: Op.move (Operand.tmp 7)
      refine Reg.step_run hB (Reg.runs_some (d := 81) rfl (by kernel_rfl) (by kernel_rfl) (fun _ _ h => h)) (fun a w1 hI hb hd => ?_)
      have e7 : a.eval (.tmp 7) = .string L := hb 7 (by kernel_rfl)
      exact Reg.run_value (Reg.run_move rfl e7) rfl (Below.refl _ _) hI
    · -- 15: Op.slice 9 (Operand.tmp 82) none (some (Operand.const (Value.int IntKind.i64 17))) none
      refine Reg.step_run hB (Reg.runs_some (d := 81) rfl (by kernel_rfl) (by kernel_rfl) (fun _ _ h => h)) (fun a w1 hI hb hd => ?_)
      have e82 : a.eval (.tmp 82) = .string L := hd 14 82 (by kernel_rfl) (by kernel_rfl)
      refine Reg.run_value (v := .string x3) ?_ rfl (Below.refl _ _) hI
      clear hb hd
      have hc := fun v => Reg.eval_const a v
      have hf := fun f => Reg.eval_func a f
      generalize a.eval = ρ at *
      simp [execOp, go_sem, hL, h16, h64, h17, *]
    · -- 16: Op.build 27 #[(7, Operand.tmp 83)]
      refine Reg.step_run hB (Reg.runs_some (d := 81) rfl (by kernel_rfl) (by kernel_rfl) (fun _ _ h => h)) (fun a w1 hI hb hd => ?_)
      have e83 : a.eval (.tmp 83) = .string x3 := hd 15 83 (by kernel_rfl) (by kernel_rfl)
      refine Reg.run_value (v := .agg #[.int .u8 0, .int .u64 0, .int .u64 0, .string ⟨#[]⟩, .string ⟨#[]⟩, .string ⟨#[]⟩, .string ⟨#[]⟩, .string x3, .int .u8 0, .int .u64 0, .int .u64 0, .slice none 0 0]) ?_ rfl (Below.refl _ _) hI
      clear hb hd
      have hc := fun v => Reg.eval_const a v
      have hf := fun f => Reg.eval_func a f
      generalize a.eval = ρ at *
      simp [execOp, go_sem, Try.underlying27, *]
    · -- 17: Op.call { callee := Callee.value (Operand.func 18), args := #[Operand.tmp 84], argTypes := #[27] }
      refine Reg.step_run hB (Reg.runs_some (d := 81) rfl (by kernel_rfl) (by kernel_rfl) (fun _ _ h => h)) (fun a w1 hI hb hd => ?_)
      have e84 : a.eval (.tmp 84) = .agg #[.int .u8 0, .int .u64 0, .int .u64 0, .string ⟨#[]⟩, .string ⟨#[]⟩, .string ⟨#[]⟩, .string ⟨#[]⟩, .string x3, .int .u8 0, .int .u64 0, .int .u64 0, .slice none 0 0] := hd 16 84 (by kernel_rfl) (by kernel_rfl)
      refine Reg.run_call (f := 18) (args := #[.agg #[.int .u8 0, .int .u64 0, .int .u64 0, .string ⟨#[]⟩, .string ⟨#[]⟩, .string ⟨#[]⟩, .string ⟨#[]⟩, .string x3, .int .u8 0, .int .u64 0, .int .u64 0, .slice none 0 0]]) ?_ (hO2 w1) (fun _ _ => rfl) (fun _ h => bnext hI h)
      clear hb hd
      have hc := fun v => Reg.eval_const a v
      have hf := fun f => Reg.eval_func a f
      generalize a.eval = ρ at *
      simp [go_sem, *]
    · -- 18: Op.pick (Operand.tmp 81) (Operand.tmp 85) (Operand.const (Value.bool false))
      refine Reg.step_run hB (Reg.runs_none rfl) (fun a w1 hI hb hd => ?_)
      have e81 : a.eval (.tmp 81) = .bool true := hd 13 81 (by kernel_rfl) (by kernel_rfl)
      have e85 : a.eval (.tmp 85) = .bool true := hd 17 85 (by kernel_rfl) (by kernel_rfl)
      refine Reg.run_value (v := .bool true) ?_ rfl (Below.refl _ _) hI
      clear hb hd
      have hc := fun v => Reg.eval_const a v
      have hf := fun f => Reg.eval_func a f
      generalize a.eval = ρ at *
      simp [execOp, go_sem, *]
    · -- 19: Op.move (Operand.tmp 86)
      refine Reg.step_run hB (Reg.runs_none rfl) (fun a w1 hI hb hd => ?_)
      have e86 : a.eval (.tmp 86) = .bool true := hd 18 86 (by kernel_rfl) (by kernel_rfl)
      exact Reg.run_value (Reg.run_move rfl e86) rfl (Below.refl _ _) hI
    · -- 20: Op.move (Operand.tmp 7)
      refine Reg.step_run hB (Reg.runs_some (d := 87) rfl (by kernel_rfl) (by kernel_rfl) (fun _ _ h => h)) (fun a w1 hI hb hd => ?_)
      have e7 : a.eval (.tmp 7) = .string L := hb 7 (by kernel_rfl)
      exact Reg.run_value (Reg.run_move rfl e7) rfl (Below.refl _ _) hI
    · -- 21: Op.build 27 #[(5, Operand.tmp 88)]
      refine Reg.step_run hB (Reg.runs_some (d := 87) rfl (by kernel_rfl) (by kernel_rfl) (fun _ _ h => h)) (fun a w1 hI hb hd => ?_)
      have e88 : a.eval (.tmp 88) = .string L := hd 20 88 (by kernel_rfl) (by kernel_rfl)
      refine Reg.run_value (v := .agg #[.int .u8 0, .int .u64 0, .int .u64 0, .string ⟨#[]⟩, .string ⟨#[]⟩, .string L, .string ⟨#[]⟩, .string ⟨#[]⟩, .int .u8 0, .int .u64 0, .int .u64 0, .slice none 0 0]) ?_ rfl (Below.refl _ _) hI
      clear hb hd
      have hc := fun v => Reg.eval_const a v
      have hf := fun f => Reg.eval_func a f
      generalize a.eval = ρ at *
      simp [execOp, go_sem, Try.underlying27, *]
    · -- 22: Op.call { callee := Callee.value (Operand.func 18), args := #[Operand.tmp 89], argTypes := #[27] }
      refine Reg.step_run hB (Reg.runs_some (d := 87) rfl (by kernel_rfl) (by kernel_rfl) (fun _ _ h => h)) (fun a w1 hI hb hd => ?_)
      have e89 : a.eval (.tmp 89) = .agg #[.int .u8 0, .int .u64 0, .int .u64 0, .string ⟨#[]⟩, .string ⟨#[]⟩, .string L, .string ⟨#[]⟩, .string ⟨#[]⟩, .int .u8 0, .int .u64 0, .int .u64 0, .slice none 0 0] := hd 21 89 (by kernel_rfl) (by kernel_rfl)
      refine Reg.run_call (f := 18) (args := #[.agg #[.int .u8 0, .int .u64 0, .int .u64 0, .string ⟨#[]⟩, .string ⟨#[]⟩, .string L, .string ⟨#[]⟩, .string ⟨#[]⟩, .int .u8 0, .int .u64 0, .int .u64 0, .slice none 0 0]]) ?_ (hO3 w1) (fun _ _ => rfl) (fun _ h => bnext hI h)
      clear hb hd
      have hc := fun v => Reg.eval_const a v
      have hf := fun f => Reg.eval_func a f
      generalize a.eval = ρ at *
      simp [go_sem, *]
    · -- 23: Op.pick (Operand.tmp 87) (Operand.tmp 90) (Operand.const (Value.bool false))
      refine Reg.step_run hB (Reg.runs_none rfl) (fun a w1 hI hb hd => ?_)
      have e87 : a.eval (.tmp 87) = .bool true := hd 19 87 (by kernel_rfl) (by kernel_rfl)
      have e90 : a.eval (.tmp 90) = .bool true := hd 22 90 (by kernel_rfl) (by kernel_rfl)
      refine Reg.run_value (v := .bool true) ?_ rfl (Below.refl _ _) hI
      clear hb hd
      have hc := fun v => Reg.eval_const a v
      have hf := fun f => Reg.eval_func a f
      generalize a.eval = ρ at *
      simp [execOp, go_sem, *]
    · -- 24: Op.move (Operand.tmp 91)
      refine Reg.step_run hB (Reg.runs_none rfl) (fun a w1 hI hb hd => ?_)
      have e91 : a.eval (.tmp 91) = .bool true := hd 23 91 (by kernel_rfl) (by kernel_rfl)
      exact Reg.run_value (Reg.run_move rfl e91) rfl (Below.refl _ _) hI
    · -- 25: Op.build 23 #[]
      refine Reg.step_run hB (Reg.runs_some (d := 92) rfl (by kernel_rfl) (by kernel_rfl) (fun _ _ h => h)) (fun a w1 hI hb hd => ?_)
      refine Reg.run_value (v := .agg #[.int .u8 0, .string ⟨#[]⟩, .string ⟨#[]⟩]) ?_ rfl (Below.refl _ _) hI
      clear hb hd
      have hc := fun v => Reg.eval_const a v
      have hf := fun f => Reg.eval_func a f
      generalize a.eval = ρ at *
      simp [execOp, go_sem, Try.underlying23, *]
    · -- 26: Op.move (Operand.tmp 7)
      refine Reg.step_run hB (Reg.runs_some (d := 92) rfl (by kernel_rfl) (by kernel_rfl) (fun _ _ h => h)) (fun a w1 hI hb hd => ?_)
      have e7 : a.eval (.tmp 7) = .string L := hb 7 (by kernel_rfl)
      exact Reg.run_value (Reg.run_move rfl e7) rfl (Below.refl _ _) hI
    · -- 27: Op.slice 9 (Operand.tmp 94) none (some (Operand.const (Value.int IntKind.i64 17))) none
      refine Reg.step_run hB (Reg.runs_some (d := 92) rfl (by kernel_rfl) (by kernel_rfl) (fun _ _ h => h)) (fun a w1 hI hb hd => ?_)
      have e94 : a.eval (.tmp 94) = .string L := hd 26 94 (by kernel_rfl) (by kernel_rfl)
      refine Reg.run_value (v := .string x3) ?_ rfl (Below.refl _ _) hI
      clear hb hd
      have hc := fun v => Reg.eval_const a v
      have hf := fun f => Reg.eval_func a f
      generalize a.eval = ρ at *
      simp [execOp, go_sem, hL, h16, h64, h17, *]
    · -- 28: Op.build 23 #[(1, Operand.tmp 95)]
      refine Reg.step_run hB (Reg.runs_some (d := 92) rfl (by kernel_rfl) (by kernel_rfl) (fun _ _ h => h)) (fun a w1 hI hb hd => ?_)
      have e95 : a.eval (.tmp 95) = .string x3 := hd 27 95 (by kernel_rfl) (by kernel_rfl)
      refine Reg.run_value (v := .agg #[.int .u8 0, .string x3, .string ⟨#[]⟩]) ?_ rfl (Below.refl _ _) hI
      clear hb hd
      have hc := fun v => Reg.eval_const a v
      have hf := fun f => Reg.eval_func a f
      generalize a.eval = ρ at *
      simp [execOp, go_sem, Try.underlying23, *]
    · -- 29: Op.buildSlice 24 2 #[(0, Operand.tmp 93), (1, Operand.tmp 96)]
      refine Reg.step_run hB (Reg.runs_some (d := 92) rfl (by kernel_rfl) (by kernel_rfl) (fun _ _ h => h)) (fun a w1 hI hb hd => ?_)
      have e93 : a.eval (.tmp 93) = .agg #[.int .u8 0, .string ⟨#[]⟩, .string ⟨#[]⟩] := hd 25 93 (by kernel_rfl) (by kernel_rfl)
      have e96 : a.eval (.tmp 96) = .agg #[.int .u8 0, .string x3, .string ⟨#[]⟩] := hd 28 96 (by kernel_rfl) (by kernel_rfl)
      refine Reg.run_made (v := .slice (some ⟨w1.heap.size, 0, none⟩) 2 2) (w' := w1.alloc (.cells #[.int .u8 0, .string ⟨#[]⟩, .string ⟨#[]⟩, .int .u8 0, .string x3, .string ⟨#[]⟩] 23)) ?_ (show Sp 29 _ _ by rw [hSp]; exact ⟨_, rfl, Lies.new _ ([.int .u8 0, .string ⟨#[]⟩, .string ⟨#[]⟩, .int .u8 0, .string x3, .string ⟨#[]⟩]) _⟩) (bnew (Below.refl _ _) _) (bnew hI _)
      clear hb hd
      have hc := fun v => Reg.eval_const a v
      have hf := fun f => Reg.eval_func a f
      generalize a.eval = ρ at *
      simp [execOp, go_sem, *]
    · -- 30: Op.build 27 #[(11, Operand.tmp 97)]
      refine Reg.step_run hB (Reg.runs_some (d := 92) rfl (by kernel_rfl) (by kernel_rfl) (fun _ _ h => h)) (fun a w1 hI hb hd => ?_)
      have e97 : Sp 29 (a.eval (.tmp 97)) w1 := hd 29 97 (by kernel_rfl) (by kernel_rfl)
      rw [hSp] at e97
      obtain ⟨r97, hr97, hl97⟩ := e97
      replace hr97 : a.eval (.tmp 97) = .slice (some ⟨r97, 0, none⟩) 2 2 := hr97
      refine Reg.run_made (v := .agg #[.int .u8 0, .int .u64 0, .int .u64 0, .string ⟨#[]⟩, .string ⟨#[]⟩, .string ⟨#[]⟩, .string ⟨#[]⟩, .string ⟨#[]⟩, .int .u8 0, .int .u64 0, .int .u64 0, .slice (some ⟨r97, 0, none⟩) 2 2]) (w' := w1) ?_ (show Sp 30 _ _ by rw [hSp]; exact ⟨r97, rfl, hl97⟩) (Below.refl _ _) hI
      clear hb hd
      have hc := fun v => Reg.eval_const a v
      have hf := fun f => Reg.eval_func a f
      generalize a.eval = ρ at *
      simp [execOp, go_sem, Try.underlying27, *]
    · -- 31: Op.call { callee := Callee.value (Operand.func 18), args := #[Operand.tmp 98], argTypes := #[27] }
      refine Reg.step_run hB (Reg.runs_some (d := 92) rfl (by kernel_rfl) (by kernel_rfl) (fun _ _ h => h)) (fun a w1 hI hb hd => ?_)
      have e98 : Sp 30 (a.eval (.tmp 98)) w1 := hd 30 98 (by kernel_rfl) (by kernel_rfl)
      rw [hSp] at e98
      obtain ⟨r98, hr98, hl98⟩ := e98
      replace hr98 : a.eval (.tmp 98) = .agg #[.int .u8 0, .int .u64 0, .int .u64 0, .string ⟨#[]⟩, .string ⟨#[]⟩, .string ⟨#[]⟩, .string ⟨#[]⟩, .string ⟨#[]⟩, .int .u8 0, .int .u64 0, .int .u64 0, .slice (some ⟨r98, 0, none⟩) 2 2] := hr98
      refine Reg.run_call (f := 18) (args := #[.agg #[.int .u8 0, .int .u64 0, .int .u64 0, .string ⟨#[]⟩, .string ⟨#[]⟩, .string ⟨#[]⟩, .string ⟨#[]⟩, .string ⟨#[]⟩, .int .u8 0, .int .u64 0, .int .u64 0, .slice (some ⟨r98, 0, none⟩) 2 2]]) ?_ (hO4 w1 _ hl98) (fun _ _ => rfl) (fun _ h => bnext hI h)
      clear hb hd
      have hc := fun v => Reg.eval_const a v
      have hf := fun f => Reg.eval_func a f
      generalize a.eval = ρ at *
      simp [go_sem, *]
    · -- 32: Op.pick (Operand.tmp 92) (Operand.tmp 99) (Operand.const (Value.bool false))
      refine Reg.step_run hB (Reg.runs_none rfl) (fun a w1 hI hb hd => ?_)
      have e92 : a.eval (.tmp 92) = .bool true := hd 24 92 (by kernel_rfl) (by kernel_rfl)
      have e99 : a.eval (.tmp 99) = .bool true := hd 31 99 (by kernel_rfl) (by kernel_rfl)
      refine Reg.run_value (v := .bool true) ?_ rfl (Below.refl _ _) hI
      clear hb hd
      have hc := fun v => Reg.eval_const a v
      have hf := fun f => Reg.eval_func a f
      generalize a.eval = ρ at *
      simp [execOp, go_sem, *]
    · -- 33: Op.assign (Operand.tmp 100)
      refine Reg.step_run hB (Reg.runs_none rfl) (fun a w1 hI hb hd => ?_)
      have e100 : a.eval (.tmp 100) = .bool true := hd 32 100 (by kernel_rfl) (by kernel_rfl)
      exact Reg.run_value (Reg.run_assign rfl e100) rfl (Below.refl _ _) hI
  case fin =>
    intro vals w' hI hg
    have g0 : vals 0 = .string L := hg 0 (by simp)
    have g1 : vals 1 = .string x1 := hg 1 (by simp)
    have g2 : vals 2 = .string L := hg 2 (by simp)
    have g3 : vals 3 = .string x1 := hg 3 (by simp)
    have g4 : vals 4 = .string L := hg 4 (by simp)
    have g5 : vals 5 = .string x1 := hg 5 (by simp)
    have g6 : vals 6 = .string L := hg 6 (by simp)
    have g7 : vals 7 = .string x2 := hg 7 (by simp)
    have g8 : vals 8 = .string L := hg 8 (by simp)
    have g9 : vals 9 = .string x2 := hg 9 (by simp)
    have g10 : vals 10 = .agg #[.int .u8 0, .int .u64 0, .int .u64 0, .string x1, .string x2, .string x2, .string x1, .string x1, .int .u8 0, .int .u64 0, .int .u64 0, .slice none 0 0] := hg 10 (by simp)
    have g11 : vals 11 = .bool false := hg 11 (by simp)
    have g12 : vals 12 = .bool true := hg 12 (by simp)
    have g13 : vals 13 = .bool true := hg 13 (by simp)
    have g14 : vals 14 = .string L := hg 14 (by simp)
    have g15 : vals 15 = .string x3 := hg 15 (by simp)
    have g16 : vals 16 = .agg #[.int .u8 0, .int .u64 0, .int .u64 0, .string ⟨#[]⟩, .string ⟨#[]⟩, .string ⟨#[]⟩, .string ⟨#[]⟩, .string x3, .int .u8 0, .int .u64 0, .int .u64 0, .slice none 0 0] := hg 16 (by simp)
    have g17 : vals 17 = .bool true := hg 17 (by simp)
    have g18 : vals 18 = .bool true := hg 18 (by simp)
    have g19 : vals 19 = .bool true := hg 19 (by simp)
    have g20 : vals 20 = .string L := hg 20 (by simp)
    have g21 : vals 21 = .agg #[.int .u8 0, .int .u64 0, .int .u64 0, .string ⟨#[]⟩, .string ⟨#[]⟩, .string L, .string ⟨#[]⟩, .string ⟨#[]⟩, .int .u8 0, .int .u64 0, .int .u64 0, .slice none 0 0] := hg 21 (by simp)
    have g22 : vals 22 = .bool true := hg 22 (by simp)
    have g23 : vals 23 = .bool true := hg 23 (by simp)
    have g24 : vals 24 = .bool true := hg 24 (by simp)
    have g25 : vals 25 = .agg #[.int .u8 0, .string ⟨#[]⟩, .string ⟨#[]⟩] := hg 25 (by simp)
    have g26 : vals 26 = .string L := hg 26 (by simp)
    have g27 : vals 27 = .string x3 := hg 27 (by simp)
    have g28 : vals 28 = .agg #[.int .u8 0, .string x3, .string ⟨#[]⟩] := hg 28 (by simp)
    have g31 : vals 31 = .bool true := hg 31 (by simp)
    have g32 : vals 32 = .bool true := hg 32 (by simp)
    have g33 : vals 33 = .bool true := hg 33 (by simp)
    refine Reg.fin_of (y := #[c0, c1, c2, c3, c4, c5, c6, .string L, vals 33, c9, c10, c11, c12, c13, c14, c15, c16, c17, c18, c19, c20, c21, c22, c23, c24, c25, c26, c27, c28, c29, c30, c31, c32, c33, c34, c35, c36, c37, c38, c39, c40, c41, c42, c43, c44, c45, c46, c47, c48, c49, c50, c51, c52, c53, c54, c55, c56, c57, c58, c59, c60, c61, c62, c63, c64, c65, c66, c67, vals 0, vals 1, vals 2, vals 3, vals 4, vals 5, vals 6, vals 7, vals 8, vals 9, vals 10, vals 11, vals 12, vals 13, vals 14, vals 15, vals 16, vals 17, vals 18, vals 19, vals 20, vals 21, vals 22, vals 23, vals 24, vals 25, vals 26, vals 27, vals 28, vals 29, vals 30, vals 31, vals 32, c101, c102, c103, c104, c105, c106, c107, c108, c109, c110, c111, c112, c113, c114, c115, c116, c117, c118, c119, c120, c121, c122, c123]) (by kernel_rfl) ?_
    rw [g0, g1, g2, g3, g4, g5, g6, g7, g8, g9, g10, g11, g12, g13, g14, g15, g16, g17, g18, g19, g20, g21, g22, g23, g24, g25, g26, g27, g28, g31, g32, g33]
    exact h (vals 29) (vals 30) w' hI
end Go.Proofs.Ytpdahbfjbgcmgaa
