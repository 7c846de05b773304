/-
  NumBack's region 23, whose order is open, where a number is read.
-/
import Derived.Test.YtnfghgkdedmphaaNumBackR
import Derived.Test.YtnfghgkdedmphaaReg
namespace Go.Proofs.Ytnfghgkdedmphaa
open Go.RowKit
set_option linter.unusedVariables false

set_option maxRecDepth 100000 in
set_option maxHeartbeats 4000000 in
theorem r23_yes {{c0 c1 c3 c4 c5 c6 c7 c8 c9 c10 c11 c12 c13 c14 c15 c19 c20 c21 c22 c23 c24 c25 c26 c27 c28 c29 c30 c31 c32 c33 c34 c35 c36 c37 c38 c39 c40 c41 c42 c43 c44 c45 c46 c47 c48 c49 c50 c51 c52 c53 c54 c55 c56 c57 c58 c59 c60 c61 c62 c63 c64 c65 c66 c67 c68 c69 c70 c71 c72 c73 c74 c75 c76 c77 c78 c79 c80 c81 c82 c83 c84 c85 c86 c87 c88 c89 c90 c91 c92 c93 c94 c95 c96 c97 c98 c99 c100 c101 c102 c103 c104 c105 c106 c107 c108 c109 c110 c111 c112 c113 c114 c115 c116 c117 c118 c119 c120 c121 c122 c123 c124 c125 c126 c127 c128 c129 c130 c131 c132 c133 c134 c135 c136 c137 c138 c139 c140 c141 c142 c143 c144 c145 c146 c147 c148 c149 c150 c151 c152 c153 c154 c155 c156 c157 c158 c159 c160 c161 c162 c163 c164 c165 c166 c167 c168 c169 c170 c171 c172 c173 c174 c175 c176 c177 c178 c179 c180 c181 c182 c183 c184 c185 c186 c187 c188 c189 : Value}} (t x : ByteArray) (n k : Nat) (w : World) (hk1 : 1 ≤ k) (hk2 : k ≤ t.size) (hz : t.size ≤ 20000) (hx : (x.toList == (t.extract 0 k).toList) = true) (hv : ∀ (W : World) (A : Option Addr), Lies W A (uc [n]) → Calls Try.prog 13 #[.slice A 1 1] W fun e w' => e = .returned (.string x) ∧ Below W.heap.size W w') (Q : Exit → Act → World → Prop)
   (h : ∀ (u : Value) (w' : World), Below w.heap.size w w' → Q .normal ⟨#[c0, c1, .string t, c3, c4, c5, c6, c7, c8, c9, c10, c11, c12, c13, c14, c15, .int .u64 (n : Int), .int .i64 (k : Int), .bool true, c19, c20, c21, c22, c23, c24, c25, c26, c27, c28, c29, c30, c31, c32, c33, c34, c35, c36, c37, c38, c39, c40, c41, c42, c43, c44, c45, c46, c47, c48, c49, c50, c51, c52, c53, c54, c55, c56, c57, c58, c59, c60, c61, c62, c63, c64, c65, c66, c67, c68, c69, c70, c71, c72, c73, c74, c75, c76, c77, c78, c79, c80, c81, c82, c83, c84, c85, c86, c87, c88, c89, c90, c91, c92, c93, c94, c95, c96, c97, c98, c99, c100, c101, c102, c103, c104, c105, c106, c107, c108, c109, c110, c111, c112, c113, c114, c115, c116, c117, c118, c119, c120, .bool true, .bool true, .int .i64 (k : Int), .bool false, .bool false, .int .i64 (k : Int), .string t, .int .i64 (t.size : Int), .bool false, .bool false, .bool false, .int .u64 (n : Int), u, .string x, .string t, .int .i64 (k : Int), .string (t.extract 0 k), .bool false, .bool false, .bool false, .bool false, .bool true, .bool false, .bool false, undef, undef, undef, undef, undef, undef, .bool false, .bool false, c153, c154, c155, c156, c157, c158, c159, c160, c161, c162, c163, c164, c165, c166, c167, c168, c169, c170, c171, c172, c173, c174, c175, c176, c177, c178, c179, c180, c181, c182, c183, c184, c185, c186, c187, c188, c189], []⟩ w') :
   Code.wp Try.prog r23 Q ⟨#[c0, c1, .string t, c3, c4, c5, c6, c7, c8, c9, c10, c11, c12, c13, c14, c15, .int .u64 (n : Int), .int .i64 (k : Int), .bool true, c19, c20, c21, c22, c23, c24, c25, c26, c27, c28, c29, c30, c31, c32, c33, c34, c35, c36, c37, c38, c39, c40, c41, c42, c43, c44, c45, c46, c47, c48, c49, c50, c51, c52, c53, c54, c55, c56, c57, c58, c59, c60, c61, c62, c63, c64, c65, c66, c67, c68, c69, c70, c71, c72, c73, c74, c75, c76, c77, c78, c79, c80, c81, c82, c83, c84, c85, c86, c87, c88, c89, c90, c91, c92, c93, c94, c95, c96, c97, c98, c99, c100, c101, c102, c103, c104, c105, c106, c107, c108, c109, c110, c111, c112, c113, c114, c115, c116, c117, c118, c119, c120, c121, c122, c123, c124, c125, c126, c127, c128, c129, c130, c131, c132, c133, c134, c135, c136, c137, c138, c139, c140, c141, c142, c143, c144, c145, c146, c147, c148, c149, c150, c151, c152, c153, c154, c155, c156, c157, c158, c159, c160, c161, c162, c163, c164, c165, c166, c167, c168, c169, c170, c171, c172, c173, c174, c175, c176, c177, c178, c179, c180, c181, c182, c183, c184, c185, c186, c187, c188, c189], []⟩ w := by
  obtain ⟨Sp, hSp⟩ : ∃ Sp : Value → World → Prop, Sp = fun v w => ∃ g, v = .slice (some ⟨g, 0, none⟩) 1 1 ∧ Lies w (some ⟨g, 0, none⟩) (uc [n]) := ⟨_, rfl⟩
  have d1 : decide ((k : Int) < 1) = false := by simp; omega
  have d2 : decide ((t.size : Int) < (k : Int)) = false := by simp; omega
  conv => arg 2; whnf
  refine Reg.wp_region_inv (fun w' => Below w.heap.size w w') (fun x y => Below x.heap.size x y) (Reg.Known [some (.bool true), some (.bool true), some (.int .i64 (k : Int)), some (.bool false), some (.bool false), some (.int .i64 (k : Int)), some (.string t), some (.int .i64 (t.size : Int)), some (.bool false), some (.bool false), some (.bool false), some (.int .u64 (n : Int)), none, some (.string x), some (.string t), some (.int .i64 (k : Int)), some (.string (t.extract 0 k)), some (.bool false), some (.bool false), some (.bool false), some (.bool false), some (.bool true), some (.bool false), some (.bool false), some (undef), some (undef), some (undef), some (undef), some (undef), some (undef), some (.bool false), some (.bool false)] Sp) (by kernel_rfl) (by kernel_rfl) (Reg.known_mono ?mono) (Below.refl _ _).drew ?steps ?fin
  case mono =>
    intro v w w' hs hb
    rw [hSp] at hs ⊢
    obtain ⟨g, hg, hl⟩ := hs
    exact ⟨g, hg, hl.below hb⟩
  case steps =>
    intro hB
    refine ⟨?_, ?_, ?_, ?_, ?_, ?_, ?_, ?_, ?_, ?_, ?_, ?_, ?_, ?_, ?_, ?_, ?_, ?_, ?_, ?_, ?_, ?_, ?_, ?_, ?_, ?_, ?_, ?_, ?_, ?_, ?_, ?_, trivial⟩
    · -- 0: Op.move (Operand.tmp 18)
      refine Reg.step_run hB (Reg.runs_none rfl) (fun a w1 hI hb hd => ?_)
      have e18 : a.eval (.tmp 18) = .bool true := hb 18 (by kernel_rfl)
      exact Reg.run_value (Reg.run_move rfl e18) rfl (Below.refl _ _) hI
    · -- 1: Op.move (Operand.tmp 121)
      refine Reg.step_run hB (Reg.runs_none rfl) (fun a w1 hI hb hd => ?_)
      have e121 : a.eval (.tmp 121) = .bool true := hd 0 121 (by kernel_rfl) (by kernel_rfl)
      exact Reg.run_value (Reg.run_move rfl e121) rfl (Below.refl _ _) hI
    · -- 2: Op.move (Operand.tmp 17)
      refine Reg.step_run hB (Reg.runs_some (d := 122) rfl (by kernel_rfl) (by kernel_rfl) (fun _ _ h => h)) (fun a w1 hI hb hd => ?_)
      have e17 : a.eval (.tmp 17) = .int .i64 (k : Int) := hb 17 (by kernel_rfl)
      exact Reg.run_value (Reg.run_move rfl e17) rfl (Below.refl _ _) hI
    · -- 3: Op.binOp BinOp.lss 3 (Operand.tmp 123) (Operand.const (Value.int IntKind.i64 1)) 3
      refine Reg.step_run hB (Reg.runs_some (d := 122) rfl (by kernel_rfl) (by kernel_rfl) (fun _ _ h => h)) (fun a w1 hI hb hd => ?_)
      have e123 : a.eval (.tmp 123) = .int .i64 (k : Int) := hd 2 123 (by kernel_rfl) (by kernel_rfl)
      refine Reg.run_value (v := .bool false) ?_ rfl (Below.refl _ _) hI
      clear hb hd
      have hc := fun v => Reg.eval_const a v
      have hf := fun f => Reg.eval_func a f
      generalize a.eval = ρ at *
      simp [execOp, go_sem, *]
    · -- 4: Op.move (Operand.tmp 124)
      refine Reg.step_run hB (Reg.runs_some (d := 122) rfl (by kernel_rfl) (by kernel_rfl) (fun _ _ h => h)) (fun a w1 hI hb hd => ?_)
      have e124 : a.eval (.tmp 124) = .bool false := hd 3 124 (by kernel_rfl) (by kernel_rfl)
      exact Reg.run_value (Reg.run_move rfl e124) rfl (Below.refl _ _) hI
    · -- 5: Op.move (Operand.tmp 17)
      refine Reg.step_run hB (Reg.runs_some (d := 125) rfl (by kernel_rfl) (by kernel_rfl) (fun _ _ h => h)) (fun a w1 hI hb hd => ?_)
      have e17 : a.eval (.tmp 17) = .int .i64 (k : Int) := hb 17 (by kernel_rfl)
      exact Reg.run_value (Reg.run_move rfl e17) rfl (Below.refl _ _) hI
    · -- 6: Op.move (Operand.tmp 2)
      refine Reg.step_run hB (Reg.runs_some (d := 125) rfl (by kernel_rfl) (by kernel_rfl) (fun _ _ h => h)) (fun a w1 hI hb hd => ?_)
      have e2 : a.eval (.tmp 2) = .string t := hb 2 (by kernel_rfl)
      exact Reg.run_value (Reg.run_move rfl e2) rfl (Below.refl _ _) hI
    · -- 7: Op.call { callee := Callee.builtin Builtin.len, args := #[Operand.tmp 127], argTypes := #[9] }
      refine Reg.step_run hB (Reg.runs_some (d := 125) rfl (by kernel_rfl) (by kernel_rfl) (fun _ _ h => h)) (fun a w1 hI hb hd => ?_)
      have e127 : a.eval (.tmp 127) = .string t := hd 6 127 (by kernel_rfl) (by kernel_rfl)
      refine Reg.run_value (v := .int .i64 (t.size : Int)) ?_ rfl (Below.refl _ _) hI
      clear hb hd
      have hc := fun v => Reg.eval_const a v
      have hf := fun f => Reg.eval_func a f
      generalize a.eval = ρ at *
      simp [go_sem, *]
    · -- 8: Op.binOp BinOp.gtr 3 (Operand.tmp 126) (Operand.tmp 128) 3
      refine Reg.step_run hB (Reg.runs_some (d := 125) rfl (by kernel_rfl) (by kernel_rfl) (fun _ _ h => h)) (fun a w1 hI hb hd => ?_)
      have e126 : a.eval (.tmp 126) = .int .i64 (k : Int) := hd 5 126 (by kernel_rfl) (by kernel_rfl)
      have e128 : a.eval (.tmp 128) = .int .i64 (t.size : Int) := hd 7 128 (by kernel_rfl) (by kernel_rfl)
      refine Reg.run_value (v := .bool false) ?_ rfl (Below.refl _ _) hI
      clear hb hd
      have hc := fun v => Reg.eval_const a v
      have hf := fun f => Reg.eval_func a f
      generalize a.eval = ρ at *
      simp [execOp, go_sem, *]
    · -- 9: Op.pick (Operand.tmp 125) (Operand.const (Value.bool true)) (Operand.tmp 129)
      refine Reg.step_run hB (Reg.runs_some (d := 122) rfl (by kernel_rfl) (by kernel_rfl) (fun _ _ h => h)) (fun a w1 hI hb hd => ?_)
      have e125 : a.eval (.tmp 125) = .bool false := hd 4 125 (by kernel_rfl) (by kernel_rfl)
      have e129 : a.eval (.tmp 129) = .bool false := hd 8 129 (by kernel_rfl) (by kernel_rfl)
      refine Reg.run_value (v := .bool false) ?_ rfl (Below.refl _ _) hI
      clear hb hd
      have hc := fun v => Reg.eval_const a v
      have hf := fun f => Reg.eval_func a f
      generalize a.eval = ρ at *
      simp [execOp, go_sem, *]
    · -- 10: Op.move (Operand.tmp 130)
      refine Reg.step_run hB (Reg.runs_some (d := 122) rfl (by kernel_rfl) (by kernel_rfl) (fun _ _ h => h)) (fun a w1 hI hb hd => ?_)
      have e130 : a.eval (.tmp 130) = .bool false := hd 9 130 (by kernel_rfl) (by kernel_rfl)
      exact Reg.run_value (Reg.run_move rfl e130) rfl (Below.refl _ _) hI
    · -- 11: Op.move (Operand.tmp 16)
      refine Reg.step_run hB (Reg.runs_some (d := 131) rfl (by kernel_rfl) (by kernel_rfl) (fun _ _ h => h)) (fun a w1 hI hb hd => ?_)
      have e16 : a.eval (.tmp 16) = .int .u64 (n : Int) := hb 16 (by kernel_rfl)
      exact Reg.run_value (Reg.run_move rfl e16) rfl (Below.refl _ _) hI
    · -- 12: Op.buildSlice 34 1 #[(0, Operand.tmp 132)]
      refine Reg.step_run hB (Reg.runs_some (d := 131) rfl (by kernel_rfl) (by kernel_rfl) (fun _ _ h => h)) (fun a w1 hI hb hd => ?_)
      have e132 : a.eval (.tmp 132) = .int .u64 (n : Int) := hd 11 132 (by kernel_rfl) (by kernel_rfl)
      refine Reg.run_made (v := .slice (some ⟨w1.heap.size, 0, none⟩) 1 1) (w' := w1.alloc (.cells #[.int .u64 (n : Int)] 22)) ?_ (show Sp _ _ by rw [hSp]; exact ⟨_, rfl, Lies.new _ (uc [n]) _⟩) (bnew (Below.refl _ _) _) (bnew hI _)
      clear hb hd
      have hc := fun v => Reg.eval_const a v
      have hf := fun f => Reg.eval_func a f
      generalize a.eval = ρ at *
      simp [execOp, go_sem, *]
    · -- 13: Op.call { callee := Callee.value (Operand.func 13), args := #[Operand.tmp 133], argTypes := #[34] }
      refine Reg.step_run hB (Reg.runs_some (d := 131) rfl (by kernel_rfl) (by kernel_rfl) (fun _ _ h => h)) (fun a w1 hI hb hd => ?_)
      have e133 : Sp (a.eval (.tmp 133)) w1 := hd 12 133 (by kernel_rfl) (by kernel_rfl)
      rw [hSp] at e133
      obtain ⟨g, hg, hl⟩ := e133
      refine Reg.run_call (f := 13) (args := #[.slice (some ⟨g, 0, none⟩) 1 1]) ?_ (hv w1 _ hl) (fun _ _ => rfl) (fun _ h => bnext hI h)
      clear hb hd
      have hc := fun v => Reg.eval_const a v
      have hf := fun f => Reg.eval_func a f
      generalize a.eval = ρ at *
      simp [go_sem, *]
    · -- 14: Op.move (Operand.tmp 2)
      refine Reg.step_run hB (Reg.runs_some (d := 131) rfl (by kernel_rfl) (by kernel_rfl) (fun _ _ h => h)) (fun a w1 hI hb hd => ?_)
      have e2 : a.eval (.tmp 2) = .string t := hb 2 (by kernel_rfl)
      exact Reg.run_value (Reg.run_move rfl e2) rfl (Below.refl _ _) hI
    · -- 15: Op.move (Operand.tmp 17)
      refine Reg.step_run hB (Reg.runs_some (d := 131) rfl (by kernel_rfl) (by kernel_rfl) (fun _ _ h => h)) (fun a w1 hI hb hd => ?_)
      have e17 : a.eval (.tmp 17) = .int .i64 (k : Int) := hb 17 (by kernel_rfl)
      exact Reg.run_value (Reg.run_move rfl e17) rfl (Below.refl _ _) hI
    · -- 16: Op.slice 9 (Operand.tmp 135) none (some (Operand.tmp 136)) none
      refine Reg.step_run hB (Reg.runs_some (d := 131) rfl (by kernel_rfl) (by kernel_rfl) (fun _ _ h => h)) (fun a w1 hI hb hd => ?_)
      have e135 : a.eval (.tmp 135) = .string t := hd 14 135 (by kernel_rfl) (by kernel_rfl)
      have e136 : a.eval (.tmp 136) = .int .i64 (k : Int) := hd 15 136 (by kernel_rfl) (by kernel_rfl)
      refine Reg.run_value (v := .string (t.extract 0 k)) ?_ rfl (Below.refl _ _) hI
      clear hb hd
      have hc := fun v => Reg.eval_const a v
      have hf := fun f => Reg.eval_func a f
      generalize a.eval = ρ at *
      simp [execOp, go_sem, *]
    · -- 17: Op.binOp BinOp.neq 9 (Operand.tmp 134) (Operand.tmp 137) 9
      refine Reg.step_run hB (Reg.runs_some (d := 131) rfl (by kernel_rfl) (by kernel_rfl) (fun _ _ h => h)) (fun a w1 hI hb hd => ?_)
      have e134 : a.eval (.tmp 134) = .string x := hd 13 134 (by kernel_rfl) (by kernel_rfl)
      have e137 : a.eval (.tmp 137) = .string (t.extract 0 k) := hd 16 137 (by kernel_rfl) (by kernel_rfl)
      refine Reg.run_value (v := .bool false) ?_ rfl (Below.refl _ _) hI
      clear hb hd
      have hc := fun v => Reg.eval_const a v
      have hf := fun f => Reg.eval_func a f
      generalize a.eval = ρ at *
      simp [execOp, go_sem, *]
    · -- 18: Op.pick (Operand.tmp 131) (Operand.const (Value.bool true)) (Operand.tmp 138)
      refine Reg.step_run hB (Reg.runs_some (d := 122) rfl (by kernel_rfl) (by kernel_rfl) (fun _ _ h => h)) (fun a w1 hI hb hd => ?_)
      have e131 : a.eval (.tmp 131) = .bool false := hd 10 131 (by kernel_rfl) (by kernel_rfl)
      have e138 : a.eval (.tmp 138) = .bool false := hd 17 138 (by kernel_rfl) (by kernel_rfl)
      refine Reg.run_value (v := .bool false) ?_ rfl (Below.refl _ _) hI
      clear hb hd
      have hc := fun v => Reg.eval_const a v
      have hf := fun f => Reg.eval_func a f
      generalize a.eval = ρ at *
      simp [execOp, go_sem, *]
    · -- 19: Op.pick (Operand.tmp 122) (Operand.tmp 139) (Operand.const (Value.bool false))
      refine Reg.step_run hB (Reg.runs_none rfl) (fun a w1 hI hb hd => ?_)
      have e122 : a.eval (.tmp 122) = .bool true := hd 1 122 (by kernel_rfl) (by kernel_rfl)
      have e139 : a.eval (.tmp 139) = .bool false := hd 18 139 (by kernel_rfl) (by kernel_rfl)
      refine Reg.run_value (v := .bool false) ?_ rfl (Below.refl _ _) hI
      clear hb hd
      have hc := fun v => Reg.eval_const a v
      have hf := fun f => Reg.eval_func a f
      generalize a.eval = ρ at *
      simp [execOp, go_sem, *]
    · -- 20: Op.move (Operand.tmp 140)
      refine Reg.step_run hB (Reg.runs_none rfl) (fun a w1 hI hb hd => ?_)
      have e140 : a.eval (.tmp 140) = .bool false := hd 19 140 (by kernel_rfl) (by kernel_rfl)
      exact Reg.run_value (Reg.run_move rfl e140) rfl (Below.refl _ _) hI
    · -- 21: Op.move (Operand.tmp 18)
      refine Reg.step_run hB (Reg.runs_some (d := 141) rfl (by kernel_rfl) (by kernel_rfl) (fun _ _ h => h)) (fun a w1 hI hb hd => ?_)
      have e18 : a.eval (.tmp 18) = .bool true := hb 18 (by kernel_rfl)
      exact Reg.run_value (Reg.run_move rfl e18) rfl (Below.refl _ _) hI
    · -- 22: Op.unOp UnOp.not 4 (Operand.tmp 142)
      refine Reg.step_run hB (Reg.runs_some (d := 141) rfl (by kernel_rfl) (by kernel_rfl) (fun _ _ h => h)) (fun a w1 hI hb hd => ?_)
      have e142 : a.eval (.tmp 142) = .bool true := hd 21 142 (by kernel_rfl) (by kernel_rfl)
      refine Reg.run_value (v := .bool false) ?_ rfl (Below.refl _ _) hI
      clear hb hd
      have hc := fun v => Reg.eval_const a v
      have hf := fun f => Reg.eval_func a f
      generalize a.eval = ρ at *
      simp [execOp, go_sem, *]
    · -- 23: Op.move (Operand.tmp 143)
      refine Reg.step_run hB (Reg.runs_some (d := 141) rfl (by kernel_rfl) (by kernel_rfl) (fun _ _ h => h)) (fun a w1 hI hb hd => ?_)
      have e143 : a.eval (.tmp 143) = .bool false := hd 22 143 (by kernel_rfl) (by kernel_rfl)
      exact Reg.run_value (Reg.run_move rfl e143) rfl (Below.refl _ _) hI
    · -- 24: Op.move (Operand.tmp 16)
      exact Reg.step_skip hB (Reg.skips_some (d := 144) rfl (by kernel_rfl) (by kernel_rfl) (fun v _ (h : v = .bool false) => by rw [h]; simp)) (fun _ _ => rfl)
    · -- 25: Op.binOp BinOp.neq 22 (Operand.tmp 145) (Operand.const (Value.int IntKind.u64 0)) 22
      exact Reg.step_skip hB (Reg.skips_some (d := 144) rfl (by kernel_rfl) (by kernel_rfl) (fun v _ (h : v = .bool false) => by rw [h]; simp)) (fun _ _ => rfl)
    · -- 26: Op.move (Operand.tmp 146)
      exact Reg.step_skip hB (Reg.skips_some (d := 144) rfl (by kernel_rfl) (by kernel_rfl) (fun v _ (h : v = .bool false) => by rw [h]; simp)) (fun _ _ => rfl)
    · -- 27: Op.move (Operand.tmp 17)
      exact Reg.step_skip hB (Reg.skips_some (d := 147) rfl (by kernel_rfl) (by kernel_rfl) (fun v _ (h : v = undef) => by rw [h]; unfold undef; simp)) (fun _ _ => rfl)
    · -- 28: Op.binOp BinOp.neq 3 (Operand.tmp 148) (Operand.const (Value.int IntKind.i64 0)) 3
      exact Reg.step_skip hB (Reg.skips_some (d := 147) rfl (by kernel_rfl) (by kernel_rfl) (fun v _ (h : v = undef) => by rw [h]; unfold undef; simp)) (fun _ _ => rfl)
    · -- 29: Op.pick (Operand.tmp 147) (Operand.const (Value.bool true)) (Operand.tmp 149)
      exact Reg.step_skip hB (Reg.skips_some (d := 144) rfl (by kernel_rfl) (by kernel_rfl) (fun v _ (h : v = .bool false) => by rw [h]; simp)) (fun _ _ => rfl)
    · -- 30: Op.pick (Operand.tmp 144) (Operand.tmp 150) (Operand.const (Value.bool false))
      refine Reg.step_run hB (Reg.runs_some (d := 141) rfl (by kernel_rfl) (by kernel_rfl) (fun _ _ h => h)) (fun a w1 hI hb hd => ?_)
      have e144 : a.eval (.tmp 144) = .bool false := hd 23 144 (by kernel_rfl) (by kernel_rfl)
      have e150 : a.eval (.tmp 150) = undef := hd 29 150 (by kernel_rfl) (by kernel_rfl)
      refine Reg.run_value (v := .bool false) ?_ rfl (Below.refl _ _) hI
      clear hb hd
      have hc := fun v => Reg.eval_const a v
      have hf := fun f => Reg.eval_func a f
      generalize a.eval = ρ at *
      simp [execOp, go_sem, *]
    · -- 31: Op.pick (Operand.tmp 141) (Operand.const (Value.bool true)) (Operand.tmp 151)
      refine Reg.step_run hB (Reg.runs_none rfl) (fun a w1 hI hb hd => ?_)
      have e141 : a.eval (.tmp 141) = .bool false := hd 20 141 (by kernel_rfl) (by kernel_rfl)
      have e151 : a.eval (.tmp 151) = .bool false := hd 30 151 (by kernel_rfl) (by kernel_rfl)
      refine Reg.run_value (v := .bool false) ?_ rfl (Below.refl _ _) hI
      clear hb hd
      have hc := fun v => Reg.eval_const a v
      have hf := fun f => Reg.eval_func a f
      generalize a.eval = ρ at *
      simp [execOp, go_sem, *]
  case fin =>
    intro vals w' hI hg
    have g0 : vals 0 = .bool true := hg 0 (by simp)
    have g1 : vals 1 = .bool true := hg 1 (by simp)
    have g2 : vals 2 = .int .i64 (k : Int) := hg 2 (by simp)
    have g3 : vals 3 = .bool false := hg 3 (by simp)
    have g4 : vals 4 = .bool false := hg 4 (by simp)
    have g5 : vals 5 = .int .i64 (k : Int) := hg 5 (by simp)
    have g6 : vals 6 = .string t := hg 6 (by simp)
    have g7 : vals 7 = .int .i64 (t.size : Int) := hg 7 (by simp)
    have g8 : vals 8 = .bool false := hg 8 (by simp)
    have g9 : vals 9 = .bool false := hg 9 (by simp)
    have g10 : vals 10 = .bool false := hg 10 (by simp)
    have g11 : vals 11 = .int .u64 (n : Int) := hg 11 (by simp)
    have g13 : vals 13 = .string x := hg 13 (by simp)
    have g14 : vals 14 = .string t := hg 14 (by simp)
    have g15 : vals 15 = .int .i64 (k : Int) := hg 15 (by simp)
    have g16 : vals 16 = .string (t.extract 0 k) := hg 16 (by simp)
    have g17 : vals 17 = .bool false := hg 17 (by simp)
    have g18 : vals 18 = .bool false := hg 18 (by simp)
    have g19 : vals 19 = .bool false := hg 19 (by simp)
    have g20 : vals 20 = .bool false := hg 20 (by simp)
    have g21 : vals 21 = .bool true := hg 21 (by simp)
    have g22 : vals 22 = .bool false := hg 22 (by simp)
    have g23 : vals 23 = .bool false := hg 23 (by simp)
    have g24 : vals 24 = undef := hg 24 (by simp)
    have g25 : vals 25 = undef := hg 25 (by simp)
    have g26 : vals 26 = undef := hg 26 (by simp)
    have g27 : vals 27 = undef := hg 27 (by simp)
    have g28 : vals 28 = undef := hg 28 (by simp)
    have g29 : vals 29 = undef := hg 29 (by simp)
    have g30 : vals 30 = .bool false := hg 30 (by simp)
    have g31 : vals 31 = .bool false := hg 31 (by simp)
    refine Reg.fin_of (y := #[c0, c1, .string t, c3, c4, c5, c6, c7, c8, c9, c10, c11, c12, c13, c14, c15, .int .u64 (n : Int), .int .i64 (k : Int), .bool true, c19, c20, c21, c22, c23, c24, c25, c26, c27, c28, c29, c30, c31, c32, c33, c34, c35, c36, c37, c38, c39, c40, c41, c42, c43, c44, c45, c46, c47, c48, c49, c50, c51, c52, c53, c54, c55, c56, c57, c58, c59, c60, c61, c62, c63, c64, c65, c66, c67, c68, c69, c70, c71, c72, c73, c74, c75, c76, c77, c78, c79, c80, c81, c82, c83, c84, c85, c86, c87, c88, c89, c90, c91, c92, c93, c94, c95, c96, c97, c98, c99, c100, c101, c102, c103, c104, c105, c106, c107, c108, c109, c110, c111, c112, c113, c114, c115, c116, c117, c118, c119, c120, vals 0, vals 1, vals 2, vals 3, vals 4, vals 5, vals 6, vals 7, vals 8, vals 9, vals 10, vals 11, vals 12, vals 13, vals 14, vals 15, vals 16, vals 17, vals 18, vals 19, vals 20, vals 21, vals 22, vals 23, vals 24, vals 25, vals 26, vals 27, vals 28, vals 29, vals 30, vals 31, c153, c154, c155, c156, c157, c158, c159, c160, c161, c162, c163, c164, c165, c166, c167, c168, c169, c170, c171, c172, c173, c174, c175, c176, c177, c178, c179, c180, c181, c182, c183, c184, c185, c186, c187, c188, c189]) (by kernel_rfl) ?_
    rw [g0, g1, g2, g3, g4, g5, g6, g7, g8, g9, g10, g11, g13, g14, g15, g16, g17, g18, g19, g20, g21, g22, g23, g24, g25, g26, g27, g28, g29, g30, g31]
    exact h (vals 12) w' hI
end Go.Proofs.Ytnfghgkdedmphaa
