/-
  NumBack's region 26, whose order is open, where a text is read.
-/
import Derived.Test.YtnfghgkdedmphaaNumBackR
import Derived.Test.YtnfghgkdedmphaaReg
namespace Go.Proofs.Ytnfghgkdedmphaa
open Go.RowKit
set_option linter.unusedVariables false

set_option maxRecDepth 100000 in
set_option maxHeartbeats 4000000 in
theorem r26_yes {{c0 c1 c3 c4 c5 c6 c7 c8 c9 c10 c11 c12 c13 c14 c15 c16 c20 c21 c22 c23 c24 c25 c26 c27 c28 c29 c30 c31 c32 c33 c34 c35 c36 c37 c38 c39 c40 c41 c42 c43 c44 c45 c46 c47 c48 c49 c50 c51 c52 c53 c54 c55 c56 c57 c58 c59 c60 c61 c62 c63 c64 c65 c66 c67 c68 c69 c70 c71 c72 c73 c74 c75 c76 c77 c78 c79 c80 c81 c82 c83 c84 c85 c86 c87 c88 c89 c90 c91 c92 c93 c94 c95 c96 c97 c98 c99 c100 c101 c102 c103 c104 c105 c106 c107 c108 c109 c110 c111 c112 c113 c114 c115 c116 c117 c118 c119 c120 c121 c122 c123 c124 c125 c126 c127 c128 c129 c130 c131 c132 c133 c134 c135 c136 c137 c138 c139 c140 c141 c142 c143 c144 c145 c146 c147 c148 c149 c150 c151 c152 c153 c154 c155 c156 c157 c158 c159 c160 c161 c162 c163 c164 c165 c166 c167 c168 c169 c170 c171 c172 c173 c174 c175 c176 c177 c178 c179 c180 c181 c182 c183 c184 c185 c186 c187 c188 c189 : Value}} (t x y : ByteArray) (k : Nat) (w : World) (hk1 : 1 ≤ k) (hk2 : k ≤ t.size) (hz : t.size ≤ 20000) (hx : (x.toList == (t.extract 0 k).toList) = true) (hv : ∀ (W : World) (A : Option Addr), Lies W A (sc [y]) → Calls Try.prog 14 #[.slice A 1 1] W fun e w' => e = .returned (.string x) ∧ Below W.heap.size W w') (Q : Exit → Act → World → Prop)
   (h : ∀ (u : Value) (w' : World), Below w.heap.size w w' → Q .normal ⟨#[c0, c1, .string t, c3, c4, c5, .bool true, c7, c8, c9, c10, c11, c12, c13, c14, c15, c16, .int .i64 (k : Int), .bool true, .string y, c20, c21, c22, c23, c24, c25, c26, c27, c28, c29, c30, c31, c32, c33, c34, c35, c36, c37, c38, c39, c40, c41, c42, c43, c44, c45, c46, c47, c48, c49, c50, c51, c52, c53, c54, c55, c56, c57, c58, c59, c60, c61, c62, c63, c64, c65, c66, c67, c68, c69, c70, c71, c72, c73, c74, c75, c76, c77, c78, c79, c80, c81, c82, c83, c84, c85, c86, c87, c88, c89, c90, c91, c92, c93, c94, c95, c96, c97, c98, c99, c100, c101, c102, c103, c104, c105, c106, c107, c108, c109, c110, c111, c112, c113, c114, c115, c116, c117, c118, c119, c120, c121, c122, c123, c124, c125, c126, c127, c128, c129, c130, c131, c132, c133, c134, c135, c136, c137, c138, c139, c140, c141, c142, c143, c144, c145, c146, c147, c148, c149, c150, c151, c152, c153, c154, c155, c156, c157, c158, .bool true, .bool false, .bool false, undef, undef, .bool false, .bool false, undef, undef, .bool false, .bool false, .bool true, .bool true, .int .i64 (k : Int), .string t, .int .i64 (t.size : Int), .bool true, .bool true, .bool true, .string y, u, .string x, .string t, .int .i64 (k : Int), .string (t.extract 0 k), .bool true, .bool true, .bool true, .bool true, .bool true, .bool true], []⟩ w') :
   Code.wp Try.prog r26 Q ⟨#[c0, c1, .string t, c3, c4, c5, c6, c7, c8, c9, c10, c11, c12, c13, c14, c15, c16, .int .i64 (k : Int), .bool true, .string y, c20, c21, c22, c23, c24, c25, c26, c27, c28, c29, c30, c31, c32, c33, c34, c35, c36, c37, c38, c39, c40, c41, c42, c43, c44, c45, c46, c47, c48, c49, c50, c51, c52, c53, c54, c55, c56, c57, c58, c59, c60, c61, c62, c63, c64, c65, c66, c67, c68, c69, c70, c71, c72, c73, c74, c75, c76, c77, c78, c79, c80, c81, c82, c83, c84, c85, c86, c87, c88, c89, c90, c91, c92, c93, c94, c95, c96, c97, c98, c99, c100, c101, c102, c103, c104, c105, c106, c107, c108, c109, c110, c111, c112, c113, c114, c115, c116, c117, c118, c119, c120, c121, c122, c123, c124, c125, c126, c127, c128, c129, c130, c131, c132, c133, c134, c135, c136, c137, c138, c139, c140, c141, c142, c143, c144, c145, c146, c147, c148, c149, c150, c151, c152, c153, c154, c155, c156, c157, c158, c159, c160, c161, c162, c163, c164, c165, c166, c167, c168, c169, c170, c171, c172, c173, c174, c175, c176, c177, c178, c179, c180, c181, c182, c183, c184, c185, c186, c187, c188, c189], []⟩ w := by
  obtain ⟨Sp, hSp⟩ : ∃ Sp : Value → World → Prop, Sp = fun v w => ∃ g, v = .slice (some ⟨g, 0, none⟩) 1 1 ∧ Lies w (some ⟨g, 0, none⟩) (sc [y]) := ⟨_, rfl⟩
  have d2 : decide ((k : Int) ≤ (t.size : Int)) = true := by simp; omega
  conv => arg 2; whnf
  refine Reg.wp_region_inv (fun w' => Below w.heap.size w w') (fun x y => Below x.heap.size x y) (Reg.Known [some (.bool true), some (.bool false), some (.bool false), some (undef), some (undef), some (.bool false), some (.bool false), some (undef), some (undef), some (.bool false), some (.bool false), some (.bool true), some (.bool true), some (.int .i64 (k : Int)), some (.string t), some (.int .i64 (t.size : Int)), some (.bool true), some (.bool true), some (.bool true), some (.string y), none, some (.string x), some (.string t), some (.int .i64 (k : Int)), some (.string (t.extract 0 k)), some (.bool true), some (.bool true), some (.bool true), some (.bool true), some (.bool true), some (.bool true), some (.bool true)] Sp) (by kernel_rfl) (by kernel_rfl) (Reg.known_mono ?mono) (Below.refl _ _).drew ?steps ?fin
  case mono =>
    intro v w w' hs hb
    rw [hSp] at hs ⊢
    obtain ⟨g, hg, hl⟩ := hs
    exact ⟨g, hg, hl.below hb⟩
  case steps =>
    intro hB
    refine ⟨?_, ?_, ?_, ?_, ?_, ?_, ?_, ?_, ?_, ?_, ?_, ?_, ?_, ?_, ?_, ?_, ?_, ?_, ?_, ?_, ?_, ?_, ?_, ?_, ?_, ?_, ?_, ?_, ?_, ?_, ?_, ?_, trivial⟩
    · -- 0: Op.move (Operand.tmp 18)
      refine Reg.step_run hB (Reg.runs_none rfl) (fun a w1 hI hb hd => ?_)
      have e18 : a.eval (.tmp 18) = .bool true := hb 18 (by kernel_rfl)
      exact Reg.run_value (Reg.run_move rfl e18) rfl (Below.refl _ _) hI
    · -- 1: Op.unOp UnOp.not 4 (Operand.tmp 159)
      refine Reg.step_run hB (Reg.runs_none rfl) (fun a w1 hI hb hd => ?_)
      have e159 : a.eval (.tmp 159) = .bool true := hd 0 159 (by kernel_rfl) (by kernel_rfl)
      refine Reg.run_value (v := .bool false) ?_ rfl (Below.refl _ _) hI
      clear hb hd
      have hc := fun v => Reg.eval_const a v
      have hf := fun f => Reg.eval_func a f
      generalize a.eval = ρ at *
      simp [execOp, go_sem, *]
    · -- 2: Op.move (Operand.tmp 160)
      refine Reg.step_run hB (Reg.runs_none rfl) (fun a w1 hI hb hd => ?_)
      have e160 : a.eval (.tmp 160) = .bool false := hd 1 160 (by kernel_rfl) (by kernel_rfl)
      exact Reg.run_value (Reg.run_move rfl e160) rfl (Below.refl _ _) hI
    · -- 3: Op.move (Operand.tmp 19)
      exact Reg.step_skip hB (Reg.skips_some (d := 161) rfl (by kernel_rfl) (by kernel_rfl) (fun v _ (h : v = .bool false) => by rw [h]; simp)) (fun _ _ => rfl)
    · -- 4: Op.binOp BinOp.eql 9 (Operand.tmp 162) (Operand.const (Value.string { data := #[] })) 9
      exact Reg.step_skip hB (Reg.skips_some (d := 161) rfl (by kernel_rfl) (by kernel_rfl) (fun v _ (h : v = .bool false) => by rw [h]; simp)) (fun _ _ => rfl)
    · -- 5: Op.pick (Operand.tmp 161) (Operand.tmp 163) (Operand.const (Value.bool false))
      refine Reg.step_run hB (Reg.runs_none rfl) (fun a w1 hI hb hd => ?_)
      have e161 : a.eval (.tmp 161) = .bool false := hd 2 161 (by kernel_rfl) (by kernel_rfl)
      have e163 : a.eval (.tmp 163) = undef := hd 4 163 (by kernel_rfl) (by kernel_rfl)
      refine Reg.run_value (v := .bool false) ?_ rfl (Below.refl _ _) hI
      clear hb hd
      have hc := fun v => Reg.eval_const a v
      have hf := fun f => Reg.eval_func a f
      generalize a.eval = ρ at *
      simp [execOp, go_sem, *]
    · -- 6: Op.move (Operand.tmp 164)
      refine Reg.step_run hB (Reg.runs_none rfl) (fun a w1 hI hb hd => ?_)
      have e164 : a.eval (.tmp 164) = .bool false := hd 5 164 (by kernel_rfl) (by kernel_rfl)
      exact Reg.run_value (Reg.run_move rfl e164) rfl (Below.refl _ _) hI
    · -- 7: Op.move (Operand.tmp 17)
      exact Reg.step_skip hB (Reg.skips_some (d := 165) rfl (by kernel_rfl) (by kernel_rfl) (fun v _ (h : v = .bool false) => by rw [h]; simp)) (fun _ _ => rfl)
    · -- 8: Op.binOp BinOp.eql 3 (Operand.tmp 166) (Operand.const (Value.int IntKind.i64 0)) 3
      exact Reg.step_skip hB (Reg.skips_some (d := 165) rfl (by kernel_rfl) (by kernel_rfl) (fun v _ (h : v = .bool false) => by rw [h]; simp)) (fun _ _ => rfl)
    · -- 9: Op.pick (Operand.tmp 165) (Operand.tmp 167) (Operand.const (Value.bool false))
      refine Reg.step_run hB (Reg.runs_none rfl) (fun a w1 hI hb hd => ?_)
      have e165 : a.eval (.tmp 165) = .bool false := hd 6 165 (by kernel_rfl) (by kernel_rfl)
      have e167 : a.eval (.tmp 167) = undef := hd 8 167 (by kernel_rfl) (by kernel_rfl)
      refine Reg.run_value (v := .bool false) ?_ rfl (Below.refl _ _) hI
      clear hb hd
      have hc := fun v => Reg.eval_const a v
      have hf := fun f => Reg.eval_func a f
      generalize a.eval = ρ at *
      simp [execOp, go_sem, *]
    · -- 10: Op.move (Operand.tmp 168)
      refine Reg.step_run hB (Reg.runs_none rfl) (fun a w1 hI hb hd => ?_)
      have e168 : a.eval (.tmp 168) = .bool false := hd 9 168 (by kernel_rfl) (by kernel_rfl)
      exact Reg.run_value (Reg.run_move rfl e168) rfl (Below.refl _ _) hI
    · -- 11: Op.move (Operand.tmp 18)
      refine Reg.step_run hB (Reg.runs_some (d := 169) rfl (by kernel_rfl) (by kernel_rfl) (fun _ _ h => h)) (fun a w1 hI hb hd => ?_)
      have e18 : a.eval (.tmp 18) = .bool true := hb 18 (by kernel_rfl)
      exact Reg.run_value (Reg.run_move rfl e18) rfl (Below.refl _ _) hI
    · -- 12: Op.move (Operand.tmp 170)
      refine Reg.step_run hB (Reg.runs_some (d := 169) rfl (by kernel_rfl) (by kernel_rfl) (fun _ _ h => h)) (fun a w1 hI hb hd => ?_)
      have e170 : a.eval (.tmp 170) = .bool true := hd 11 170 (by kernel_rfl) (by kernel_rfl)
      exact Reg.run_value (Reg.run_move rfl e170) rfl (Below.refl _ _) hI
    · -- 13: Op.move (Operand.tmp 17)
      refine Reg.step_run hB (Reg.runs_some (d := 171) rfl (by kernel_rfl) (by kernel_rfl) (fun _ _ h => h)) (fun a w1 hI hb hd => ?_)
      have e17 : a.eval (.tmp 17) = .int .i64 (k : Int) := hb 17 (by kernel_rfl)
      exact Reg.run_value (Reg.run_move rfl e17) rfl (Below.refl _ _) hI
    · -- 14: Op.move (Operand.tmp 2)
      refine Reg.step_run hB (Reg.runs_some (d := 171) rfl (by kernel_rfl) (by kernel_rfl) (fun _ _ h => h)) (fun a w1 hI hb hd => ?_)
      have e2 : a.eval (.tmp 2) = .string t := hb 2 (by kernel_rfl)
      exact Reg.run_value (Reg.run_move rfl e2) rfl (Below.refl _ _) hI
    · -- 15: Op.call { callee := Callee.builtin Builtin.len, args := #[Operand.tmp 173], argTypes := #[9] }
      refine Reg.step_run hB (Reg.runs_some (d := 171) rfl (by kernel_rfl) (by kernel_rfl) (fun _ _ h => h)) (fun a w1 hI hb hd => ?_)
      have e173 : a.eval (.tmp 173) = .string t := hd 14 173 (by kernel_rfl) (by kernel_rfl)
      refine Reg.run_value (v := .int .i64 (t.size : Int)) ?_ rfl (Below.refl _ _) hI
      clear hb hd
      have hc := fun v => Reg.eval_const a v
      have hf := fun f => Reg.eval_func a f
      generalize a.eval = ρ at *
      simp [go_sem, *]
    · -- 16: Op.binOp BinOp.leq 3 (Operand.tmp 172) (Operand.tmp 174) 3
      refine Reg.step_run hB (Reg.runs_some (d := 171) rfl (by kernel_rfl) (by kernel_rfl) (fun _ _ h => h)) (fun a w1 hI hb hd => ?_)
      have e172 : a.eval (.tmp 172) = .int .i64 (k : Int) := hd 13 172 (by kernel_rfl) (by kernel_rfl)
      have e174 : a.eval (.tmp 174) = .int .i64 (t.size : Int) := hd 15 174 (by kernel_rfl) (by kernel_rfl)
      refine Reg.run_value (v := .bool true) ?_ rfl (Below.refl _ _) hI
      clear hb hd
      have hc := fun v => Reg.eval_const a v
      have hf := fun f => Reg.eval_func a f
      generalize a.eval = ρ at *
      simp [execOp, go_sem, *]
    · -- 17: Op.pick (Operand.tmp 171) (Operand.tmp 175) (Operand.const (Value.bool false))
      refine Reg.step_run hB (Reg.runs_some (d := 169) rfl (by kernel_rfl) (by kernel_rfl) (fun _ _ h => h)) (fun a w1 hI hb hd => ?_)
      have e171 : a.eval (.tmp 171) = .bool true := hd 12 171 (by kernel_rfl) (by kernel_rfl)
      have e175 : a.eval (.tmp 175) = .bool true := hd 16 175 (by kernel_rfl) (by kernel_rfl)
      refine Reg.run_value (v := .bool true) ?_ rfl (Below.refl _ _) hI
      clear hb hd
      have hc := fun v => Reg.eval_const a v
      have hf := fun f => Reg.eval_func a f
      generalize a.eval = ρ at *
      simp [execOp, go_sem, *]
    · -- 18: Op.move (Operand.tmp 176)
      refine Reg.step_run hB (Reg.runs_some (d := 169) rfl (by kernel_rfl) (by kernel_rfl) (fun _ _ h => h)) (fun a w1 hI hb hd => ?_)
      have e176 : a.eval (.tmp 176) = .bool true := hd 17 176 (by kernel_rfl) (by kernel_rfl)
      exact Reg.run_value (Reg.run_move rfl e176) rfl (Below.refl _ _) hI
    · -- 19: Op.move (Operand.tmp 19)
      refine Reg.step_run hB (Reg.runs_some (d := 177) rfl (by kernel_rfl) (by kernel_rfl) (fun _ _ h => h)) (fun a w1 hI hb hd => ?_)
      have e19 : a.eval (.tmp 19) = .string y := hb 19 (by kernel_rfl)
      exact Reg.run_value (Reg.run_move rfl e19) rfl (Below.refl _ _) hI
    · -- 20: Op.buildSlice 25 1 #[(0, Operand.tmp 178)]
      refine Reg.step_run hB (Reg.runs_some (d := 177) rfl (by kernel_rfl) (by kernel_rfl) (fun _ _ h => h)) (fun a w1 hI hb hd => ?_)
      have e178 : a.eval (.tmp 178) = .string y := hd 19 178 (by kernel_rfl) (by kernel_rfl)
      refine Reg.run_made (v := .slice (some ⟨w1.heap.size, 0, none⟩) 1 1) (w' := w1.alloc (.cells #[.string y] 9)) ?_ (show Sp _ _ by rw [hSp]; exact ⟨_, rfl, Lies.new _ (sc [y]) _⟩) (bnew (Below.refl _ _) _) (bnew hI _)
      clear hb hd
      have hc := fun v => Reg.eval_const a v
      have hf := fun f => Reg.eval_func a f
      generalize a.eval = ρ at *
      simp [execOp, go_sem, *]
    · -- 21: Op.call { callee := Callee.value (Operand.func 14), args := #[Operand.tmp 179], argTypes := #[25] }
      refine Reg.step_run hB (Reg.runs_some (d := 177) rfl (by kernel_rfl) (by kernel_rfl) (fun _ _ h => h)) (fun a w1 hI hb hd => ?_)
      have e179 : Sp (a.eval (.tmp 179)) w1 := hd 20 179 (by kernel_rfl) (by kernel_rfl)
      rw [hSp] at e179
      obtain ⟨g, hg, hl⟩ := e179
      refine Reg.run_call (f := 14) (args := #[.slice (some ⟨g, 0, none⟩) 1 1]) ?_ (hv w1 _ hl) (fun _ _ => rfl) (fun _ h => bnext hI h)
      clear hb hd
      have hc := fun v => Reg.eval_const a v
      have hf := fun f => Reg.eval_func a f
      generalize a.eval = ρ at *
      simp [go_sem, *]
    · -- 22: Op.move (Operand.tmp 2)
      refine Reg.step_run hB (Reg.runs_some (d := 177) rfl (by kernel_rfl) (by kernel_rfl) (fun _ _ h => h)) (fun a w1 hI hb hd => ?_)
      have e2 : a.eval (.tmp 2) = .string t := hb 2 (by kernel_rfl)
      exact Reg.run_value (Reg.run_move rfl e2) rfl (Below.refl _ _) hI
    · -- 23: Op.move (Operand.tmp 17)
      refine Reg.step_run hB (Reg.runs_some (d := 177) rfl (by kernel_rfl) (by kernel_rfl) (fun _ _ h => h)) (fun a w1 hI hb hd => ?_)
      have e17 : a.eval (.tmp 17) = .int .i64 (k : Int) := hb 17 (by kernel_rfl)
      exact Reg.run_value (Reg.run_move rfl e17) rfl (Below.refl _ _) hI
    · -- 24: Op.slice 9 (Operand.tmp 181) none (some (Operand.tmp 182)) none
      refine Reg.step_run hB (Reg.runs_some (d := 177) rfl (by kernel_rfl) (by kernel_rfl) (fun _ _ h => h)) (fun a w1 hI hb hd => ?_)
      have e181 : a.eval (.tmp 181) = .string t := hd 22 181 (by kernel_rfl) (by kernel_rfl)
      have e182 : a.eval (.tmp 182) = .int .i64 (k : Int) := hd 23 182 (by kernel_rfl) (by kernel_rfl)
      refine Reg.run_value (v := .string (t.extract 0 k)) ?_ rfl (Below.refl _ _) hI
      clear hb hd
      have hc := fun v => Reg.eval_const a v
      have hf := fun f => Reg.eval_func a f
      generalize a.eval = ρ at *
      simp [execOp, go_sem, *]
    · -- 25: Op.binOp BinOp.eql 9 (Operand.tmp 180) (Operand.tmp 183) 9
      refine Reg.step_run hB (Reg.runs_some (d := 177) rfl (by kernel_rfl) (by kernel_rfl) (fun _ _ h => h)) (fun a w1 hI hb hd => ?_)
      have e180 : a.eval (.tmp 180) = .string x := hd 21 180 (by kernel_rfl) (by kernel_rfl)
      have e183 : a.eval (.tmp 183) = .string (t.extract 0 k) := hd 24 183 (by kernel_rfl) (by kernel_rfl)
      refine Reg.run_value (v := .bool true) ?_ rfl (Below.refl _ _) hI
      clear hb hd
      have hc := fun v => Reg.eval_const a v
      have hf := fun f => Reg.eval_func a f
      generalize a.eval = ρ at *
      simp [execOp, go_sem, *]
    · -- 26: Op.pick (Operand.tmp 177) (Operand.tmp 184) (Operand.const (Value.bool false))
      refine Reg.step_run hB (Reg.runs_some (d := 169) rfl (by kernel_rfl) (by kernel_rfl) (fun _ _ h => h)) (fun a w1 hI hb hd => ?_)
      have e177 : a.eval (.tmp 177) = .bool true := hd 18 177 (by kernel_rfl) (by kernel_rfl)
      have e184 : a.eval (.tmp 184) = .bool true := hd 25 184 (by kernel_rfl) (by kernel_rfl)
      refine Reg.run_value (v := .bool true) ?_ rfl (Below.refl _ _) hI
      clear hb hd
      have hc := fun v => Reg.eval_const a v
      have hf := fun f => Reg.eval_func a f
      generalize a.eval = ρ at *
      simp [execOp, go_sem, *]
    · -- 27: Op.pick (Operand.tmp 169) (Operand.const (Value.bool true)) (Operand.tmp 185)
      refine Reg.step_run hB (Reg.runs_none rfl) (fun a w1 hI hb hd => ?_)
      have e169 : a.eval (.tmp 169) = .bool false := hd 10 169 (by kernel_rfl) (by kernel_rfl)
      have e185 : a.eval (.tmp 185) = .bool true := hd 26 185 (by kernel_rfl) (by kernel_rfl)
      refine Reg.run_value (v := .bool true) ?_ rfl (Below.refl _ _) hI
      clear hb hd
      have hc := fun v => Reg.eval_const a v
      have hf := fun f => Reg.eval_func a f
      generalize a.eval = ρ at *
      simp [execOp, go_sem, *]
    · -- 28: Op.move (Operand.tmp 186)
      refine Reg.step_run hB (Reg.runs_none rfl) (fun a w1 hI hb hd => ?_)
      have e186 : a.eval (.tmp 186) = .bool true := hd 27 186 (by kernel_rfl) (by kernel_rfl)
      exact Reg.run_value (Reg.run_move rfl e186) rfl (Below.refl _ _) hI
    · -- 29: Op.call { callee := Callee.value (Operand.func 15), args := #[], argTypes := #[] }
      refine Reg.step_run hB (Reg.runs_some (d := 187) rfl (by kernel_rfl) (by kernel_rfl) (fun _ _ h => h)) (fun a w1 hI hb hd => ?_)
      refine Reg.run_call (f := 15) (args := #[]) ?_ (awake_any w1) (fun _ _ => rfl) (fun _ h => bnext hI h)
      clear hb hd
      have hc := fun v => Reg.eval_const a v
      have hf := fun f => Reg.eval_func a f
      generalize a.eval = ρ at *
      simp [go_sem, *]
    · -- 30: Op.pick (Operand.tmp 187) (Operand.tmp 188) (Operand.const (Value.bool false))
      refine Reg.step_run hB (Reg.runs_none rfl) (fun a w1 hI hb hd => ?_)
      have e187 : a.eval (.tmp 187) = .bool true := hd 28 187 (by kernel_rfl) (by kernel_rfl)
      have e188 : a.eval (.tmp 188) = .bool true := hd 29 188 (by kernel_rfl) (by kernel_rfl)
      refine Reg.run_value (v := .bool true) ?_ rfl (Below.refl _ _) hI
      clear hb hd
      have hc := fun v => Reg.eval_const a v
      have hf := fun f => Reg.eval_func a f
      generalize a.eval = ρ at *
      simp [execOp, go_sem, *]
    · -- 31: Op.assign (Operand.tmp 189)
      refine Reg.step_run hB (Reg.runs_none rfl) (fun a w1 hI hb hd => ?_)
      have e189 : a.eval (.tmp 189) = .bool true := hd 30 189 (by kernel_rfl) (by kernel_rfl)
      exact Reg.run_value (Reg.run_assign rfl e189) rfl (Below.refl _ _) hI
  case fin =>
    intro vals w' hI hg
    have g0 : vals 0 = .bool true := hg 0 (by simp)
    have g1 : vals 1 = .bool false := hg 1 (by simp)
    have g2 : vals 2 = .bool false := hg 2 (by simp)
    have g3 : vals 3 = undef := hg 3 (by simp)
    have g4 : vals 4 = undef := hg 4 (by simp)
    have g5 : vals 5 = .bool false := hg 5 (by simp)
    have g6 : vals 6 = .bool false := hg 6 (by simp)
    have g7 : vals 7 = undef := hg 7 (by simp)
    have g8 : vals 8 = undef := hg 8 (by simp)
    have g9 : vals 9 = .bool false := hg 9 (by simp)
    have g10 : vals 10 = .bool false := hg 10 (by simp)
    have g11 : vals 11 = .bool true := hg 11 (by simp)
    have g12 : vals 12 = .bool true := hg 12 (by simp)
    have g13 : vals 13 = .int .i64 (k : Int) := hg 13 (by simp)
    have g14 : vals 14 = .string t := hg 14 (by simp)
    have g15 : vals 15 = .int .i64 (t.size : Int) := hg 15 (by simp)
    have g16 : vals 16 = .bool true := hg 16 (by simp)
    have g17 : vals 17 = .bool true := hg 17 (by simp)
    have g18 : vals 18 = .bool true := hg 18 (by simp)
    have g19 : vals 19 = .string y := hg 19 (by simp)
    have g21 : vals 21 = .string x := hg 21 (by simp)
    have g22 : vals 22 = .string t := hg 22 (by simp)
    have g23 : vals 23 = .int .i64 (k : Int) := hg 23 (by simp)
    have g24 : vals 24 = .string (t.extract 0 k) := hg 24 (by simp)
    have g25 : vals 25 = .bool true := hg 25 (by simp)
    have g26 : vals 26 = .bool true := hg 26 (by simp)
    have g27 : vals 27 = .bool true := hg 27 (by simp)
    have g28 : vals 28 = .bool true := hg 28 (by simp)
    have g29 : vals 29 = .bool true := hg 29 (by simp)
    have g30 : vals 30 = .bool true := hg 30 (by simp)
    have g31 : vals 31 = .bool true := hg 31 (by simp)
    refine Reg.fin_of (y := #[c0, c1, .string t, c3, c4, c5, vals 31, c7, c8, c9, c10, c11, c12, c13, c14, c15, c16, .int .i64 (k : Int), .bool true, .string y, c20, c21, c22, c23, c24, c25, c26, c27, c28, c29, c30, c31, c32, c33, c34, c35, c36, c37, c38, c39, c40, c41, c42, c43, c44, c45, c46, c47, c48, c49, c50, c51, c52, c53, c54, c55, c56, c57, c58, c59, c60, c61, c62, c63, c64, c65, c66, c67, c68, c69, c70, c71, c72, c73, c74, c75, c76, c77, c78, c79, c80, c81, c82, c83, c84, c85, c86, c87, c88, c89, c90, c91, c92, c93, c94, c95, c96, c97, c98, c99, c100, c101, c102, c103, c104, c105, c106, c107, c108, c109, c110, c111, c112, c113, c114, c115, c116, c117, c118, c119, c120, c121, c122, c123, c124, c125, c126, c127, c128, c129, c130, c131, c132, c133, c134, c135, c136, c137, c138, c139, c140, c141, c142, c143, c144, c145, c146, c147, c148, c149, c150, c151, c152, c153, c154, c155, c156, c157, c158, vals 0, vals 1, vals 2, vals 3, vals 4, vals 5, vals 6, vals 7, vals 8, vals 9, vals 10, vals 11, vals 12, vals 13, vals 14, vals 15, vals 16, vals 17, vals 18, vals 19, vals 20, vals 21, vals 22, vals 23, vals 24, vals 25, vals 26, vals 27, vals 28, vals 29, vals 30]) (by kernel_rfl) ?_
    rw [g0, g1, g2, g3, g4, g5, g6, g7, g8, g9, g10, g11, g12, g13, g14, g15, g16, g17, g18, g19, g21, g22, g23, g24, g25, g26, g27, g28, g29, g30, g31]
    exact h (vals 20) w' hI
end Go.Proofs.Ytnfghgkdedmphaa
