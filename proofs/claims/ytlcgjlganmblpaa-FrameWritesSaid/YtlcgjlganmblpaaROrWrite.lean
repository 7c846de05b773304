/-
  wapentakeref03.WriteOper walked. WRITTEN BY wip/tools/gen_orw.py.
-/
import Derived.Test.YtlcgjlganmblpaaROrMay
import Derived.Test.YtlcgjlganmblpaaROrT
import Derived.Test.YtlcgjlganmblpaaRWords
import Derived.Test.YtlcgjlganmblpaaRReg
import Derived.Lib.QuietBelow
set_option linter.unusedSimpArgs false
set_option linter.unusedVariables false
namespace Go.Proofs.Ytlcgjlganmblpaa
open Go.RowKit
set_option linter.unusedVariables false
noncomputable def orw6C : Code := ((Try.f42.body.bind (Reg.findRegion 6)).getD .skip)
set_option maxRecDepth 100000 in
set_option maxHeartbeats 4000000 in
theorem orw6 {c0 c2 c4 c5 c6 c7 c8 c9 c10 c11 c12 c13 c14 c15 c16 c17 c18 c19 c20 c21 c22 c23 c24 c25 c26 c27 c28 c29 c30 c31 c32 c33 c34 c35 c36 c37 c38 c39 c40 c41 c42 c43 c44 c45 c46 c47 c48 c49 c50 c51 c52 c53 c54 c55 c56 c57 c58 c59 c60 c61 c62 c63 c64 c65 c66 c67 c68 c69 c70 c71 c72 c73 : Value} (g sl n1 n2 n3 n4 : Nat) (s u v : ByteArray) (w : World) (h1 : w.cell? ⟨g, 1, none⟩ = some (.int .u8 (sl : Int))) (h11 : w.cell? ⟨g, 11, none⟩ = some (.int .i64 (n1 : Int))) (h12 : w.cell? ⟨g, 12, none⟩ = some (.int .i64 (n2 : Int))) (h13 : w.cell? ⟨g, 13, none⟩ = some (.int .i64 (n3 : Int))) (h14 : w.cell? ⟨g, 14, none⟩ = some (.int .i64 (n4 : Int))) (hwi : IntKind.i64.wrap (sl : Int) = (sl : Int)) (hwn1 : IntKind.u64.wrap (n1 : Int) = (n1 : Int)) (hwn2 : IntKind.u64.wrap (n2 : Int) = (n2 : Int)) (hwn3 : IntKind.u64.wrap (n3 : Int) = (n3 : Int)) (hwn4 : IntKind.u64.wrap (n4 : Int) = (n4 : Int))
   (hO : ∀ W, Calls Try.prog 67 #[.int .i64 (sl : Int)] W fun r w' => r = .returned (.string u) ∧ Below W.heap.size W w')
   (hV : ∀ (W : World) (A : Option Addr), Lies W A (uc [n1, n2, n3, n4]) → Calls Try.prog 44 #[.slice A 4 4] W fun r w' => r = .returned (.string v) ∧ Below W.heap.size W w')
   (ha : ∀ W : World, (Op.stringOp .add s u).run Try.prog W = .ok (.string (s ++ u)) W) (hb0 : ∀ W : World, (Op.stringOp .add (s ++ u) v).run Try.prog W = .ok (.string (s ++ u ++ v)) W) (Q : Exit → Act → World → Prop)
   (h : ∀ (u18 : Value) (w' : World), Below w.heap.size w w' → Q .normal ⟨#[c0, .pointer (some ⟨g, 0, none⟩), .string (s ++ u ++ v), .string s, c4, c5, c6, c7, c8, c9, c10, c11, c12, c13, c14, .string s, .pointer (some ⟨g, 1, none⟩), .int .u8 (sl : Int), .int .i64 (sl : Int), .string u, .string (s ++ u), .pointer (some ⟨g, 11, none⟩), .int .i64 (n1 : Int), .int .u64 (n1 : Int), .pointer (some ⟨g, 12, none⟩), .int .i64 (n2 : Int), .int .u64 (n2 : Int), .pointer (some ⟨g, 13, none⟩), .int .i64 (n3 : Int), .int .u64 (n3 : Int), .pointer (some ⟨g, 14, none⟩), .int .i64 (n4 : Int), .int .u64 (n4 : Int), u18, .string v, .string (s ++ u ++ v), c36, c37, c38, c39, c40, c41, c42, c43, c44, c45, c46, c47, c48, c49, c50, c51, c52, c53, c54, c55, c56, c57, c58, c59, c60, c61, c62, c63, c64, c65, c66, c67, c68, c69, c70, c71, c72, c73], []⟩ w') :
   Code.wp Try.prog orw6C Q ⟨#[c0, .pointer (some ⟨g, 0, none⟩), c2, .string s, c4, c5, c6, c7, c8, c9, c10, c11, c12, c13, c14, c15, c16, c17, c18, c19, c20, c21, c22, c23, c24, c25, c26, c27, c28, c29, c30, c31, c32, c33, c34, c35, c36, c37, c38, c39, c40, c41, c42, c43, c44, c45, c46, c47, c48, c49, c50, c51, c52, c53, c54, c55, c56, c57, c58, c59, c60, c61, c62, c63, c64, c65, c66, c67, c68, c69, c70, c71, c72, c73], []⟩ w := by
  obtain ⟨L, hL⟩ : ∃ L : Nat → List Value × Nat, L = fun i => match i with | 18 => (uc [n1, n2, n3, n4], 4) | _ => ([], 0) := ⟨_, rfl⟩
  obtain ⟨Sp, hSp⟩ : ∃ Sp : Nat → Value → World → Prop, Sp = fun i v w => ∃ r, v = .slice (some ⟨r, 0, none⟩) (L i).2 (L i).2 ∧ Lies w (some ⟨r, 0, none⟩) (L i).1 := ⟨_, rfl⟩
  rw [hL] at hSp
  conv => arg 2; whnf
  refine Reg.wp_region_inv (fun w' => Below w.heap.size w w') (fun x y => Below x.heap.size x y) (Reg.KnownI [some (.string s), some (.pointer (some ⟨g, 1, none⟩)), some (.int .u8 (sl : Int)), some (.int .i64 (sl : Int)), some (.string u), some (.string (s ++ u)), some (.pointer (some ⟨g, 11, none⟩)), some (.int .i64 (n1 : Int)), some (.int .u64 (n1 : Int)), some (.pointer (some ⟨g, 12, none⟩)), some (.int .i64 (n2 : Int)), some (.int .u64 (n2 : Int)), some (.pointer (some ⟨g, 13, none⟩)), some (.int .i64 (n3 : Int)), some (.int .u64 (n3 : Int)), some (.pointer (some ⟨g, 14, none⟩)), some (.int .i64 (n4 : Int)), some (.int .u64 (n4 : Int)), none, some (.string v), some (.string (s ++ u ++ v)), some (.string (s ++ u ++ v))] Sp) (by kernel_rfl) (by kernel_rfl) (Reg.knownI_mono ?mono) (Below.refl _ _).drew ?steps ?fin
  case mono =>
    intro i v w w' hs hb
    rw [hSp] at hs ⊢
    obtain ⟨r, hr, hl⟩ := hs
    exact ⟨r, hr, hl.below hb⟩
  case steps =>
    intro hB
    refine ⟨?_, ?_, ?_, ?_, ?_, ?_, ?_, ?_, ?_, ?_, ?_, ?_, ?_, ?_, ?_, ?_, ?_, ?_, ?_, ?_, ?_, ?_, trivial⟩
    · -- 0: Op.move (Operand.tmp 3)
      refine Reg.step_run hB (Reg.runs_none rfl) (fun a w1 hI hb hd => ?_)
      have e3 : a.eval (.tmp 3) = .string s := hb 3 (by kernel_rfl)
      exact Reg.run_value (Reg.run_move rfl e3) rfl (Below.refl _ _) hI
    · -- 1: Op.fieldAddr 33 (Operand.tmp 1) 1
      refine Reg.step_run hB (Reg.runs_none rfl) (fun a w1 hI hb hd => ?_)
      have e1 : a.eval (.tmp 1) = .pointer (some ⟨g, 0, none⟩) := hb 1 (by kernel_rfl)
      refine Reg.run_value (v := .pointer (some ⟨g, 1, none⟩)) ?_ rfl (Below.refl _ _) hI
      clear hb hd
      have hc := fun v => Reg.eval_const a v
      have hf := fun f => Reg.eval_func a f
      generalize a.eval = ρ at *
      simp [execOp, go_sem, *]
    · -- 2: Op.load 5 (Operand.tmp 16)
      refine Reg.step_run hB (Reg.runs_none rfl) (fun a w1 hI hb hd => ?_)
      have e16 : a.eval (.tmp 16) = .pointer (some ⟨g, 1, none⟩) := hd 1 16 (by kernel_rfl) (by kernel_rfl)
      have hl := later hI h1
      refine Reg.run_value (v := .int .u8 (sl : Int)) ?_ rfl (Below.refl _ _) hI
      clear hb hd
      have hc := fun v => Reg.eval_const a v
      have hf := fun f => Reg.eval_func a f
      generalize a.eval = ρ at *
      simp [execOp, go_sem, *]
    · -- 3: Op.convert 5 3 (Operand.tmp 17)
      refine Reg.step_run hB (Reg.runs_none rfl) (fun a w1 hI hb hd => ?_)
      have e17 : a.eval (.tmp 17) = .int .u8 (sl : Int) := hd 2 17 (by kernel_rfl) (by kernel_rfl)
      refine Reg.run_value (v := .int .i64 (sl : Int)) ?_ rfl (Below.refl _ _) hI
      clear hb hd
      have hc := fun v => Reg.eval_const a v
      have hf := fun f => Reg.eval_func a f
      generalize a.eval = ρ at *
      simp [execOp, go_sem, hwi, *]
    · -- 4: Op.call { callee := Callee.value (Operand.func 68), args := #[Operand.tmp 18], argTypes := #[3] }
      refine Reg.step_run hB (Reg.runs_none rfl) (fun a w1 hI hb hd => ?_)
      have e18 : a.eval (.tmp 18) = .int .i64 (sl : Int) := hd 3 18 (by kernel_rfl) (by kernel_rfl)
      refine Reg.run_call (f := 67) (args := #[.int .i64 (sl : Int)]) ?_ (hO w1) (fun _ _ => rfl) (fun _ h => bnext hI h)
      clear hb hd
      have hc := fun v => Reg.eval_const a v
      have hf := fun f => Reg.eval_func a f
      generalize a.eval = ρ at *
      simp [go_sem, *]
    · -- 5: Op.binOp BinOp.add 9 (Operand.tmp 15) (Operand.tmp 19) 9
      refine Reg.step_run hB (Reg.runs_none rfl) (fun a w1 hI hb hd => ?_)
      have e15 : a.eval (.tmp 15) = .string s := hd 0 15 (by kernel_rfl) (by kernel_rfl)
      have e19 : a.eval (.tmp 19) = .string u := hd 4 19 (by kernel_rfl) (by kernel_rfl)
      have ha2 := ha w1
      refine Reg.run_value (v := .string (s ++ u)) ?_ rfl (Below.refl _ _) hI
      clear hb hd
      have hc := fun v => Reg.eval_const a v
      have hf := fun f => Reg.eval_func a f
      generalize a.eval = ρ at *
      simp [execOp, go_sem, *]
    · -- 6: Op.fieldAddr 33 (Operand.tmp 1) 4
      refine Reg.step_run hB (Reg.runs_none rfl) (fun a w1 hI hb hd => ?_)
      have e1 : a.eval (.tmp 1) = .pointer (some ⟨g, 0, none⟩) := hb 1 (by kernel_rfl)
      refine Reg.run_value (v := .pointer (some ⟨g, 11, none⟩)) ?_ rfl (Below.refl _ _) hI
      clear hb hd
      have hc := fun v => Reg.eval_const a v
      have hf := fun f => Reg.eval_func a f
      generalize a.eval = ρ at *
      simp [execOp, go_sem, *]
    · -- 7: Op.load 3 (Operand.tmp 21)
      refine Reg.step_run hB (Reg.runs_none rfl) (fun a w1 hI hb hd => ?_)
      have e21 : a.eval (.tmp 21) = .pointer (some ⟨g, 11, none⟩) := hd 6 21 (by kernel_rfl) (by kernel_rfl)
      have hl := later hI h11
      refine Reg.run_value (v := .int .i64 (n1 : Int)) ?_ rfl (Below.refl _ _) hI
      clear hb hd
      have hc := fun v => Reg.eval_const a v
      have hf := fun f => Reg.eval_func a f
      generalize a.eval = ρ at *
      simp [execOp, go_sem, *]
    · -- 8: Op.convert 3 25 (Operand.tmp 22)
      refine Reg.step_run hB (Reg.runs_none rfl) (fun a w1 hI hb hd => ?_)
      have e22 : a.eval (.tmp 22) = .int .i64 (n1 : Int) := hd 7 22 (by kernel_rfl) (by kernel_rfl)
      refine Reg.run_value (v := .int .u64 (n1 : Int)) ?_ rfl (Below.refl _ _) hI
      clear hb hd
      have hc := fun v => Reg.eval_const a v
      have hf := fun f => Reg.eval_func a f
      generalize a.eval = ρ at *
      simp [execOp, go_sem, hwn1, *]
    · -- 9: Op.fieldAddr 33 (Operand.tmp 1) 5
      refine Reg.step_run hB (Reg.runs_none rfl) (fun a w1 hI hb hd => ?_)
      have e1 : a.eval (.tmp 1) = .pointer (some ⟨g, 0, none⟩) := hb 1 (by kernel_rfl)
      refine Reg.run_value (v := .pointer (some ⟨g, 12, none⟩)) ?_ rfl (Below.refl _ _) hI
      clear hb hd
      have hc := fun v => Reg.eval_const a v
      have hf := fun f => Reg.eval_func a f
      generalize a.eval = ρ at *
      simp [execOp, go_sem, *]
    · -- 10: Op.load 3 (Operand.tmp 24)
      refine Reg.step_run hB (Reg.runs_none rfl) (fun a w1 hI hb hd => ?_)
      have e24 : a.eval (.tmp 24) = .pointer (some ⟨g, 12, none⟩) := hd 9 24 (by kernel_rfl) (by kernel_rfl)
      have hl := later hI h12
      refine Reg.run_value (v := .int .i64 (n2 : Int)) ?_ rfl (Below.refl _ _) hI
      clear hb hd
      have hc := fun v => Reg.eval_const a v
      have hf := fun f => Reg.eval_func a f
      generalize a.eval = ρ at *
      simp [execOp, go_sem, *]
    · -- 11: Op.convert 3 25 (Operand.tmp 25)
      refine Reg.step_run hB (Reg.runs_none rfl) (fun a w1 hI hb hd => ?_)
      have e25 : a.eval (.tmp 25) = .int .i64 (n2 : Int) := hd 10 25 (by kernel_rfl) (by kernel_rfl)
      refine Reg.run_value (v := .int .u64 (n2 : Int)) ?_ rfl (Below.refl _ _) hI
      clear hb hd
      have hc := fun v => Reg.eval_const a v
      have hf := fun f => Reg.eval_func a f
      generalize a.eval = ρ at *
      simp [execOp, go_sem, hwn2, *]
    · -- 12: Op.fieldAddr 33 (Operand.tmp 1) 6
      refine Reg.step_run hB (Reg.runs_none rfl) (fun a w1 hI hb hd => ?_)
      have e1 : a.eval (.tmp 1) = .pointer (some ⟨g, 0, none⟩) := hb 1 (by kernel_rfl)
      refine Reg.run_value (v := .pointer (some ⟨g, 13, none⟩)) ?_ rfl (Below.refl _ _) hI
      clear hb hd
      have hc := fun v => Reg.eval_const a v
      have hf := fun f => Reg.eval_func a f
      generalize a.eval = ρ at *
      simp [execOp, go_sem, *]
    · -- 13: Op.load 3 (Operand.tmp 27)
      refine Reg.step_run hB (Reg.runs_none rfl) (fun a w1 hI hb hd => ?_)
      have e27 : a.eval (.tmp 27) = .pointer (some ⟨g, 13, none⟩) := hd 12 27 (by kernel_rfl) (by kernel_rfl)
      have hl := later hI h13
      refine Reg.run_value (v := .int .i64 (n3 : Int)) ?_ rfl (Below.refl _ _) hI
      clear hb hd
      have hc := fun v => Reg.eval_const a v
      have hf := fun f => Reg.eval_func a f
      generalize a.eval = ρ at *
      simp [execOp, go_sem, *]
    · -- 14: Op.convert 3 25 (Operand.tmp 28)
      refine Reg.step_run hB (Reg.runs_none rfl) (fun a w1 hI hb hd => ?_)
      have e28 : a.eval (.tmp 28) = .int .i64 (n3 : Int) := hd 13 28 (by kernel_rfl) (by kernel_rfl)
      refine Reg.run_value (v := .int .u64 (n3 : Int)) ?_ rfl (Below.refl _ _) hI
      clear hb hd
      have hc := fun v => Reg.eval_const a v
      have hf := fun f => Reg.eval_func a f
      generalize a.eval = ρ at *
      simp [execOp, go_sem, hwn3, *]
    · -- 15: Op.fieldAddr 33 (Operand.tmp 1) 7
      refine Reg.step_run hB (Reg.runs_none rfl) (fun a w1 hI hb hd => ?_)
      have e1 : a.eval (.tmp 1) = .pointer (some ⟨g, 0, none⟩) := hb 1 (by kernel_rfl)
      refine Reg.run_value (v := .pointer (some ⟨g, 14, none⟩)) ?_ rfl (Below.refl _ _) hI
      clear hb hd
      have hc := fun v => Reg.eval_const a v
      have hf := fun f => Reg.eval_func a f
      generalize a.eval = ρ at *
      simp [execOp, go_sem, *]
    · -- 16: Op.load 3 (Operand.tmp 30)
      refine Reg.step_run hB (Reg.runs_none rfl) (fun a w1 hI hb hd => ?_)
      have e30 : a.eval (.tmp 30) = .pointer (some ⟨g, 14, none⟩) := hd 15 30 (by kernel_rfl) (by kernel_rfl)
      have hl := later hI h14
      refine Reg.run_value (v := .int .i64 (n4 : Int)) ?_ rfl (Below.refl _ _) hI
      clear hb hd
      have hc := fun v => Reg.eval_const a v
      have hf := fun f => Reg.eval_func a f
      generalize a.eval = ρ at *
      simp [execOp, go_sem, *]
    · -- 17: Op.convert 3 25 (Operand.tmp 31)
      refine Reg.step_run hB (Reg.runs_none rfl) (fun a w1 hI hb hd => ?_)
      have e31 : a.eval (.tmp 31) = .int .i64 (n4 : Int) := hd 16 31 (by kernel_rfl) (by kernel_rfl)
      refine Reg.run_value (v := .int .u64 (n4 : Int)) ?_ rfl (Below.refl _ _) hI
      clear hb hd
      have hc := fun v => Reg.eval_const a v
      have hf := fun f => Reg.eval_func a f
      generalize a.eval = ρ at *
      simp [execOp, go_sem, hwn4, *]
    · -- 18: Op.buildSlice 104 4 #[(0, Operand.tmp 23), (1, Operand.tmp 26), (2, Operand.tmp 29), (3, Operand.tmp
      refine Reg.step_run hB (Reg.runs_none rfl) (fun a w1 hI hb hd => ?_)
      have e23 : a.eval (.tmp 23) = .int .u64 (n1 : Int) := hd 8 23 (by kernel_rfl) (by kernel_rfl)
      have e26 : a.eval (.tmp 26) = .int .u64 (n2 : Int) := hd 11 26 (by kernel_rfl) (by kernel_rfl)
      have e29 : a.eval (.tmp 29) = .int .u64 (n3 : Int) := hd 14 29 (by kernel_rfl) (by kernel_rfl)
      have e32 : a.eval (.tmp 32) = .int .u64 (n4 : Int) := hd 17 32 (by kernel_rfl) (by kernel_rfl)
      refine Reg.run_made (v := .slice (some ⟨w1.heap.size, 0, none⟩) 4 4) (w' := w1.alloc (.cells #[.int .u64 (n1 : Int), .int .u64 (n2 : Int), .int .u64 (n3 : Int), .int .u64 (n4 : Int)] 27)) ?_ (show Sp 18 _ _ by rw [hSp]; exact ⟨_, rfl, Lies.new _ (uc [n1, n2, n3, n4]) _⟩) (bnew (Below.refl _ _) _) (bnew hI _)
      clear hb hd
      have hc := fun v => Reg.eval_const a v
      have hf := fun f => Reg.eval_func a f
      generalize a.eval = ρ at *
      simp [execOp, go_sem, *]
    · -- 19: Op.call { callee := Callee.value (Operand.func 69), args := #[Operand.tmp 33], argTypes := #[104] }
      refine Reg.step_run hB (Reg.runs_none rfl) (fun a w1 hI hb hd => ?_)
      have e33 : Sp 18 (a.eval (.tmp 33)) w1 := hd 18 33 (by kernel_rfl) (by kernel_rfl)
      rw [hSp] at e33
      obtain ⟨r, hr, hl⟩ := e33
      replace hr : a.eval (.tmp 33) = .slice (some ⟨r, 0, none⟩) 4 4 := hr
      refine Reg.run_call (f := 44) (args := #[.slice (some ⟨r, 0, none⟩) 4 4]) ?_ (hV w1 _ hl) (fun _ _ => rfl) (fun _ h => bnext hI h)
      clear hb hd
      have hc := fun v => Reg.eval_const a v
      have hf := fun f => Reg.eval_func a f
      generalize a.eval = ρ at *
      simp [go_sem, *]
    · -- 20: Op.binOp BinOp.add 9 (Operand.tmp 20) (Operand.tmp 34) 9
      refine Reg.step_run hB (Reg.runs_none rfl) (fun a w1 hI hb hd => ?_)
      have e20 : a.eval (.tmp 20) = .string (s ++ u) := hd 5 20 (by kernel_rfl) (by kernel_rfl)
      have e34 : a.eval (.tmp 34) = .string v := hd 19 34 (by kernel_rfl) (by kernel_rfl)
      have ha2 := hb0 w1
      refine Reg.run_value (v := .string (s ++ u ++ v)) ?_ rfl (Below.refl _ _) hI
      clear hb hd
      have hc := fun v => Reg.eval_const a v
      have hf := fun f => Reg.eval_func a f
      generalize a.eval = ρ at *
      simp [execOp, go_sem, *]
    · -- 21: Op.assign (Operand.tmp 35)
      refine Reg.step_run hB (Reg.runs_none rfl) (fun a w1 hI hb hd => ?_)
      have e35 : a.eval (.tmp 35) = .string (s ++ u ++ v) := hd 20 35 (by kernel_rfl) (by kernel_rfl)
      exact Reg.run_value (Reg.run_assign rfl e35) rfl (Below.refl _ _) hI
  case fin =>
    intro vals w' hI hg
    have g0 : vals 0 = .string s := hg 0 (by simp)
    have g1 : vals 1 = .pointer (some ⟨g, 1, none⟩) := hg 1 (by simp)
    have g2 : vals 2 = .int .u8 (sl : Int) := hg 2 (by simp)
    have g3 : vals 3 = .int .i64 (sl : Int) := hg 3 (by simp)
    have g4 : vals 4 = .string u := hg 4 (by simp)
    have g5 : vals 5 = .string (s ++ u) := hg 5 (by simp)
    have g6 : vals 6 = .pointer (some ⟨g, 11, none⟩) := hg 6 (by simp)
    have g7 : vals 7 = .int .i64 (n1 : Int) := hg 7 (by simp)
    have g8 : vals 8 = .int .u64 (n1 : Int) := hg 8 (by simp)
    have g9 : vals 9 = .pointer (some ⟨g, 12, none⟩) := hg 9 (by simp)
    have g10 : vals 10 = .int .i64 (n2 : Int) := hg 10 (by simp)
    have g11 : vals 11 = .int .u64 (n2 : Int) := hg 11 (by simp)
    have g12 : vals 12 = .pointer (some ⟨g, 13, none⟩) := hg 12 (by simp)
    have g13 : vals 13 = .int .i64 (n3 : Int) := hg 13 (by simp)
    have g14 : vals 14 = .int .u64 (n3 : Int) := hg 14 (by simp)
    have g15 : vals 15 = .pointer (some ⟨g, 14, none⟩) := hg 15 (by simp)
    have g16 : vals 16 = .int .i64 (n4 : Int) := hg 16 (by simp)
    have g17 : vals 17 = .int .u64 (n4 : Int) := hg 17 (by simp)
    have g19 : vals 19 = .string v := hg 19 (by simp)
    have g20 : vals 20 = .string (s ++ u ++ v) := hg 20 (by simp)
    have g21 : vals 21 = .string (s ++ u ++ v) := hg 21 (by simp)
    refine Reg.fin_of (y := #[c0, .pointer (some ⟨g, 0, none⟩), vals 21, .string s, c4, c5, c6, c7, c8, c9, c10, c11, c12, c13, c14, vals 0, vals 1, vals 2, vals 3, vals 4, vals 5, vals 6, vals 7, vals 8, vals 9, vals 10, vals 11, vals 12, vals 13, vals 14, vals 15, vals 16, vals 17, vals 18, vals 19, vals 20, c36, c37, c38, c39, c40, c41, c42, c43, c44, c45, c46, c47, c48, c49, c50, c51, c52, c53, c54, c55, c56, c57, c58, c59, c60, c61, c62, c63, c64, c65, c66, c67, c68, c69, c70, c71, c72, c73]) (by kernel_rfl) ?_
    rw [g0, g1, g2, g3, g4, g5, g6, g7, g8, g9, g10, g11, g12, g13, g14, g15, g16, g17, g19, g20, g21]
    exact h (vals 18) w' hI
theorem vs4 (a b c d : Nat) : vs [a, b, c, d] = Nm.grp a ++ (Nm.grp b ++ (Nm.grp c ++ Nm.grp d)) := by simp [vs]
theorem u64_31 (n : Nat) (h : n ≤ 2147483647) : IntKind.u64.wrap (n : Int) = (n : Int) := by
  simp only [IntKind.wrap, IntKind.bits, IntKind.signed]
  simp
  omega
theorem grp31 (n : Nat) (h : n ≤ 2147483647) : (Nm.grp n).length ≤ 10 := grp_len n (by unfold Nm.top; omega)
/-- What WriteOper answers. -/
def Og.write (c : Og.Oper) : List UInt8 := if Og.may c then Og.enc c else []
set_option maxRecDepth 100000 in
set_option maxHeartbeats 8000000 in
theorem refWriteOper_any (c : Og.Oper) (hf : Og.Fits c) (w : World) : Calls Try.prog 42 #[.agg (operC c)] w (RetS (Og.write c) w) := by
  have hsz := operC_size c
  have hm := fun W => mayOper_any c W
  unfold RetTr operC at hm
  have H1 := Lib.hid one_any
  have HT := Lib.hid tokenOf_any
  unfold RetS at H1 HT ⊢
  unfold tk8 t8 at HT
  obtain ⟨X, hX⟩ : ∃ X, X = operC c := ⟨_, rfl⟩
  rw [← hX] at hsz ⊢
  have HX := Lib.hid hX
  clear hX
  by_cases hmay : Og.may c
  case neg =>
    rw [decide_eq_false hmay] at hm
    have HM := Lib.hid hm
    have EE : Hid (Og.write c = []) := Lib.hid (by unfold Og.write; rw [if_neg hmay])
    clear hm hmay
    go_enter Try.func42, Try.ntmps42
    go_upto_region 1 with (fail)
    refine forget (fun W => Below w.heap.size w W ∧ W.heap[w.heap.size]? = some (.cells (operC c) 26 (0, 0))) ⟨bnew (Below.refl _ _) _, by rw [← HX.out]; exact heap_alloc_new w _⟩ ?_
    rintro W0 ⟨hb0, hr0⟩
    obtain ⟨c0, c1, c2, c3, c4, c5, c6, c7, c8, c9, c10, c11, c12, c13, c14, c15, _⟩ := operAt hr0
    have HB := Lib.hid hb0
    clear hr0 hb0
    go_wp2_with fail
    refine (HM.out _).mono ?_
    rintro r w1 ⟨rfl, hb1⟩
    have HB1 := Lib.hid (bnext HB.out hb1)
    clear hb1
    go_wp2_with fail
    go_ret
    exact ⟨by rw [EE.out]; rfl, HB1.out⟩
  rw [decide_eq_true hmay] at hm
  have HM := Lib.hid hm
  have EE : Hid (Og.write c = Og.enc c) := Lib.hid (by unfold Og.write; rw [if_pos hmay])
  have Hmay := Lib.hid hmay
  have Hf := Lib.hid hf
  have op256 := hf.op
  have slot256 := hf.slot
  have role256 := hf.role
  have node256 := hf.node
  clear hm hmay hf
  go_enter Try.func42, Try.ntmps42
  go_upto_region 1 with (fail)
  refine forget (fun W => Below w.heap.size w W ∧ W.heap[w.heap.size]? = some (.cells (operC c) 26 (0, 0))) ⟨bnew (Below.refl _ _) _, by rw [← HX.out]; exact heap_alloc_new w _⟩ ?_
  rintro W0 ⟨hb0, hr0⟩
  obtain ⟨g, hg⟩ : ∃ g, g = w.heap.size := ⟨_, rfl⟩
  rw [← hg] at hr0 ⊢
  obtain ⟨c0, c1, c2, c3, c4, c5, c6, c7, c8, c9, c10, c11, c12, c13, c14, c15, _⟩ := operAt hr0
  have HB := Lib.hid (And.intro hb0 (And.intro hr0 (Array.getElem?_eq_some_iff.1 hr0).1))
  clear hr0 hb0 hg hsz HX
  go_wp2_with fail
  refine (HM.out _).mono ?_
  rintro r W1 ⟨rfl, hb1⟩
  have HB1 := Lib.hid (And.intro (bnext HB.out.1 hb1) (And.intro ((hb1.block _ HB.out.2.2).trans HB.out.2.1) (Nat.lt_of_lt_of_le HB.out.2.2 hb1.size)))
  clear hb1 c0 c1 c2 c3 c4 c5 c6 c7 c8 c9 c10 c11 c12 c13 c14 c15
  have c0 := (operAt HB1.out.2.1).c0
  go_upto_region 3 with (fail)
  go_wp2_with fail
  refine (H1.out _ _).mono ?_
  rintro r W2 ⟨rfl, hb2⟩
  have HB2 := Lib.hid (And.intro (bnext HB1.out.1 hb2) (And.intro ((hb2.block _ HB1.out.2.2).trans HB1.out.2.1) (Nat.lt_of_lt_of_le HB1.out.2.2 hb2.size)))
  clear hb2 c0
  have c0 := (operAt HB2.out.2.1).c0
  obtain ⟨s, hs⟩ : ∃ s : ByteArray, s = ⟨(Cm.one c.op).toArray⟩ := ⟨_, rfl⟩
  rw [← hs]
  have Hs := Lib.hid hs
  clear hs
  go_upto_region 5 with (fail)
  by_cases h : c.op = 1
  case pos =>
    have q1 : ((c.op : Int) == 1) = true := by simp; omega
    have hm := Hmay.out
    unfold Og.may at hm
    have hk : Og.amt c.keys ∧ Og.amt c.bytes ∧ Og.amt c.rate ∧ Og.amt c.burst := by
      rcases hm with h1 | h1 | h1 | h1 | h1
      · exact ⟨h1.2.2.2.2.1, h1.2.2.2.2.2.1, h1.2.2.2.2.2.2.1, h1.2.2.2.2.2.2.2.1⟩
      all_goals (exfalso; have := h1.1; omega)
    obtain ⟨hk1, hk2, hk3, hk4⟩ := hk
    unfold Og.amt at hk1 hk2 hk3 hk4
    have EN : Hid (Og.enc c = Cm.one c.op ++ (Cm.one c.slot ++ (Nm.grp c.keys.toNat ++ (Nm.grp c.bytes.toNat ++ (Nm.grp c.rate.toNat ++ Nm.grp c.burst.toNat))))) := Lib.hid (by unfold Og.enc; rw [if_pos h])
    obtain ⟨k1, yk1⟩ : ∃ n, n = c.keys.toNat := ⟨_, rfl⟩
    have ek1 : c.keys = (k1 : Int) := by omega
    have lk1 : k1 ≤ 2147483647 := by omega
    have mk1 := grp31 k1 lk1
    have c11 := (operAt HB2.out.2.1).c11
    rw [ek1] at c11
    rw [← yk1] at EN
    have wk1 := u64_31 k1 lk1
    obtain ⟨k2, yk2⟩ : ∃ n, n = c.bytes.toNat := ⟨_, rfl⟩
    have ek2 : c.bytes = (k2 : Int) := by omega
    have lk2 : k2 ≤ 2147483647 := by omega
    have mk2 := grp31 k2 lk2
    have c12 := (operAt HB2.out.2.1).c12
    rw [ek2] at c12
    rw [← yk2] at EN
    have wk2 := u64_31 k2 lk2
    obtain ⟨k3, yk3⟩ : ∃ n, n = c.rate.toNat := ⟨_, rfl⟩
    have ek3 : c.rate = (k3 : Int) := by omega
    have lk3 : k3 ≤ 2147483647 := by omega
    have mk3 := grp31 k3 lk3
    have c13 := (operAt HB2.out.2.1).c13
    rw [ek3] at c13
    rw [← yk3] at EN
    have wk3 := u64_31 k3 lk3
    obtain ⟨k4, yk4⟩ : ∃ n, n = c.burst.toNat := ⟨_, rfl⟩
    have ek4 : c.burst = (k4 : Int) := by omega
    have lk4 : k4 ≤ 2147483647 := by omega
    have mk4 := grp31 k4 lk4
    have c14 := (operAt HB2.out.2.1).c14
    rw [ek4] at c14
    rw [← yk4] at EN
    have wk4 := u64_31 k4 lk4
    have c1 := (operAt HB2.out.2.1).c1
    have hV : ∀ (W : World) (B : Option Addr), Lies W B (uc [k1, k2, k3, k4]) → Calls Try.prog 44 #[.slice B 4 4] W fun r w' => r = .returned (.string ⟨(vs [k1, k2, k3, k4]).toArray⟩) ∧ Below W.heap.size W w' := fun W B hB => by
      have := refV_any [k1, k2, k3, k4] (fun n hn => by simp at hn; unfold Nm.top; omega) B 4 W hB (by simp)
      unfold RetS at this
      exact this
    have hwi : IntKind.i64.wrap (c.slot : Int) = (c.slot : Int) := i64_small _ (by omega)
    have ha := sadd (Cm.one c.op) (Cm.one c.slot) (by show 1 + 1 ≤ 100000000; decide)
    have hvl : (vs [k1, k2, k3, k4]).length ≤ 40 := by rw [vs4]; simp only [List.length_append]; omega
    have hb0 := sadd (Cm.one c.op ++ Cm.one c.slot) (vs [k1, k2, k3, k4]) (by have : (Cm.one c.op ++ Cm.one c.slot).length = 2 := rfl; omega)
    have hO := fun W => H1.out c.slot W
    have hsu := sapp (Cm.one c.op) (Cm.one c.slot)
    have hsv := sapp (Cm.one c.op ++ Cm.one c.slot) (vs [k1, k2, k3, k4])
    rw [← hsv, ← hsu, ← Hs.out] at hb0
    rw [← hsu, ← Hs.out] at ha
    have EF : Hid ((⟨(Og.write c).toArray⟩ : ByteArray) = s ++ ⟨(Cm.one c.slot).toArray⟩ ++ ⟨(vs [k1, k2, k3, k4]).toArray⟩) := Lib.hid (by
      rw [EE.out, EN.out, Hs.out, hsu, hsv, vs4]
      simp [List.append_assoc])
    obtain ⟨u, hu⟩ : ∃ s : ByteArray, s = ⟨(Cm.one c.slot).toArray⟩ := ⟨_, rfl⟩
    obtain ⟨v, hv⟩ : ∃ s : ByteArray, s = ⟨(vs [k1, k2, k3, k4]).toArray⟩ := ⟨_, rfl⟩
    rw [← hu] at hO ha hb0 EF
    rw [← hv] at hV hb0 EF
    go_upto_region 6 with (fail)
    refine orw6 g c.slot k1 k2 k3 k4 s u v W2 c1 c11 c12 c13 c14 hwi wk1 wk2 wk3 wk4 hO hV ha hb0 _ ?_
    intro u1 W3 hb3
    have HB3 := Lib.hid (bnext HB2.out.1 hb3)
    clear hb3 hb0 ha hV hO hu hv hsu hsv hvl c1 c11 c12 c13 c14 wk1 wk2 wk3 wk4 hm hk1 hk2 hk3 hk4
    go_wp2_with fail
    go_ret
    exact ⟨by rw [EF.out]; rfl, HB3.out⟩
  by_cases h : c.op = 2
  case pos =>
    have q1 : ((c.op : Int) == 1) = false := by simp; omega
    have q2 : ((c.op : Int) == 2) = true := by simp; omega
    have EN : Hid (Og.enc c = Cm.one c.op ++ (Cm.one c.slot ++ (c.tok.l ++ Cm.one c.role))) := Lib.hid (by unfold Og.enc; rw [if_neg (by omega), if_pos h])
    obtain ⟨c0', c1, c2, c3, c4, c5, c6, c7, c8, c9, c10, _, _, _, _, _, _⟩ := operAt HB2.out.2.1
    have r1 := fun d os => cell_regrown c1 d os
    have r2 := fun d os => cell_regrown c2 d os
    have r3 := fun d os => cell_regrown c3 d os
    have r4 := fun d os => cell_regrown c4 d os
    have r5 := fun d os => cell_regrown c5 d os
    have r6 := fun d os => cell_regrown c6 d os
    have r7 := fun d os => cell_regrown c7 d os
    have r8 := fun d os => cell_regrown c8 d os
    have r9 := fun d os => cell_regrown c9 d os
    have r10 := fun d os => cell_regrown c10 d os
    have h1 := fun W => H1.out c.slot W
    have h2 := fun W => HT.out c.tok W
    have h3 := fun W => H1.out c.role W
    have a1 := sadd (Cm.one c.op) (Cm.one c.slot) (by show 1 + 1 ≤ 100000000; decide)
    have a2 := sadd (Cm.one c.op ++ Cm.one c.slot) c.tok.l (by show 2 + 8 ≤ 100000000; decide)
    have a3 := sadd (Cm.one c.op ++ Cm.one c.slot ++ c.tok.l) (Cm.one c.role) (by show 10 + 1 ≤ 100000000; decide)
    rw [← Hs.out] at a1
    obtain ⟨x1, e1⟩ : ∃ s : ByteArray, s = ⟨(Cm.one c.slot).toArray⟩ := ⟨_, rfl⟩
    obtain ⟨x2, e2⟩ : ∃ s : ByteArray, s = ⟨(Cm.one c.op ++ Cm.one c.slot).toArray⟩ := ⟨_, rfl⟩
    obtain ⟨x3, e3⟩ : ∃ s : ByteArray, s = ⟨c.tok.l.toArray⟩ := ⟨_, rfl⟩
    obtain ⟨x4, e4⟩ : ∃ s : ByteArray, s = ⟨(Cm.one c.op ++ Cm.one c.slot ++ c.tok.l).toArray⟩ := ⟨_, rfl⟩
    obtain ⟨x5, e5⟩ : ∃ s : ByteArray, s = ⟨(Cm.one c.role).toArray⟩ := ⟨_, rfl⟩
    obtain ⟨x6, e6⟩ : ∃ s : ByteArray, s = ⟨(Cm.one c.op ++ Cm.one c.slot ++ c.tok.l ++ Cm.one c.role).toArray⟩ := ⟨_, rfl⟩
    rw [← e1, ← e2] at a1
    rw [← e2, ← e3, ← e4] at a2
    rw [← e4, ← e5, ← e6] at a3
    rw [← e1] at h1
    rw [← e3] at h2
    rw [← e5] at h3
    have EF : Hid ((⟨(Og.write c).toArray⟩ : ByteArray) = x6) := Lib.hid (by rw [EE.out, EN.out, e6]; simp [List.append_assoc])
    have J1 := Lib.hid h1
    have J2 := Lib.hid h2
    have J3 := Lib.hid h3
    clear e1 e2 e3 e4 e5 e6 h1 h2 h3 c0' c1 c2 c3 c4 c5 c6 c7 c8 c9 c10
    go_upto_region 8 with (fail)
    refine wp_region_quiet_below (by kernel_rfl) (by kernel_rfl) ?_
    repeat (go_big_quiet_step ((first | (go_at_call 68; exact Calls.regrown_of (J2.out _)) | (go_at_call 67; first | (with_reducible exact Calls.regrown_of (J1.out _)) | (with_reducible exact Calls.regrown_of (J3.out _))))))
    refine wpQuiet_nil ?_
    intro _ hw'
    obtain ⟨pq, hw''⟩ := hw'
    subst hw''
    have hb3 := below_regrown W2 pq.d pq.os
    clear r1 r2 r3 r4 r5 r6 r7 r8 r9 r10
    generalize Go.Sort.grow (redrawn W2 pq.d) pq.os = W3 at *
    have HB3 := Lib.hid (bnext HB2.out.1 hb3)
    clear hb3
    go_wp2_with fail
    go_ret
    exact ⟨by rw [EF.out]; rfl, HB3.out⟩
  by_cases h : c.op = 3
  case pos =>
    have q1 : ((c.op : Int) == 1) = false := by simp; omega
    have q2 : ((c.op : Int) == 2) = false := by simp; omega
    have q3 : ((c.op : Int) == 3) = true := by simp; omega
    have EN : Hid (Og.enc c = Cm.one c.op ++ c.tok.l) := Lib.hid (by unfold Og.enc; rw [if_neg (by omega), if_neg (by omega), if_pos h])
    obtain ⟨_, _, c2, c3, c4, c5, c6, c7, c8, c9, _, _, _, _, _, _, _⟩ := operAt HB2.out.2.1
    have h2 := fun W => HT.out c.tok W
    have a1 := sadd (Cm.one c.op) c.tok.l (by show 1 + 8 ≤ 100000000; decide)
    rw [← Hs.out] at a1
    obtain ⟨x1, e1⟩ : ∃ s : ByteArray, s = ⟨c.tok.l.toArray⟩ := ⟨_, rfl⟩
    obtain ⟨x2, e2⟩ : ∃ s : ByteArray, s = ⟨(Cm.one c.op ++ c.tok.l).toArray⟩ := ⟨_, rfl⟩
    rw [← e1, ← e2] at a1
    rw [← e1] at h2
    have J2 := Lib.hid h2
    have EF : Hid ((⟨(Og.write c).toArray⟩ : ByteArray) = x2) := Lib.hid (by rw [EE.out, EN.out, e2])
    clear e1 e2 h2
    go_wp2_with fail
    refine (J2.out _).mono ?_
    rintro r W3 ⟨rfl, hb3⟩
    have HB3 := Lib.hid (bnext HB2.out.1 hb3)
    clear hb3
    go_wp2_with fail
    go_ret
    exact ⟨by rw [EF.out]; rfl, HB3.out⟩
  by_cases h : c.op = 4
  case pos =>
    have q1 : ((c.op : Int) == 1) = false := by simp; omega
    have q2 : ((c.op : Int) == 2) = false := by simp; omega
    have q3 : ((c.op : Int) == 3) = false := by simp; omega
    have q4 : ((c.op : Int) == 4) = true := by simp; omega
    have EN : Hid (Og.enc c = Cm.one c.op ++ Cm.one c.slot) := Lib.hid (by unfold Og.enc; rw [if_neg (by omega), if_neg (by omega), if_neg (by omega), if_pos h])
    have ck := (operAt HB2.out.2.1).c1
    have hadd := sadd (Cm.one c.op) (Cm.one c.slot) (by show 1 + 1 ≤ 100000000; decide)
    rw [← Hs.out] at hadd
    have h1 := fun W => H1.out c.slot W
    obtain ⟨u, hu⟩ : ∃ s : ByteArray, s = ⟨(Cm.one c.slot).toArray⟩ := ⟨_, rfl⟩
    obtain ⟨v, hv⟩ : ∃ s : ByteArray, s = ⟨(Cm.one c.op ++ Cm.one c.slot).toArray⟩ := ⟨_, rfl⟩
    rw [← hu] at h1 hadd
    rw [← hv] at hadd
    have H2 := Lib.hid h1
    have Hv := Lib.hid hv
    clear h1 hu hv
    go_wp2_with fail
    refine (H2.out _).mono ?_
    rintro r W3 ⟨rfl, hb3⟩
    have HB3 := Lib.hid (bnext HB2.out.1 hb3)
    clear hb3
    go_wp2_with fail
    go_ret
    exact ⟨by rw [EE.out, EN.out, ← Hv.out]; rfl, HB3.out⟩
  have q1 : ((c.op : Int) == 1) = false := by simp; omega
  have q2 : ((c.op : Int) == 2) = false := by simp; omega
  have q3 : ((c.op : Int) == 3) = false := by simp; omega
  have q4 : ((c.op : Int) == 4) = false := by simp; omega
  have EN : Hid (Og.enc c = Cm.one c.op ++ Cm.one c.node) := Lib.hid (by unfold Og.enc; rw [if_neg (by omega), if_neg (by omega), if_neg (by omega), if_neg (by omega)])
  have ck := (operAt HB2.out.2.1).c15
  have hadd := sadd (Cm.one c.op) (Cm.one c.node) (by show 1 + 1 ≤ 100000000; decide)
  rw [← Hs.out] at hadd
  have h1 := fun W => H1.out c.node W
  obtain ⟨u, hu⟩ : ∃ s : ByteArray, s = ⟨(Cm.one c.node).toArray⟩ := ⟨_, rfl⟩
  obtain ⟨v, hv⟩ : ∃ s : ByteArray, s = ⟨(Cm.one c.op ++ Cm.one c.node).toArray⟩ := ⟨_, rfl⟩
  rw [← hu] at h1 hadd
  rw [← hv] at hadd
  have H2 := Lib.hid h1
  have Hv := Lib.hid hv
  clear h1 hu hv
  go_wp2_with fail
  refine (H2.out _).mono ?_
  rintro r W3 ⟨rfl, hb3⟩
  have HB3 := Lib.hid (bnext HB2.out.1 hb3)
  clear hb3
  go_wp2_with fail
  go_ret
  exact ⟨by rw [EE.out, EN.out, ← Hv.out]; rfl, HB3.out⟩
end Go.Proofs.Ytlcgjlganmblpaa
