/-
  wapentakeref05.Write walked. WRITTEN BY wip/tools/gen_mgrefw.py.
-/
import Derived.Test.YtpdahbfjbgcmgaaRMgRef
import Derived.Test.YtpdahbfjbgcmgaaRMgWrite
import Derived.Test.YtpdahbfjbgcmgaaREnRef
import Derived.Test.YtpdahbfjbgcmgaaRWords
import Derived.Test.YtpdahbfjbgcmgaaRReg
import Derived.Deep.DeepCutAuto
import Derived.Deep.CutBlock
set_option linter.unusedSimpArgs false
set_option linter.unusedVariables false
namespace Go.Proofs.Ytpdahbfjbgcmgaa
open Go.RowKit
set_option linter.unusedVariables false
noncomputable def mrw3C : Code := ((Try.f45.body.bind (Reg.findRegion 3)).getD .skip)
set_option maxRecDepth 100000 in
set_option maxHeartbeats 4000000 in
theorem mrw3 {c0 c2 c3 c4 c5 c6 c7 c8 c9 c10 c11 c12 c13 c14 c15 c16 c17 c18 c19 c20 c21 c22 c23 c24 c25 c26 c27 c28 c29 c30 c31 c32 c33 c34 c35 c36 c37 c38 c39 c40 c41 c42 c43 c44 c45 c46 c47 c48 c49 c50 c51 c52 c53 c54 c55 c56 c57 c58 c59 c60 c61 c62 c63 c64 c65 c66 c67 c68 c69 : Value} (m : Mg.M) (g : Nat) (u v : ByteArray) (w : World) (h0 : w.cell? ⟨g, 0, none⟩ = some (.int .u8 (m.kind : Int))) (h1 : w.cell? ⟨g, 1, none⟩ = some (.int .u8 (m.frm : Int))) (h2 : w.cell? ⟨g, 2, none⟩ = some (.int .u8 (m.tto : Int))) (h3 : w.cell? ⟨g, 3, none⟩ = some (.int .u64 (m.trm : Int))) (h4 : w.cell? ⟨g, 4, none⟩ = some (.int .u64 (m.idx : Int))) (h5 : w.cell? ⟨g, 5, none⟩ = some (.int .u64 (m.ltm : Int))) (h6 : w.cell? ⟨g, 6, none⟩ = some (.int .u64 (m.com : Int))) (h7 : w.cell? ⟨g, 7, none⟩ = some (.int .u64 (m.rnd : Int)))
   (hconv : ∀ (W : World) (r : Nat), Lies W (some ⟨r, 0, none⟩) [.int .u8 (m.kind : Int), .int .u8 (m.frm : Int), .int .u8 (m.tto : Int)] → (convert 36 9 (.slice (some ⟨r, 0, none⟩) 3 3)).run Try.prog W = .ok (.string u) W)
   (hV : ∀ (W : World) (A : Option Addr), Lies W A (uc [m.trm, m.idx, m.ltm, m.com, m.rnd]) → Calls Try.prog 69 #[.slice A 5 5] W fun r w' => r = .returned (.string v) ∧ Below W.heap.size W w')
   (ha : ∀ W : World, (Op.stringOp .add u v).run Try.prog W = .ok (.string (u ++ v)) W) (Q : Exit → Act → World → Prop)
   (h : ∀ (u6 u18 : Value) (w' : World), Below w.heap.size w w' → Q .normal ⟨#[c0, .pointer (some ⟨g, 0, none⟩), c2, .string (u ++ v), c4, c5, c6, c7, .pointer (some ⟨g, 0, none⟩), .int .u8 (m.kind : Int), .pointer (some ⟨g, 1, none⟩), .int .u8 (m.frm : Int), .pointer (some ⟨g, 2, none⟩), .int .u8 (m.tto : Int), u6, .string u, .pointer (some ⟨g, 3, none⟩), .int .u64 (m.trm : Int), .pointer (some ⟨g, 4, none⟩), .int .u64 (m.idx : Int), .pointer (some ⟨g, 5, none⟩), .int .u64 (m.ltm : Int), .pointer (some ⟨g, 6, none⟩), .int .u64 (m.com : Int), .pointer (some ⟨g, 7, none⟩), .int .u64 (m.rnd : Int), u18, .string v, .string (u ++ v), c29, c30, c31, c32, c33, c34, c35, c36, c37, c38, c39, c40, c41, c42, c43, c44, c45, c46, c47, c48, c49, c50, c51, c52, c53, c54, c55, c56, c57, c58, c59, c60, c61, c62, c63, c64, c65, c66, c67, c68, c69], []⟩ w') :
   Code.wp Try.prog mrw3C Q ⟨#[c0, .pointer (some ⟨g, 0, none⟩), c2, c3, c4, c5, c6, c7, c8, c9, c10, c11, c12, c13, c14, c15, c16, c17, c18, c19, c20, c21, c22, c23, c24, c25, c26, c27, c28, c29, c30, c31, c32, c33, c34, c35, c36, c37, c38, c39, c40, c41, c42, c43, c44, c45, c46, c47, c48, c49, c50, c51, c52, c53, c54, c55, c56, c57, c58, c59, c60, c61, c62, c63, c64, c65, c66, c67, c68, c69], []⟩ w := by
  obtain ⟨L, hL⟩ : ∃ L : Nat → List Value × Nat, L = fun i => match i with | 6 => ([.int .u8 (m.kind : Int), .int .u8 (m.frm : Int), .int .u8 (m.tto : Int)], 3) | 18 => (uc [m.trm, m.idx, m.ltm, m.com, m.rnd], 5) | _ => ([], 0) := ⟨_, rfl⟩
  obtain ⟨Sp, hSp⟩ : ∃ Sp : Nat → Value → World → Prop, Sp = fun i v w => ∃ r, v = .slice (some ⟨r, 0, none⟩) (L i).2 (L i).2 ∧ Lies w (some ⟨r, 0, none⟩) (L i).1 := ⟨_, rfl⟩
  rw [hL] at hSp
  conv => arg 2; whnf
  refine Reg.wp_region_inv (fun w' => Below w.heap.size w w') (fun x y => Below x.heap.size x y) (Reg.KnownI [some (.pointer (some ⟨g, 0, none⟩)), some (.int .u8 (m.kind : Int)), some (.pointer (some ⟨g, 1, none⟩)), some (.int .u8 (m.frm : Int)), some (.pointer (some ⟨g, 2, none⟩)), some (.int .u8 (m.tto : Int)), none, some (.string u), some (.pointer (some ⟨g, 3, none⟩)), some (.int .u64 (m.trm : Int)), some (.pointer (some ⟨g, 4, none⟩)), some (.int .u64 (m.idx : Int)), some (.pointer (some ⟨g, 5, none⟩)), some (.int .u64 (m.ltm : Int)), some (.pointer (some ⟨g, 6, none⟩)), some (.int .u64 (m.com : Int)), some (.pointer (some ⟨g, 7, none⟩)), some (.int .u64 (m.rnd : Int)), none, some (.string v), some (.string (u ++ v)), some (.string (u ++ v))] Sp) (by kernel_rfl) (by kernel_rfl) (Reg.knownI_mono ?mono) (Below.refl _ _).drew ?steps ?fin
  case mono =>
    intro i v w w' hs hb
    rw [hSp] at hs ⊢
    obtain ⟨r, hr, hl⟩ := hs
    exact ⟨r, hr, hl.below hb⟩
  case steps =>
    intro hB
    refine ⟨?_, ?_, ?_, ?_, ?_, ?_, ?_, ?_, ?_, ?_, ?_, ?_, ?_, ?_, ?_, ?_, ?_, ?_, ?_, ?_, ?_, ?_, trivial⟩
    · -- 0: Op.fieldAddr 63 (Operand.tmp 1) 0
      refine Reg.step_run hB (Reg.runs_none rfl) (fun a w1 hI hb hd => ?_)
      have e1 : a.eval (.tmp 1) = .pointer (some ⟨g, 0, none⟩) := hb 1 (by kernel_rfl)
      refine Reg.run_value (v := .pointer (some ⟨g, 0, none⟩)) ?_ rfl (Below.refl _ _) hI
      clear hb hd
      have hc := fun v => Reg.eval_const a v
      have hf := fun f => Reg.eval_func a f
      generalize a.eval = ρ at *
      simp [execOp, go_sem, *]
    · -- 1: Op.load 5 (Operand.tmp 8)
      refine Reg.step_run hB (Reg.runs_none rfl) (fun a w1 hI hb hd => ?_)
      have e8 : a.eval (.tmp 8) = .pointer (some ⟨g, 0, none⟩) := hd 0 8 (by kernel_rfl) (by kernel_rfl)
      have hl := later hI h0
      refine Reg.run_value (v := .int .u8 (m.kind : Int)) ?_ rfl (Below.refl _ _) hI
      clear hb hd
      have hc := fun v => Reg.eval_const a v
      have hf := fun f => Reg.eval_func a f
      generalize a.eval = ρ at *
      simp [execOp, go_sem, *]
    · -- 2: Op.fieldAddr 63 (Operand.tmp 1) 1
      refine Reg.step_run hB (Reg.runs_none rfl) (fun a w1 hI hb hd => ?_)
      have e1 : a.eval (.tmp 1) = .pointer (some ⟨g, 0, none⟩) := hb 1 (by kernel_rfl)
      refine Reg.run_value (v := .pointer (some ⟨g, 1, none⟩)) ?_ rfl (Below.refl _ _) hI
      clear hb hd
      have hc := fun v => Reg.eval_const a v
      have hf := fun f => Reg.eval_func a f
      generalize a.eval = ρ at *
      simp [execOp, go_sem, *]
    · -- 3: Op.load 5 (Operand.tmp 10)
      refine Reg.step_run hB (Reg.runs_none rfl) (fun a w1 hI hb hd => ?_)
      have e10 : a.eval (.tmp 10) = .pointer (some ⟨g, 1, none⟩) := hd 2 10 (by kernel_rfl) (by kernel_rfl)
      have hl := later hI h1
      refine Reg.run_value (v := .int .u8 (m.frm : Int)) ?_ rfl (Below.refl _ _) hI
      clear hb hd
      have hc := fun v => Reg.eval_const a v
      have hf := fun f => Reg.eval_func a f
      generalize a.eval = ρ at *
      simp [execOp, go_sem, *]
    · -- 4: Op.fieldAddr 63 (Operand.tmp 1) 2
      refine Reg.step_run hB (Reg.runs_none rfl) (fun a w1 hI hb hd => ?_)
      have e1 : a.eval (.tmp 1) = .pointer (some ⟨g, 0, none⟩) := hb 1 (by kernel_rfl)
      refine Reg.run_value (v := .pointer (some ⟨g, 2, none⟩)) ?_ rfl (Below.refl _ _) hI
      clear hb hd
      have hc := fun v => Reg.eval_const a v
      have hf := fun f => Reg.eval_func a f
      generalize a.eval = ρ at *
      simp [execOp, go_sem, *]
    · -- 5: Op.load 5 (Operand.tmp 12)
      refine Reg.step_run hB (Reg.runs_none rfl) (fun a w1 hI hb hd => ?_)
      have e12 : a.eval (.tmp 12) = .pointer (some ⟨g, 2, none⟩) := hd 4 12 (by kernel_rfl) (by kernel_rfl)
      have hl := later hI h2
      refine Reg.run_value (v := .int .u8 (m.tto : Int)) ?_ rfl (Below.refl _ _) hI
      clear hb hd
      have hc := fun v => Reg.eval_const a v
      have hf := fun f => Reg.eval_func a f
      generalize a.eval = ρ at *
      simp [execOp, go_sem, *]
    · -- 6: Op.buildSlice 36 3 #[(0, Operand.tmp 9), (1, Operand.tmp 11), (2, Operand.tmp 13)]
      refine Reg.step_run hB (Reg.runs_none rfl) (fun a w1 hI hb hd => ?_)
      have e9 : a.eval (.tmp 9) = .int .u8 (m.kind : Int) := hd 1 9 (by kernel_rfl) (by kernel_rfl)
      have e11 : a.eval (.tmp 11) = .int .u8 (m.frm : Int) := hd 3 11 (by kernel_rfl) (by kernel_rfl)
      have e13 : a.eval (.tmp 13) = .int .u8 (m.tto : Int) := hd 5 13 (by kernel_rfl) (by kernel_rfl)
      refine Reg.run_made (v := .slice (some ⟨w1.heap.size, 0, none⟩) 3 3) (w' := w1.alloc (.cells #[.int .u8 (m.kind : Int), .int .u8 (m.frm : Int), .int .u8 (m.tto : Int)] 5)) ?_ (show Sp 6 _ _ by rw [hSp]; exact ⟨_, rfl, Lies.new _ ([.int .u8 (m.kind : Int), .int .u8 (m.frm : Int), .int .u8 (m.tto : Int)]) _⟩) (bnew (Below.refl _ _) _) (bnew hI _)
      clear hb hd
      have hc := fun v => Reg.eval_const a v
      have hf := fun f => Reg.eval_func a f
      generalize a.eval = ρ at *
      simp [execOp, go_sem, *]
    · -- 7: Op.convert 36 9 (Operand.tmp 14)
      refine Reg.step_run hB (Reg.runs_none rfl) (fun a w1 hI hb hd => ?_)
      have e14 : Sp 6 (a.eval (.tmp 14)) w1 := hd 6 14 (by kernel_rfl) (by kernel_rfl)
      rw [hSp] at e14
      obtain ⟨r, hr, hl⟩ := e14
      replace hr : a.eval (.tmp 14) = .slice (some ⟨r, 0, none⟩) 3 3 := hr
      have hcv := hconv w1 r hl
      refine Reg.run_value (v := .string u) ?_ rfl (Below.refl _ _) hI
      clear hb hd
      have hc := fun v => Reg.eval_const a v
      have hf := fun f => Reg.eval_func a f
      generalize a.eval = ρ at *
      simp [execOp, go_sem, *]
    · -- 8: Op.fieldAddr 63 (Operand.tmp 1) 3
      refine Reg.step_run hB (Reg.runs_none rfl) (fun a w1 hI hb hd => ?_)
      have e1 : a.eval (.tmp 1) = .pointer (some ⟨g, 0, none⟩) := hb 1 (by kernel_rfl)
      refine Reg.run_value (v := .pointer (some ⟨g, 3, none⟩)) ?_ rfl (Below.refl _ _) hI
      clear hb hd
      have hc := fun v => Reg.eval_const a v
      have hf := fun f => Reg.eval_func a f
      generalize a.eval = ρ at *
      simp [execOp, go_sem, *]
    · -- 9: Op.load 25 (Operand.tmp 16)
      refine Reg.step_run hB (Reg.runs_none rfl) (fun a w1 hI hb hd => ?_)
      have e16 : a.eval (.tmp 16) = .pointer (some ⟨g, 3, none⟩) := hd 8 16 (by kernel_rfl) (by kernel_rfl)
      have hl := later hI h3
      refine Reg.run_value (v := .int .u64 (m.trm : Int)) ?_ rfl (Below.refl _ _) hI
      clear hb hd
      have hc := fun v => Reg.eval_const a v
      have hf := fun f => Reg.eval_func a f
      generalize a.eval = ρ at *
      simp [execOp, go_sem, *]
    · -- 10: Op.fieldAddr 63 (Operand.tmp 1) 4
      refine Reg.step_run hB (Reg.runs_none rfl) (fun a w1 hI hb hd => ?_)
      have e1 : a.eval (.tmp 1) = .pointer (some ⟨g, 0, none⟩) := hb 1 (by kernel_rfl)
      refine Reg.run_value (v := .pointer (some ⟨g, 4, none⟩)) ?_ rfl (Below.refl _ _) hI
      clear hb hd
      have hc := fun v => Reg.eval_const a v
      have hf := fun f => Reg.eval_func a f
      generalize a.eval = ρ at *
      simp [execOp, go_sem, *]
    · -- 11: Op.load 25 (Operand.tmp 18)
      refine Reg.step_run hB (Reg.runs_none rfl) (fun a w1 hI hb hd => ?_)
      have e18 : a.eval (.tmp 18) = .pointer (some ⟨g, 4, none⟩) := hd 10 18 (by kernel_rfl) (by kernel_rfl)
      have hl := later hI h4
      refine Reg.run_value (v := .int .u64 (m.idx : Int)) ?_ rfl (Below.refl _ _) hI
      clear hb hd
      have hc := fun v => Reg.eval_const a v
      have hf := fun f => Reg.eval_func a f
      generalize a.eval = ρ at *
      simp [execOp, go_sem, *]
    · -- 12: Op.fieldAddr 63 (Operand.tmp 1) 5
      refine Reg.step_run hB (Reg.runs_none rfl) (fun a w1 hI hb hd => ?_)
      have e1 : a.eval (.tmp 1) = .pointer (some ⟨g, 0, none⟩) := hb 1 (by kernel_rfl)
      refine Reg.run_value (v := .pointer (some ⟨g, 5, none⟩)) ?_ rfl (Below.refl _ _) hI
      clear hb hd
      have hc := fun v => Reg.eval_const a v
      have hf := fun f => Reg.eval_func a f
      generalize a.eval = ρ at *
      simp [execOp, go_sem, *]
    · -- 13: Op.load 25 (Operand.tmp 20)
      refine Reg.step_run hB (Reg.runs_none rfl) (fun a w1 hI hb hd => ?_)
      have e20 : a.eval (.tmp 20) = .pointer (some ⟨g, 5, none⟩) := hd 12 20 (by kernel_rfl) (by kernel_rfl)
      have hl := later hI h5
      refine Reg.run_value (v := .int .u64 (m.ltm : Int)) ?_ rfl (Below.refl _ _) hI
      clear hb hd
      have hc := fun v => Reg.eval_const a v
      have hf := fun f => Reg.eval_func a f
      generalize a.eval = ρ at *
      simp [execOp, go_sem, *]
    · -- 14: Op.fieldAddr 63 (Operand.tmp 1) 6
      refine Reg.step_run hB (Reg.runs_none rfl) (fun a w1 hI hb hd => ?_)
      have e1 : a.eval (.tmp 1) = .pointer (some ⟨g, 0, none⟩) := hb 1 (by kernel_rfl)
      refine Reg.run_value (v := .pointer (some ⟨g, 6, none⟩)) ?_ rfl (Below.refl _ _) hI
      clear hb hd
      have hc := fun v => Reg.eval_const a v
      have hf := fun f => Reg.eval_func a f
      generalize a.eval = ρ at *
      simp [execOp, go_sem, *]
    · -- 15: Op.load 25 (Operand.tmp 22)
      refine Reg.step_run hB (Reg.runs_none rfl) (fun a w1 hI hb hd => ?_)
      have e22 : a.eval (.tmp 22) = .pointer (some ⟨g, 6, none⟩) := hd 14 22 (by kernel_rfl) (by kernel_rfl)
      have hl := later hI h6
      refine Reg.run_value (v := .int .u64 (m.com : Int)) ?_ rfl (Below.refl _ _) hI
      clear hb hd
      have hc := fun v => Reg.eval_const a v
      have hf := fun f => Reg.eval_func a f
      generalize a.eval = ρ at *
      simp [execOp, go_sem, *]
    · -- 16: Op.fieldAddr 63 (Operand.tmp 1) 7
      refine Reg.step_run hB (Reg.runs_none rfl) (fun a w1 hI hb hd => ?_)
      have e1 : a.eval (.tmp 1) = .pointer (some ⟨g, 0, none⟩) := hb 1 (by kernel_rfl)
      refine Reg.run_value (v := .pointer (some ⟨g, 7, none⟩)) ?_ rfl (Below.refl _ _) hI
      clear hb hd
      have hc := fun v => Reg.eval_const a v
      have hf := fun f => Reg.eval_func a f
      generalize a.eval = ρ at *
      simp [execOp, go_sem, *]
    · -- 17: Op.load 25 (Operand.tmp 24)
      refine Reg.step_run hB (Reg.runs_none rfl) (fun a w1 hI hb hd => ?_)
      have e24 : a.eval (.tmp 24) = .pointer (some ⟨g, 7, none⟩) := hd 16 24 (by kernel_rfl) (by kernel_rfl)
      have hl := later hI h7
      refine Reg.run_value (v := .int .u64 (m.rnd : Int)) ?_ rfl (Below.refl _ _) hI
      clear hb hd
      have hc := fun v => Reg.eval_const a v
      have hf := fun f => Reg.eval_func a f
      generalize a.eval = ρ at *
      simp [execOp, go_sem, *]
    · -- 18: Op.buildSlice 104 5 #[(0, Operand.tmp 17), (1, Operand.tmp 19), (2, Operand.tmp 21), (3, Operand.tmp
      refine Reg.step_run hB (Reg.runs_none rfl) (fun a w1 hI hb hd => ?_)
      have e17 : a.eval (.tmp 17) = .int .u64 (m.trm : Int) := hd 9 17 (by kernel_rfl) (by kernel_rfl)
      have e19 : a.eval (.tmp 19) = .int .u64 (m.idx : Int) := hd 11 19 (by kernel_rfl) (by kernel_rfl)
      have e21 : a.eval (.tmp 21) = .int .u64 (m.ltm : Int) := hd 13 21 (by kernel_rfl) (by kernel_rfl)
      have e23 : a.eval (.tmp 23) = .int .u64 (m.com : Int) := hd 15 23 (by kernel_rfl) (by kernel_rfl)
      have e25 : a.eval (.tmp 25) = .int .u64 (m.rnd : Int) := hd 17 25 (by kernel_rfl) (by kernel_rfl)
      refine Reg.run_made (v := .slice (some ⟨w1.heap.size, 0, none⟩) 5 5) (w' := w1.alloc (.cells #[.int .u64 (m.trm : Int), .int .u64 (m.idx : Int), .int .u64 (m.ltm : Int), .int .u64 (m.com : Int), .int .u64 (m.rnd : Int)] 25)) ?_ (show Sp 18 _ _ by rw [hSp]; exact ⟨_, rfl, Lies.new _ (uc [m.trm, m.idx, m.ltm, m.com, m.rnd]) _⟩) (bnew (Below.refl _ _) _) (bnew hI _)
      clear hb hd
      have hc := fun v => Reg.eval_const a v
      have hf := fun f => Reg.eval_func a f
      generalize a.eval = ρ at *
      simp [execOp, go_sem, *]
    · -- 19: Op.call { callee := Callee.value (Operand.func 69), args := #[Operand.tmp 26], argTypes := #[104] }
      refine Reg.step_run hB (Reg.runs_none rfl) (fun a w1 hI hb hd => ?_)
      have e26 : Sp 18 (a.eval (.tmp 26)) w1 := hd 18 26 (by kernel_rfl) (by kernel_rfl)
      rw [hSp] at e26
      obtain ⟨r, hr, hl⟩ := e26
      replace hr : a.eval (.tmp 26) = .slice (some ⟨r, 0, none⟩) 5 5 := hr
      refine Reg.run_call (f := 69) (args := #[.slice (some ⟨r, 0, none⟩) 5 5]) ?_ (hV w1 _ hl) (fun _ _ => rfl) (fun _ h => bnext hI h)
      clear hb hd
      have hc := fun v => Reg.eval_const a v
      have hf := fun f => Reg.eval_func a f
      generalize a.eval = ρ at *
      simp [go_sem, *]
    · -- 20: Op.binOp BinOp.add 9 (Operand.tmp 15) (Operand.tmp 27) 9
      refine Reg.step_run hB (Reg.runs_none rfl) (fun a w1 hI hb hd => ?_)
      have e15 : a.eval (.tmp 15) = .string u := hd 7 15 (by kernel_rfl) (by kernel_rfl)
      have e27 : a.eval (.tmp 27) = .string v := hd 19 27 (by kernel_rfl) (by kernel_rfl)
      have ha2 := ha w1
      refine Reg.run_value (v := .string (u ++ v)) ?_ rfl (Below.refl _ _) hI
      clear hb hd
      have hc := fun v => Reg.eval_const a v
      have hf := fun f => Reg.eval_func a f
      generalize a.eval = ρ at *
      simp [execOp, go_sem, *]
    · -- 21: Op.assign (Operand.tmp 28)
      refine Reg.step_run hB (Reg.runs_none rfl) (fun a w1 hI hb hd => ?_)
      have e28 : a.eval (.tmp 28) = .string (u ++ v) := hd 20 28 (by kernel_rfl) (by kernel_rfl)
      exact Reg.run_value (Reg.run_assign rfl e28) rfl (Below.refl _ _) hI
  case fin =>
    intro vals w' hI hg
    have g0 : vals 0 = .pointer (some ⟨g, 0, none⟩) := hg 0 (by simp)
    have g1 : vals 1 = .int .u8 (m.kind : Int) := hg 1 (by simp)
    have g2 : vals 2 = .pointer (some ⟨g, 1, none⟩) := hg 2 (by simp)
    have g3 : vals 3 = .int .u8 (m.frm : Int) := hg 3 (by simp)
    have g4 : vals 4 = .pointer (some ⟨g, 2, none⟩) := hg 4 (by simp)
    have g5 : vals 5 = .int .u8 (m.tto : Int) := hg 5 (by simp)
    have g7 : vals 7 = .string u := hg 7 (by simp)
    have g8 : vals 8 = .pointer (some ⟨g, 3, none⟩) := hg 8 (by simp)
    have g9 : vals 9 = .int .u64 (m.trm : Int) := hg 9 (by simp)
    have g10 : vals 10 = .pointer (some ⟨g, 4, none⟩) := hg 10 (by simp)
    have g11 : vals 11 = .int .u64 (m.idx : Int) := hg 11 (by simp)
    have g12 : vals 12 = .pointer (some ⟨g, 5, none⟩) := hg 12 (by simp)
    have g13 : vals 13 = .int .u64 (m.ltm : Int) := hg 13 (by simp)
    have g14 : vals 14 = .pointer (some ⟨g, 6, none⟩) := hg 14 (by simp)
    have g15 : vals 15 = .int .u64 (m.com : Int) := hg 15 (by simp)
    have g16 : vals 16 = .pointer (some ⟨g, 7, none⟩) := hg 16 (by simp)
    have g17 : vals 17 = .int .u64 (m.rnd : Int) := hg 17 (by simp)
    have g19 : vals 19 = .string v := hg 19 (by simp)
    have g20 : vals 20 = .string (u ++ v) := hg 20 (by simp)
    have g21 : vals 21 = .string (u ++ v) := hg 21 (by simp)
    refine Reg.fin_of (y := #[c0, .pointer (some ⟨g, 0, none⟩), c2, vals 21, c4, c5, c6, c7, vals 0, vals 1, vals 2, vals 3, vals 4, vals 5, vals 6, vals 7, vals 8, vals 9, vals 10, vals 11, vals 12, vals 13, vals 14, vals 15, vals 16, vals 17, vals 18, vals 19, vals 20, c29, c30, c31, c32, c33, c34, c35, c36, c37, c38, c39, c40, c41, c42, c43, c44, c45, c46, c47, c48, c49, c50, c51, c52, c53, c54, c55, c56, c57, c58, c59, c60, c61, c62, c63, c64, c65, c66, c67, c68, c69]) (by kernel_rfl) ?_
    rw [g0, g1, g2, g3, g4, g5, g7, g8, g9, g10, g11, g12, g13, g14, g15, g16, g17, g19, g20, g21]
    exact h (vals 6) (vals 18) w' hI

theorem conv_bytes (W : World) (A : Option Addr) (n : Nat) (l : List UInt8) (h : Lies W A (bc l)) (hl : l ≠ []) (hn : n = l.length) : (convert 36 9 (.slice A n n)).run Try.prog W = .ok (.string ⟨l.toArray⟩) W := by
  obtain ⟨a, rfl, hc⟩ := lies_bytes h hl
  subst hn
  exact run_convert_bytes_back (P := Try.prog) W 36 9 5 a l.length l Try.underlying36 Try.underlying5 Try.underlying9 hc
theorem str_app (l m : List UInt8) : (⟨l.toArray⟩ : ByteArray) ++ ⟨m.toArray⟩ = ⟨(l ++ m).toArray⟩ := by
  apply ByteArray.ext; simp [ByteArray.data_append]
theorem add_app (l m : List UInt8) (h : l.length + m.length ≤ 100000000) (W : World) : (Op.stringOp .add ⟨l.toArray⟩ ⟨m.toArray⟩).run Try.prog W = .ok (.string ⟨(l ++ m).toArray⟩) W := by
  have := run_string_add_sum (P := Try.prog) W ⟨l.toArray⟩ ⟨m.toArray⟩ (by rw [Mg.size_mk, Mg.size_mk]; omega)
  rw [str_app] at this
  exact this
set_option maxRecDepth 100000 in
set_option maxHeartbeats 8000000 in
theorem mRefWrite_any (m : Mg.M) (hf : Mg.Fits m) (hb : m.body.size ≤ 1000000) (he : Mg.big m.ents ≤ 1000000) (hn : m.ents.length ≤ 1000000) (A : Option Addr) (cap : Nat) (w : World) (hA : Lies w A (ec m.ents)) :
    Calls Try.prog 45 #[.agg (msgC m A cap)] w (RetS (Mg.write m) w) := by
  have HR : Hid (∀ W, Below w.heap.size w W → Calls Try.prog 44 #[.agg (msgC m A cap)] W (RetTr (Mg.may m) W)) := Lib.hid fun W hb => mRefRight_any m A cap W (hA.below hb)
  unfold RetTr msgC at HR
  unfold RetS
  have HA := Lib.hid hA
  have F := msgF m A cap
  obtain ⟨X, hX⟩ : ∃ X, X = msgC m A cap := ⟨_, rfl⟩
  rw [← hX] at F ⊢
  have HX := Lib.hid hX
  obtain ⟨hx, _, x0, x1, x2, x3, x4, x5, x6, x7, x8, x9, x10, x11, x12⟩ := F
  clear hX hA
  rcases hm : Mg.may m with _ | _
  · have E : Hid (Mg.write m = []) := Lib.hid (by unfold Mg.write; rw [hm]; rfl)
    rw [hm] at HR
    clear hm hf hb he hn
    go_enter Try.func45, Try.ntmps45
    go_wp2_with fail
    refine (HR.out _ (bnew (Below.refl _ _) _)).mono ?_
    rintro r w1 ⟨rfl, hb1⟩
    go_wp2_with fail
    go_ret
    exact ⟨by rw [E.out]; rfl, bnext (bnew (Below.refl _ _) _) hb1⟩
  have hlen := Mg.may_len hm
  have hel := Mg.enc_len hf hb he
  have hall : ∀ e ∈ m.ents, En.may e = true := by
    have h := hm
    unfold Mg.may Mg.sent at h
    simp only [Bool.and_eq_true, decide_eq_true_eq, List.all_eq_true] at h
    exact h.2.2.2.2.2.2.2
  have E : Hid (Mg.write m = Mg.l3 m ++ Mg.eb m.ents ++ Cm.txt m.body) := Lib.hid (by unfold Mg.write; rw [hm, if_pos rfl, Mg.enc_l3])
  have hle : (Mg.l3 m ++ Mg.eb m.ents ++ Cm.txt m.body).length ≤ 3000000 := by rw [← Mg.enc_l3]; omega
  rw [List.length_append, List.length_append] at hle
  have hl3 : (Mg.l3 m).length = (Mg.l2 m).length + 4 := by unfold Mg.l3; rw [List.length_append]; rfl
  have hl2 : (Mg.l2 m).length = (Mg.l1 m).length + (Mg.g5 m).length := by unfold Mg.l2; rw [List.length_append]
  have Hsz := Lib.hid (And.intro hle (And.intro hl2 (And.intro hl3 (And.intro hlen (And.intro hb he)))))
  have Hall := Lib.hid hall
  have Hf := Lib.hid hf
  rw [hm] at HR
  have HV : Hid (∀ (W : World) (B : Option Addr), Lies W B (uc [m.trm, m.idx, m.ltm, m.com, m.rnd]) → Calls Try.prog 69 #[.slice B 5 5] W fun r w' => r = .returned (.string ⟨(Mg.g5 m).toArray⟩) ∧ Below W.heap.size W w') := Lib.hid fun W B hB => by
    have := refV_any [m.trm, m.idx, m.ltm, m.com, m.rnd] (fun n hn => by simp at hn; rcases hn with rfl | rfl | rfl | rfl | rfl; exact hf.trm; exact hf.idx; exact hf.ltm; exact hf.com; exact hf.rnd) B 5 W hB (by simp)
    unfold RetS at this
    rw [vs5] at this; exact this
  have hb1 : bc (Mg.l1 m) = [.int .u8 (m.kind : Int), .int .u8 (m.frm : Int), .int .u8 (m.tto : Int)] := by
    simp [bc, Mg.l1, Cm.one, Nm.b8_toNat _ hf.kind, Nm.b8_toNat _ hf.frm, Nm.b8_toNat _ hf.tto]
  have HC : Hid (∀ (W : World) (r : Nat), Lies W (some ⟨r, 0, none⟩) [.int .u8 (m.kind : Int), .int .u8 (m.frm : Int), .int .u8 (m.tto : Int)] → (convert 36 9 (.slice (some ⟨r, 0, none⟩) 3 3)).run Try.prog W = .ok (.string ⟨(Mg.l1 m).toArray⟩) W) := Lib.hid fun W r h => conv_bytes W _ 3 (Mg.l1 m) (by rw [hb1]; exact h) (by simp [Mg.l1, Cm.one]) rfl
  have HA3 : Hid (∀ W : World, (Op.stringOp .add ⟨(Mg.l1 m).toArray⟩ ⟨(Mg.g5 m).toArray⟩).run Try.prog W = .ok (.string (⟨(Mg.l1 m).toArray⟩ ++ ⟨(Mg.g5 m).toArray⟩)) W) := Lib.hid fun W => run_string_add_sum W _ _ (by rw [Mg.size_mk, Mg.size_mk]; omega)
  have HL2 : Hid ((⟨(Mg.l1 m).toArray⟩ : ByteArray) ++ ⟨(Mg.g5 m).toArray⟩ = ⟨(Mg.l2 m).toArray⟩) := Lib.hid (str_app _ _)
  have HB3 : Hid (bc [Nm.b8 m.mem, Nm.b8 m.sec, Nm.b8 m.ents.length] = [.int .u8 (m.mem : Int), .int .u8 (m.sec : Int), .int .u8 (m.ents.length : Int)]) := Lib.hid (by
    simp [bc, Nm.b8_toNat _ hf.mem, Nm.b8_toNat _ hf.sec, Nm.b8_toNat m.ents.length (by omega)])
  have w8 := wrap8 m.ents.length (by omega)
  have HW8 := Lib.hid w8
  clear hm hf hb he hn hlen hel hall hle hl2 hl3 w8 hb1
  go_enter Try.func45, Try.ntmps45
  go_wp2_with fail
  refine (HR.out _ (bnew (Below.refl _ _) _)).mono ?_
  rintro r w1 ⟨rfl, hb1⟩
  go_upto_region 3 with (fail)
  refine forget (fun W => Below w.heap.size w W ∧ W.heap[w.heap.size]? = some (.cells (msgC m A cap) 63 (0, 0))) (by
    have hr1 : w1.heap[w.heap.size]? = some (.cells X 63 (0, 0)) := (hb1.block _ (by simp)).trans (heap_alloc_new w _)
    rw [HX.out] at hr1
    exact ⟨bnext (bnew (Below.refl _ _) _) hb1, hr1⟩) ?_
  rintro W1 ⟨hbW, hrow⟩
  obtain ⟨g, hg⟩ : ∃ g, g = w.heap.size := ⟨_, rfl⟩
  rw [← hg] at hrow ⊢
  have HM := Lib.hid (And.intro hbW hrow)
  have HRow : Hid (∀ W, Below W1.heap.size W1 W → W.heap[g]? = some (.cells (msgC m A cap) 63 (0, 0))) := Lib.hid (fun W hb => (hb.block _ (Array.getElem?_eq_some_iff.1 hrow).1).trans hrow)
  have EA := msgAt hrow
  clear hg hb1 hbW hrow x0 x1 x2 x3 x4 x5 x6 x7 x8 x9 x10 x11 x12
  refine mrw3 m g ⟨(Mg.l1 m).toArray⟩ ⟨(Mg.g5 m).toArray⟩ W1 EA.c0 EA.c1 EA.c2 EA.c3 EA.c4 EA.c5 EA.c6 EA.c7 HC.out HV.out HA3.out _ ?_
  clear EA
  rw [HL2.out]
  intro u1 u2 W2 hb2
  have HB2 := Lib.hid hb2
  have c8 := (msgAt (HRow.out _ hb2)).c8
  have hadd0 := add_app (Mg.l2 m) [0] (by have := Hsz.out; simp; omega)
  have hadd1 := add_app (Mg.l2 m) [1] (by have := Hsz.out; simp; omega)
  clear hb2 HR HC HA3 HL2
  go_upto_region 4 with (fail)
  obtain ⟨ok, hok⟩ : ∃ ok, ok = m.ok := ⟨_, rfl⟩
  rw [← hok] at c8
  have Hok := Lib.hid hok
  clear hok
  go_upto_if 30 with (fail)
  go_cut [3] (fun v W => v = .string ⟨(Mg.l2 m ++ Mg.ok8 ok).toArray⟩ ∧ W = W2)
  case first =>
    cases ok
    · go_wp2_with fail
      go_meet
      case rel => exact ⟨rfl, rfl⟩
    · go_wp2_with fail
      go_meet
      case rel => exact ⟨rfl, rfl⟩
  case rest =>
    obtain ⟨rfl, rfl⟩ := hcut
    rw [Hok.out]
    have hm3 : Mg.l2 m ++ Mg.ok8 m.ok ++ [Nm.b8 m.mem, Nm.b8 m.sec, Nm.b8 m.ents.length] = Mg.l3 m := by
      unfold Mg.l3
      rw [ok_tru, List.append_assoc]; rfl
    have hadd3 := add_app (Mg.l2 m ++ Mg.ok8 m.ok) [Nm.b8 m.mem, Nm.b8 m.sec, Nm.b8 m.ents.length] (by have := Hsz.out; simp [Mg.ok8]; omega)
    rw [hm3] at hadd3
    obtain ⟨sA, hsA⟩ : ∃ s : ByteArray, s = ⟨(Mg.l2 m ++ Mg.ok8 m.ok).toArray⟩ := ⟨_, rfl⟩
    rw [← hsA] at hadd3 ⊢
    have hcv : ∀ W : World, (convert 36 9 (.slice (some ⟨W.heap.size, 0, none⟩) 3 3)).run Try.prog (W.alloc (.cells #[.int .u8 (m.mem : Int), .int .u8 (m.sec : Int), .int .u8 (m.ents.length : Int)] 5)) = .ok (.string ⟨[Nm.b8 m.mem, Nm.b8 m.sec, Nm.b8 m.ents.length].toArray⟩) (W.alloc (.cells #[.int .u8 (m.mem : Int), .int .u8 (m.sec : Int), .int .u8 (m.ents.length : Int)] 5)) := fun W => by
      refine conv_bytes _ _ 3 _ ?_ (by simp) rfl
      rw [HB3.out]
      exact Lies.new W _ _
    obtain ⟨sB, hsB⟩ : ∃ s : ByteArray, s = ⟨[Nm.b8 m.mem, Nm.b8 m.sec, Nm.b8 m.ents.length].toArray⟩ := ⟨_, rfl⟩
    rw [← hsB] at hadd3 hcv
    have c9 := (msgAt (HRow.out _ HB2.out)).c9
    have c10 := (msgAt (HRow.out _ HB2.out)).c10
    have c11 := (msgAt (HRow.out _ HB2.out)).c11
    have hw8 := HW8.out
    clear hm3 hsA hsB c8 hadd0 hadd1
    go_upto_region 8 with (fail)
    refine forget (fun W => Below W1.heap.size W1 W) (bnew HB2.out _) ?_
    clear hw8 c9 c10 c11 hadd3 hcv
    intro W3 hb3
    have HB3' := Lib.hid hb3
    clear hb3
    go_wp2_with fail
    go_loopw [3, 4] (fun v i wr => ∃ k : Nat, k ≤ m.ents.length ∧ i = .int .i64 (k : Int) ∧ v = .string ⟨(Mg.l3 m ++ Mg.eb (m.ents.take k)).toArray⟩ ∧ Below W1.heap.size W1 wr) (fun _ i _ => m.ents.length - (intOf i).toNat)
    case atStart => exact ⟨0, Nat.zero_le _, rfl, by simp [Mg.eb], HB3'.out⟩
    case round =>
      obtain ⟨k, hk, rfl, rfl, hb⟩ := hrel
      have Hb := Lib.hid hb
      have hln := Hsz.out.2.2.2.1
      have hrw := HRow.out _ hb
      clear hb
      by_cases hlt : k < m.ents.length
      · obtain ⟨b, off, rfl, hE⟩ := HA.out.ent k hlt
        have hE := (hE.bel HM.out.1).bel Hb.out
        obtain ⟨e, he⟩ : ∃ e, e = m.ents[k] := ⟨_, rfl⟩
        have hmem : e ∈ m.ents := by rw [he]; exact List.getElem_mem hlt
        have hst := eb_take m.ents k hlt
        rw [← he] at hE hst
        have hz := Mg.big_mem _ _ hmem
        have hbz := Hsz.out.2.2.2.2.2
        have hwr := fun W => refWrite_any e (Hf.out.ents e hmem) (by omega) W
        have hwe : En.write e = En.enc e := by unfold En.write; rw [Hall.out e hmem, if_pos rfl]
        unfold RetS entC at hwr
        rw [hwe] at hwr
        have hrl : (Mg.eb (m.ents.take k)).length + (row (En.enc e)).length ≤ (Mg.eb m.ents).length := by
          have h1 := eb_take_len m.ents (k + 1)
          rw [hst, List.length_append] at h1
          omega
        have hSn : ∀ (W : World) (B : Option Addr), Lies W B (sc [⟨(En.enc e).toArray⟩]) → Calls Try.prog 91 #[.slice B 1 1] W fun r w' => r = .returned (.string ⟨(row (En.enc e)).toArray⟩) ∧ Below W.heap.size W w' := fun W B hB => by
          have hsr : sr [(⟨(En.enc e).toArray⟩ : ByteArray)] = row (En.enc e) := by simp [sr]
          have := refS_any [(⟨(En.enc e).toArray⟩ : ByteArray)] B 1 W hB (by simp) (by rw [hsr]; have := Hsz.out.1; omega)
          unfold RetS at this
          rw [hsr] at this; exact this
        have hadd := add_app (Mg.l3 m ++ Mg.eb (m.ents.take k)) (row (En.enc e)) (by rw [List.length_append]; have := Hsz.out.1; omega)
        rw [List.append_assoc, ← hst] at hadd
        obtain ⟨s1, hs1⟩ : ∃ s : ByteArray, s = ⟨(Mg.l3 m ++ Mg.eb (m.ents.take k)).toArray⟩ := ⟨_, rfl⟩
        obtain ⟨s2, hs2⟩ : ∃ s : ByteArray, s = ⟨(row (En.enc e)).toArray⟩ := ⟨_, rfl⟩
        obtain ⟨s3, hs3⟩ : ∃ s : ByteArray, s = ⟨(Mg.l3 m ++ Mg.eb (m.ents.take (k + 1))).toArray⟩ := ⟨_, rfl⟩
        rw [← hs1, ← hs2, ← hs3] at hadd
        rw [← hs2] at hSn
        rw [← hs1]
        have c11 := (msgAt hrw).c11
        have HWr := Lib.hid hwr
        have HSn := Lib.hid hSn
        have Hs3 := Lib.hid hs3
        obtain ⟨_, q0, q1, q2, q3, q4, q5, q6, q7, q8, q9, q10, q11, q12⟩ := hE
        clear hmem hst he hz hbz hwr hwe hrl hSn hs1 hs2 hs3 hrw
        go_wp2_with fail
        refine (HWr.out _).mono ?_
        rintro r W12 ⟨rfl, hb12⟩
        have H12 := Lib.hid (bnext Hb.out hb12)
        clear hb12 q0 q1 q2 q3 q4 q5 q6 q7 q8 q9 q10 q11 q12 c11
        go_wp2_with fail
        refine (HSn.out _ _ (Lies.at_ W12 (sc [⟨(En.enc e).toArray⟩]) _ _ rfl)).mono ?_
        rintro r W13 ⟨rfl, hb13⟩
        have H13 := Lib.hid (bnext (bnew H12.out _) hb13)
        clear hb13
        go_wp2_with fail
        go_roundw
        case rel => exact ⟨k + 1, by omega, by go_num, by rw [Hs3.out], H13.out⟩
        case measure => simp [intOf]; omega
      · obtain rfl : k = m.ents.length := by omega
        rw [List.take_length]
        have c11 := (msgAt hrw).c11
        have c12 := (msgAt hrw).c12
        have hSn : ∀ (W : World) (B : Option Addr), Lies W B (sc [m.body]) → Calls Try.prog 91 #[.slice B 1 1] W fun r w' => r = .returned (.string ⟨(Cm.txt m.body).toArray⟩) ∧ Below W.heap.size W w' := fun W B hB => by
          have hsr : sr [m.body] = Cm.txt m.body := by simp [sr, Cm.txt]
          have := refS_any [m.body] B 1 W hB (by simp) (by rw [hsr]; have := Hsz.out.1; omega)
          unfold RetS at this
          rw [hsr] at this; exact this
        have hadd := add_app (Mg.l3 m ++ Mg.eb m.ents) (Cm.txt m.body) (by rw [List.length_append]; have := Hsz.out.1; omega)
        have HSn := Lib.hid hSn
        obtain ⟨s1, hs1⟩ : ∃ s : ByteArray, s = ⟨(Mg.l3 m ++ Mg.eb m.ents).toArray⟩ := ⟨_, rfl⟩
        obtain ⟨s2, hs2⟩ : ∃ s : ByteArray, s = ⟨(Cm.txt m.body).toArray⟩ := ⟨_, rfl⟩
        obtain ⟨s3, hs3⟩ : ∃ s : ByteArray, s = ⟨(Mg.l3 m ++ Mg.eb m.ents ++ Cm.txt m.body).toArray⟩ := ⟨_, rfl⟩
        rw [← hs1, ← hs2, ← hs3] at hadd
        rw [← hs1]
        rw [← hs2] at HSn
        have Hs3 : Hid (s3 = ⟨(Mg.write m).toArray⟩) := Lib.hid (by rw [hs3, E.out])
        clear hSn hrw hs1 hs2 hs3
        go_wp2_with fail
        refine (HSn.out _ _ (Lies.at_ wr (sc [m.body]) _ _ rfl)).mono ?_
        rintro r W12 ⟨rfl, hb12⟩
        have H12 := Lib.hid (bnext (bnew Hb.out _) hb12)
        clear hb12 c12 c11
        go_wp2_with fail
        go_ret
        exact ⟨by rw [← Hs3.out]; rfl, bnext HM.out.1 H12.out⟩

end Go.Proofs.Ytpdahbfjbgcmgaa
