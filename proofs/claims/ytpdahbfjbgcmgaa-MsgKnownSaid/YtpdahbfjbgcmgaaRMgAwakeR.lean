/-
  The statements' own 'awake' of layer 5: its region 2, whose order is open. WRITTEN BY wip/tools/gen_mgawake.py.
-/
import Derived.Test.YtpdahbfjbgcmgaaRMgA
import Derived.Test.YtpdahbfjbgcmgaaRReg
set_option linter.unusedSimpArgs false
set_option linter.unusedVariables false
namespace Go.Proofs.Ytpdahbfjbgcmgaa
open Go.RowKit
set_option linter.unusedVariables false
/-- The statements' own message. -/
def someM : Mg.M := ⟨3, 1, 3, 2, 0, 0, 1, 128, false, 0, 0, [⟨1, 2, 1, 0, Og.Tk.zero, Cm.e0⟩], Cm.e0⟩
/-- A message's cells, without more. -/
structure MsgL (W : World) (g : Nat) (m : Mg.M) (A : Option Addr) (cap : Nat) : Prop where
  c0 : W.cell? ⟨g, 0, none⟩ = some (.int .u8 (m.kind : Int))
  c1 : W.cell? ⟨g, 1, none⟩ = some (.int .u8 (m.frm : Int))
  c2 : W.cell? ⟨g, 2, none⟩ = some (.int .u8 (m.tto : Int))
  c3 : W.cell? ⟨g, 3, none⟩ = some (.int .u64 (m.trm : Int))
  c4 : W.cell? ⟨g, 4, none⟩ = some (.int .u64 (m.idx : Int))
  c5 : W.cell? ⟨g, 5, none⟩ = some (.int .u64 (m.ltm : Int))
  c6 : W.cell? ⟨g, 6, none⟩ = some (.int .u64 (m.com : Int))
  c7 : W.cell? ⟨g, 7, none⟩ = some (.int .u64 (m.rnd : Int))
  c8 : W.cell? ⟨g, 8, none⟩ = some (.bool m.ok)
  c9 : W.cell? ⟨g, 9, none⟩ = some (.int .u8 (m.mem : Int))
  c10 : W.cell? ⟨g, 10, none⟩ = some (.int .u8 (m.sec : Int))
  c11 : W.cell? ⟨g, 11, none⟩ = some (.slice A m.ents.length cap)
  c12 : W.cell? ⟨g, 12, none⟩ = some (.string m.body)
theorem msgL {W : World} {g : Nat} {m : Mg.M} {A : Option Addr} {cap : Nat} (h : W.heap[g]? = some (.cells (msgC m A cap) 63 (0, 0))) : MsgL W g m A cap :=
  ⟨cell_of_row W g 0 _ _ _ h, cell_of_row W g 1 _ _ _ h, cell_of_row W g 2 _ _ _ h, cell_of_row W g 3 _ _ _ h, cell_of_row W g 4 _ _ _ h, cell_of_row W g 5 _ _ _ h, cell_of_row W g 6 _ _ _ h, cell_of_row W g 7 _ _ _ h, cell_of_row W g 8 _ _ _ h, cell_of_row W g 9 _ _ _ h, cell_of_row W g 10 _ _ _ h, cell_of_row W g 11 _ _ _ h, cell_of_row W g 12 _ _ _ h⟩
noncomputable def maw2C : Code := ((Try.f42.body.bind (Reg.findRegion 2)).getD .skip)
set_option maxRecDepth 100000 in
set_option maxHeartbeats 4000000 in
theorem maw2 {c0 c3 c4 c5 c6 c7 c8 c9 c10 c11 c12 c13 c14 c15 c16 c17 c18 c19 c20 c21 c22 c23 c24 : Value} (g : Nat) (A : Option Addr) (cap : Nat) (w : World) (hP : ∀ W, Calls Try.prog 41 #[] W fun e w' => ∃ q, e = .returned (.agg (msgC someM (some ⟨q, 0, none⟩) 1)) ∧ Lies w' (some ⟨q, 0, none⟩) (ec someM.ents) ∧ Below W.heap.size W w')
   (hW : ∀ (W : World) (q : Nat), Lies W (some ⟨q, 0, none⟩) (ec someM.ents) → Calls Try.prog 37 #[.agg (msgC someM (some ⟨q, 0, none⟩) 1)] W fun e w' => e = .returned (.string ⟨#[3, 1, 3, 2, 0, 0, 1, 129, 0, 0, 0, 0, 1, 3, 1, 1, 2, 0]⟩) ∧ Below W.heap.size W w')
   (hSr : ∀ (W : World) (q : Nat), Lies W (some ⟨q, 0, none⟩) (ec someM.ents) → Below w.heap.size w W → Calls Try.prog 46 #[.agg (msgC someM A cap), .agg (msgC someM (some ⟨q, 0, none⟩) 1)] W fun e w' => e = .returned (.bool true) ∧ Below W.heap.size W w')
   (hS : ∀ (W : World) (q : Nat), Lies W (some ⟨q, 0, none⟩) (ec someM.ents) → Below w.heap.size w W → Calls Try.prog 40 #[.agg (msgC someM A cap), .agg (msgC someM (some ⟨q, 0, none⟩) 1)] W fun e w' => e = .returned (.bool true) ∧ Below W.heap.size W w')
   (hld : ∀ W : World, Below w.heap.size w W → MsgL W g someM A cap) (Q : Exit → Act → World → Prop)
   (h : ∀ (u0 u8 u13 : Value) (w' : World), Below w.heap.size w w' → Q .normal ⟨#[.bool true, .pointer (some ⟨g, 0, none⟩), .bool true, c3, c4, c5, c6, c7, c8, u0, .string ⟨#[3, 1, 3, 2, 0, 0, 1, 129, 0, 0, 0, 0, 1, 3, 1, 1, 2, 0]⟩, .bool true, .bool true, .bool true, .bool true, .bool true, .agg (msgC someM A cap), u8, .bool true, .bool true, .bool true, .agg (msgC someM A cap), u13, .bool true, .bool true], []⟩ w') :
   Code.wp Try.prog maw2C Q ⟨#[c0, .pointer (some ⟨g, 0, none⟩), .bool true, c3, c4, c5, c6, c7, c8, c9, c10, c11, c12, c13, c14, c15, c16, c17, c18, c19, c20, c21, c22, c23, c24], []⟩ w := by
  obtain ⟨Sp, hSp⟩ : ∃ Sp : Nat → Value → World → Prop, Sp = fun _ v w => ∃ q, v = .agg (msgC someM (some ⟨q, 0, none⟩) 1) ∧ Lies w (some ⟨q, 0, none⟩) (ec someM.ents) := ⟨_, rfl⟩
  conv => arg 2; whnf
  refine Reg.wp_region_inv (fun w' => Below w.heap.size w w') (fun x y => Below x.heap.size x y) (Reg.KnownI [none, some (.string ⟨#[3, 1, 3, 2, 0, 0, 1, 129, 0, 0, 0, 0, 1, 3, 1, 1, 2, 0]⟩), some (.bool true), some (.bool true), some (.bool true), some (.bool true), some (.bool true), some (.agg (msgC someM A cap)), none, some (.bool true), some (.bool true), some (.bool true), some (.agg (msgC someM A cap)), none, some (.bool true), some (.bool true), some (.bool true)] Sp) (by kernel_rfl) (by kernel_rfl) (Reg.knownI_mono ?mono) (Below.refl _ _).drew ?steps ?fin
  case mono =>
    intro i v w w' hs hb
    rw [hSp] at hs ⊢
    obtain ⟨q, hr, hl⟩ := hs
    exact ⟨q, hr, hl.below hb⟩
  case steps =>
    intro hB
    refine ⟨?_, ?_, ?_, ?_, ?_, ?_, ?_, ?_, ?_, ?_, ?_, ?_, ?_, ?_, ?_, ?_, ?_, trivial⟩
    · -- 0: Op.call { callee := Callee.value (Operand.func 41), args := #[], argTypes := #[] }
      refine Reg.step_run hB (Reg.runs_none rfl) (fun a w1 hI hb hd => ?_)
      refine Reg.run_callS (f := 41) (args := #[]) ?_ ((hP w1).mono (fun e w' h => by obtain ⟨q, he, hl, hb⟩ := h; exact ⟨_, he, (show Sp _ _ _ by rw [hSp]; exact ⟨q, rfl, hl⟩), hb⟩)) (fun _ h => bnext hI h)
      clear hb hd
      have hc := fun v => Reg.eval_const a v
      have hf := fun f => Reg.eval_func a f
      generalize a.eval = ρ at *
      simp [go_sem, *]
    · -- 1: Op.call { callee := Callee.value (Operand.func 37), args := #[Operand.tmp 9], argTypes := #[63] }
      refine Reg.step_run hB (Reg.runs_none rfl) (fun a w1 hI hb hd => ?_)
      have e9 : Sp 0 (a.eval (.tmp 9)) w1 := hd 0 9 (by kernel_rfl) (by kernel_rfl)
      rw [hSp] at e9
      obtain ⟨q9, hr9, hl9⟩ := e9
      refine Reg.run_call (f := 37) (args := #[.agg (msgC someM (some ⟨q9, 0, none⟩) 1)]) ?_ (hW w1 _ hl9) (fun _ _ => rfl) (fun _ h => bnext hI h)
      clear hb hd
      have hc := fun v => Reg.eval_const a v
      have hf := fun f => Reg.eval_func a f
      generalize a.eval = ρ at *
      simp [go_sem, *]
    · -- 2: Op.binOp BinOp.eql 9 (Operand.tmp 10) (Operand.const (Value.string { data := #[3, 1, 3, 2, 0, 0, 1, 
      refine Reg.step_run hB (Reg.runs_none rfl) (fun a w1 hI hb hd => ?_)
      have e10 : a.eval (.tmp 10) = .string ⟨#[3, 1, 3, 2, 0, 0, 1, 129, 0, 0, 0, 0, 1, 3, 1, 1, 2, 0]⟩ := hd 1 10 (by kernel_rfl) (by kernel_rfl)
      refine Reg.run_value (v := .bool true) ?_ rfl (Below.refl _ _) hI
      clear hb hd
      have hc := fun v => Reg.eval_const a v
      have hf := fun f => Reg.eval_func a f
      generalize a.eval = ρ at *
      simp [execOp, go_sem, *]
    · -- 3: Op.move (Operand.tmp 11)
      refine Reg.step_run hB (Reg.runs_none rfl) (fun a w1 hI hb hd => ?_)
      have e11 : a.eval (.tmp 11) = .bool true := hd 2 11 (by kernel_rfl) (by kernel_rfl)
      exact Reg.run_value (Reg.run_move rfl e11) rfl (Below.refl _ _) hI
    · -- 4: Op.move (Operand.tmp 2)
      refine Reg.step_run hB (Reg.runs_some (d := 12) rfl (by kernel_rfl) (by kernel_rfl) (fun _ _ h => h)) (fun a w1 hI hb hd => ?_)
      have e2 : a.eval (.tmp 2) = .bool true := hb 2 (by kernel_rfl)
      exact Reg.run_value (Reg.run_move rfl e2) rfl (Below.refl _ _) hI
    · -- 5: Op.pick (Operand.tmp 12) (Operand.tmp 13) (Operand.const (Value.bool false))
      refine Reg.step_run hB (Reg.runs_none rfl) (fun a w1 hI hb hd => ?_)
      have e12 : a.eval (.tmp 12) = .bool true := hd 3 12 (by kernel_rfl) (by kernel_rfl)
      have e13 : a.eval (.tmp 13) = .bool true := hd 4 13 (by kernel_rfl) (by kernel_rfl)
      refine Reg.run_value (v := .bool true) ?_ rfl (Below.refl _ _) hI
      clear hb hd
      have hc := fun v => Reg.eval_const a v
      have hf := fun f => Reg.eval_func a f
      generalize a.eval = ρ at *
      simp [execOp, go_sem, *]
    · -- 6: Op.move (Operand.tmp 14)
      refine Reg.step_run hB (Reg.runs_none rfl) (fun a w1 hI hb hd => ?_)
      have e14 : a.eval (.tmp 14) = .bool true := hd 5 14 (by kernel_rfl) (by kernel_rfl)
      exact Reg.run_value (Reg.run_move rfl e14) rfl (Below.refl _ _) hI
    · -- 7: Op.load 63 (Operand.tmp 1)
      refine Reg.step_run hB (Reg.runs_some (d := 15) rfl (by kernel_rfl) (by kernel_rfl) (fun _ _ h => h)) (fun a w1 hI hb hd => ?_)
      have e1 : a.eval (.tmp 1) = .pointer (some ⟨g, 0, none⟩) := hb 1 (by kernel_rfl)
      obtain ⟨k0, k1, k2, k3, k4, k5, k6, k7, k8, k9, k10, k11, k12⟩ := hld w1 hI
      refine Reg.run_value (v := .agg (msgC someM A cap)) ?_ rfl (Below.refl _ _) hI
      clear hb hd
      have hc := fun v => Reg.eval_const a v
      have hf := fun f => Reg.eval_func a f
      generalize a.eval = ρ at *
      simp [execOp, go_sem, msgC, *]
    · -- 8: Op.call { callee := Callee.value (Operand.func 41), args := #[], argTypes := #[] }
      refine Reg.step_run hB (Reg.runs_some (d := 15) rfl (by kernel_rfl) (by kernel_rfl) (fun _ _ h => h)) (fun a w1 hI hb hd => ?_)
      refine Reg.run_callS (f := 41) (args := #[]) ?_ ((hP w1).mono (fun e w' h => by obtain ⟨q, he, hl, hb⟩ := h; exact ⟨_, he, (show Sp _ _ _ by rw [hSp]; exact ⟨q, rfl, hl⟩), hb⟩)) (fun _ h => bnext hI h)
      clear hb hd
      have hc := fun v => Reg.eval_const a v
      have hf := fun f => Reg.eval_func a f
      generalize a.eval = ρ at *
      simp [go_sem, *]
    · -- 9: Op.call { callee := Callee.value (Operand.func 46), args := #[Operand.tmp 16, Operand.tmp 17], argTy
      refine Reg.step_run hB (Reg.runs_some (d := 15) rfl (by kernel_rfl) (by kernel_rfl) (fun _ _ h => h)) (fun a w1 hI hb hd => ?_)
      have e16 : a.eval (.tmp 16) = .agg (msgC someM A cap) := hd 7 16 (by kernel_rfl) (by kernel_rfl)
      have e17 : Sp 8 (a.eval (.tmp 17)) w1 := hd 8 17 (by kernel_rfl) (by kernel_rfl)
      rw [hSp] at e17
      obtain ⟨q17, hr17, hl17⟩ := e17
      refine Reg.run_call (f := 46) (args := #[.agg (msgC someM A cap), .agg (msgC someM (some ⟨q17, 0, none⟩) 1)]) ?_ (hSr w1 _ hl17 hI) (fun _ _ => rfl) (fun _ h => bnext hI h)
      clear hb hd
      have hc := fun v => Reg.eval_const a v
      have hf := fun f => Reg.eval_func a f
      generalize a.eval = ρ at *
      simp [go_sem, *]
    · -- 10: Op.pick (Operand.tmp 15) (Operand.tmp 18) (Operand.const (Value.bool false))
      refine Reg.step_run hB (Reg.runs_none rfl) (fun a w1 hI hb hd => ?_)
      have e15 : a.eval (.tmp 15) = .bool true := hd 6 15 (by kernel_rfl) (by kernel_rfl)
      have e18 : a.eval (.tmp 18) = .bool true := hd 9 18 (by kernel_rfl) (by kernel_rfl)
      refine Reg.run_value (v := .bool true) ?_ rfl (Below.refl _ _) hI
      clear hb hd
      have hc := fun v => Reg.eval_const a v
      have hf := fun f => Reg.eval_func a f
      generalize a.eval = ρ at *
      simp [execOp, go_sem, *]
    · -- 11: Op.move (Operand.tmp 19)
      refine Reg.step_run hB (Reg.runs_none rfl) (fun a w1 hI hb hd => ?_)
      have e19 : a.eval (.tmp 19) = .bool true := hd 10 19 (by kernel_rfl) (by kernel_rfl)
      exact Reg.run_value (Reg.run_move rfl e19) rfl (Below.refl _ _) hI
    · -- 12: Op.load 63 (Operand.tmp 1)
      refine Reg.step_run hB (Reg.runs_some (d := 20) rfl (by kernel_rfl) (by kernel_rfl) (fun _ _ h => h)) (fun a w1 hI hb hd => ?_)
      have e1 : a.eval (.tmp 1) = .pointer (some ⟨g, 0, none⟩) := hb 1 (by kernel_rfl)
      obtain ⟨k0, k1, k2, k3, k4, k5, k6, k7, k8, k9, k10, k11, k12⟩ := hld w1 hI
      refine Reg.run_value (v := .agg (msgC someM A cap)) ?_ rfl (Below.refl _ _) hI
      clear hb hd
      have hc := fun v => Reg.eval_const a v
      have hf := fun f => Reg.eval_func a f
      generalize a.eval = ρ at *
      simp [execOp, go_sem, msgC, *]
    · -- 13: Op.call { callee := Callee.value (Operand.func 41), args := #[], argTypes := #[] }
      refine Reg.step_run hB (Reg.runs_some (d := 20) rfl (by kernel_rfl) (by kernel_rfl) (fun _ _ h => h)) (fun a w1 hI hb hd => ?_)
      refine Reg.run_callS (f := 41) (args := #[]) ?_ ((hP w1).mono (fun e w' h => by obtain ⟨q, he, hl, hb⟩ := h; exact ⟨_, he, (show Sp _ _ _ by rw [hSp]; exact ⟨q, rfl, hl⟩), hb⟩)) (fun _ h => bnext hI h)
      clear hb hd
      have hc := fun v => Reg.eval_const a v
      have hf := fun f => Reg.eval_func a f
      generalize a.eval = ρ at *
      simp [go_sem, *]
    · -- 14: Op.call { callee := Callee.value (Operand.func 40), args := #[Operand.tmp 21, Operand.tmp 22], argTy
      refine Reg.step_run hB (Reg.runs_some (d := 20) rfl (by kernel_rfl) (by kernel_rfl) (fun _ _ h => h)) (fun a w1 hI hb hd => ?_)
      have e21 : a.eval (.tmp 21) = .agg (msgC someM A cap) := hd 12 21 (by kernel_rfl) (by kernel_rfl)
      have e22 : Sp 13 (a.eval (.tmp 22)) w1 := hd 13 22 (by kernel_rfl) (by kernel_rfl)
      rw [hSp] at e22
      obtain ⟨q22, hr22, hl22⟩ := e22
      refine Reg.run_call (f := 40) (args := #[.agg (msgC someM A cap), .agg (msgC someM (some ⟨q22, 0, none⟩) 1)]) ?_ (hS w1 _ hl22 hI) (fun _ _ => rfl) (fun _ h => bnext hI h)
      clear hb hd
      have hc := fun v => Reg.eval_const a v
      have hf := fun f => Reg.eval_func a f
      generalize a.eval = ρ at *
      simp [go_sem, *]
    · -- 15: Op.pick (Operand.tmp 20) (Operand.tmp 23) (Operand.const (Value.bool false))
      refine Reg.step_run hB (Reg.runs_none rfl) (fun a w1 hI hb hd => ?_)
      have e20 : a.eval (.tmp 20) = .bool true := hd 11 20 (by kernel_rfl) (by kernel_rfl)
      have e23 : a.eval (.tmp 23) = .bool true := hd 14 23 (by kernel_rfl) (by kernel_rfl)
      refine Reg.run_value (v := .bool true) ?_ rfl (Below.refl _ _) hI
      clear hb hd
      have hc := fun v => Reg.eval_const a v
      have hf := fun f => Reg.eval_func a f
      generalize a.eval = ρ at *
      simp [execOp, go_sem, *]
    · -- 16: Op.assign (Operand.tmp 24)
      refine Reg.step_run hB (Reg.runs_none rfl) (fun a w1 hI hb hd => ?_)
      have e24 : a.eval (.tmp 24) = .bool true := hd 15 24 (by kernel_rfl) (by kernel_rfl)
      exact Reg.run_value (Reg.run_assign rfl e24) rfl (Below.refl _ _) hI
  case fin =>
    intro vals w' hI hg
    have g1 : vals 1 = .string ⟨#[3, 1, 3, 2, 0, 0, 1, 129, 0, 0, 0, 0, 1, 3, 1, 1, 2, 0]⟩ := hg 1 (by simp)
    have g2 : vals 2 = .bool true := hg 2 (by simp)
    have g3 : vals 3 = .bool true := hg 3 (by simp)
    have g4 : vals 4 = .bool true := hg 4 (by simp)
    have g5 : vals 5 = .bool true := hg 5 (by simp)
    have g6 : vals 6 = .bool true := hg 6 (by simp)
    have g7 : vals 7 = .agg (msgC someM A cap) := hg 7 (by simp)
    have g9 : vals 9 = .bool true := hg 9 (by simp)
    have g10 : vals 10 = .bool true := hg 10 (by simp)
    have g11 : vals 11 = .bool true := hg 11 (by simp)
    have g12 : vals 12 = .agg (msgC someM A cap) := hg 12 (by simp)
    have g14 : vals 14 = .bool true := hg 14 (by simp)
    have g15 : vals 15 = .bool true := hg 15 (by simp)
    have g16 : vals 16 = .bool true := hg 16 (by simp)
    refine Reg.fin_of (y := #[vals 16, .pointer (some ⟨g, 0, none⟩), .bool true, c3, c4, c5, c6, c7, c8, vals 0, vals 1, vals 2, vals 3, vals 4, vals 5, vals 6, vals 7, vals 8, vals 9, vals 10, vals 11, vals 12, vals 13, vals 14, vals 15]) (by kernel_rfl) ?_
    rw [g1, g2, g3, g4, g5, g6, g7, g9, g10, g11, g12, g14, g15, g16]
    exact h (vals 0) (vals 8) (vals 13) w' hI
end Go.Proofs.Ytpdahbfjbgcmgaa
