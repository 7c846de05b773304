/-
  entry.Write's regions 3 and 5, whose order is open. WRITTEN BY wip/tools/gen_enwrite.py.
  entry.Write walked. WRITTEN BY wip/tools/gen_enwritew.py.
-/
import Derived.Test.YtjhbpcecdhdnoaaGreatDoorREnA
import Derived.Test.YtjhbpcecdhdnoaaGreatDoorRWwAZ
import Derived.Test.YtjhbpcecdhdnoaaGreatDoorRFrWZ
import Derived.Deep.DeepCutAuto
import Derived.Deep.CutBlock
set_option linter.unusedSimpArgs false
set_option linter.unusedVariables false
namespace Go.Proofs.YtjhbpcecdhdnoaaGreatDoor
open Go.RowKit
set_option linter.unusedVariables false
noncomputable def ewr3C : Code := ((Tryz.f200.body.bind (Reg.findRegion 3)).getD .skip)
set_option maxRecDepth 100000 in
set_option maxHeartbeats 4000000 in
theorem ewr3 {c0 c2 c3 c4 c5 c6 c7 c8 c9 c10 c11 c12 c13 c14 c15 c16 c17 c18 c19 c20 c21 c22 c23 c24 c25 c26 c27 c28 c29 c30 c31 c32 c33 c34 c35 c36 c37 c38 c39 c40 : Value} (e : En.E) (g : Nat) (u v : ByteArray) (w : World) (h0 : w.cell? ⟨g, 0, none⟩ = some (.int .u64 (e.idx : Int))) (h1 : w.cell? ⟨g, 1, none⟩ = some (.int .u64 (e.trm : Int))) (h2 : w.cell? ⟨g, 2, none⟩ = some (.int .u8 (e.kind : Int))) (hw8 : IntKind.u64.wrap (e.kind : Int) = (e.kind : Int))
   (hU : ∀ W, Calls Tryz.prog 146 #[.int .u64 (e.kind : Int), .int .i64 1] W fun r w' => r = .returned (.string u) ∧ Below W.heap.size W w')
   (hV : ∀ (W : World) (A : Option Addr), Lies W A (uc [e.idx, e.trm]) → Calls Tryz.prog 147 #[.slice A 2 2] W fun r w' => r = .returned (.string v) ∧ Below W.heap.size W w')
   (ha : ∀ W : World, (Op.stringOp .add u v).run Tryz.prog W = .ok (.string (u ++ v)) W) (Q : Exit → Act → World → Prop)
   (h : ∀ (u8 : Value) (w' : World), Below w.heap.size w w' → Q .normal ⟨#[c0, .pointer (some ⟨g, 0, none⟩), c2, .string (u ++ v), c4, c5, c6, .pointer (some ⟨g, 2, none⟩), .int .u8 (e.kind : Int), .int .u64 (e.kind : Int), .string u, .pointer (some ⟨g, 0, none⟩), .int .u64 (e.idx : Int), .pointer (some ⟨g, 1, none⟩), .int .u64 (e.trm : Int), u8, .string v, .string (u ++ v), c18, c19, c20, c21, c22, c23, c24, c25, c26, c27, c28, c29, c30, c31, c32, c33, c34, c35, c36, c37, c38, c39, c40], []⟩ w') :
   Code.wp Tryz.prog ewr3C Q ⟨#[c0, .pointer (some ⟨g, 0, none⟩), c2, c3, c4, c5, c6, c7, c8, c9, c10, c11, c12, c13, c14, c15, c16, c17, c18, c19, c20, c21, c22, c23, c24, c25, c26, c27, c28, c29, c30, c31, c32, c33, c34, c35, c36, c37, c38, c39, c40], []⟩ w := by
  obtain ⟨L, hL⟩ : ∃ L : Nat → List Value × Nat, L = fun i => match i with | 8 => (uc [e.idx, e.trm], 2) | _ => ([], 0) := ⟨_, rfl⟩
  obtain ⟨Sp, hSp⟩ : ∃ Sp : Nat → Value → World → Prop, Sp = fun i v w => ∃ r, v = .slice (some ⟨r, 0, none⟩) (L i).2 (L i).2 ∧ Lies w (some ⟨r, 0, none⟩) (L i).1 := ⟨_, rfl⟩
  rw [hL] at hSp
  conv => arg 2; whnf
  refine Reg.wp_region_inv (fun w' => Below w.heap.size w w') (fun x y => Below x.heap.size x y) (Reg.KnownI [some (.pointer (some ⟨g, 2, none⟩)), some (.int .u8 (e.kind : Int)), some (.int .u64 (e.kind : Int)), some (.string u), some (.pointer (some ⟨g, 0, none⟩)), some (.int .u64 (e.idx : Int)), some (.pointer (some ⟨g, 1, none⟩)), some (.int .u64 (e.trm : Int)), none, some (.string v), some (.string (u ++ v)), some (.string (u ++ v))] Sp) (by kernel_rfl) (by kernel_rfl) (Reg.knownI_mono ?mono) (Below.refl _ _).drew ?steps ?fin
  case mono =>
    intro i v w w' hs hb
    rw [hSp] at hs ⊢
    obtain ⟨r, hr, hl⟩ := hs
    exact ⟨r, hr, hl.below hb⟩
  case steps =>
    intro hB
    refine ⟨?_, ?_, ?_, ?_, ?_, ?_, ?_, ?_, ?_, ?_, ?_, ?_, trivial⟩
    · -- 0: Op.fieldAddr 62 (Operand.tmp 1) 2
      refine Reg.step_run hB (Reg.runs_none rfl) (fun a w1 hI hb hd => ?_)
      have e1 : a.eval (.tmp 1) = .pointer (some ⟨g, 0, none⟩) := hb 1 (by kernel_rfl)
      refine Reg.run_value (v := .pointer (some ⟨g, 2, none⟩)) ?_ rfl (Below.refl _ _) hI
      clear hb hd
      have hc := fun v => Reg.eval_const a v
      have hf := fun f => Reg.eval_func a f
      generalize a.eval = ρ at *
      simp [execOp, go_sem, *]
    · -- 1: Op.load 5 (Operand.tmp 7)
      refine Reg.step_run hB (Reg.runs_none rfl) (fun a w1 hI hb hd => ?_)
      have e7 : a.eval (.tmp 7) = .pointer (some ⟨g, 2, none⟩) := hd 0 7 (by kernel_rfl) (by kernel_rfl)
      have hl := later hI h2
      refine Reg.run_value (v := .int .u8 (e.kind : Int)) ?_ rfl (Below.refl _ _) hI
      clear hb hd
      have hc := fun v => Reg.eval_const a v
      have hf := fun f => Reg.eval_func a f
      generalize a.eval = ρ at *
      simp [execOp, go_sem, *]
    · -- 2: Op.convert 5 25 (Operand.tmp 8)
      refine Reg.step_run hB (Reg.runs_none rfl) (fun a w1 hI hb hd => ?_)
      have e8 : a.eval (.tmp 8) = .int .u8 (e.kind : Int) := hd 1 8 (by kernel_rfl) (by kernel_rfl)
      refine Reg.run_value (v := .int .u64 (e.kind : Int)) ?_ rfl (Below.refl _ _) hI
      clear hb hd
      have hc := fun v => Reg.eval_const a v
      have hf := fun f => Reg.eval_func a f
      generalize a.eval = ρ at *
      simp [execOp, go_sem, hw8, *]
    · -- 3: Op.call { callee := Callee.value (Operand.func 73), args := #[Operand.tmp 9, Operand.const (Value.in
      refine Reg.step_run hB (Reg.runs_none rfl) (fun a w1 hI hb hd => ?_)
      have e9 : a.eval (.tmp 9) = .int .u64 (e.kind : Int) := hd 2 9 (by kernel_rfl) (by kernel_rfl)
      refine Reg.run_call (f := 146) (args := #[.int .u64 (e.kind : Int), .int .i64 1]) ?_ (hU w1) (fun _ _ => rfl) (fun _ h => bnext hI h)
      clear hb hd
      have hc := fun v => Reg.eval_const a v
      have hf := fun f => Reg.eval_func a f
      generalize a.eval = ρ at *
      simp [go_sem, *]
    · -- 4: Op.fieldAddr 62 (Operand.tmp 1) 0
      refine Reg.step_run hB (Reg.runs_none rfl) (fun a w1 hI hb hd => ?_)
      have e1 : a.eval (.tmp 1) = .pointer (some ⟨g, 0, none⟩) := hb 1 (by kernel_rfl)
      refine Reg.run_value (v := .pointer (some ⟨g, 0, none⟩)) ?_ rfl (Below.refl _ _) hI
      clear hb hd
      have hc := fun v => Reg.eval_const a v
      have hf := fun f => Reg.eval_func a f
      generalize a.eval = ρ at *
      simp [execOp, go_sem, *]
    · -- 5: Op.load 25 (Operand.tmp 11)
      refine Reg.step_run hB (Reg.runs_none rfl) (fun a w1 hI hb hd => ?_)
      have e11 : a.eval (.tmp 11) = .pointer (some ⟨g, 0, none⟩) := hd 4 11 (by kernel_rfl) (by kernel_rfl)
      have hl := later hI h0
      refine Reg.run_value (v := .int .u64 (e.idx : Int)) ?_ rfl (Below.refl _ _) hI
      clear hb hd
      have hc := fun v => Reg.eval_const a v
      have hf := fun f => Reg.eval_func a f
      generalize a.eval = ρ at *
      simp [execOp, go_sem, *]
    · -- 6: Op.fieldAddr 62 (Operand.tmp 1) 1
      refine Reg.step_run hB (Reg.runs_none rfl) (fun a w1 hI hb hd => ?_)
      have e1 : a.eval (.tmp 1) = .pointer (some ⟨g, 0, none⟩) := hb 1 (by kernel_rfl)
      refine Reg.run_value (v := .pointer (some ⟨g, 1, none⟩)) ?_ rfl (Below.refl _ _) hI
      clear hb hd
      have hc := fun v => Reg.eval_const a v
      have hf := fun f => Reg.eval_func a f
      generalize a.eval = ρ at *
      simp [execOp, go_sem, *]
    · -- 7: Op.load 25 (Operand.tmp 13)
      refine Reg.step_run hB (Reg.runs_none rfl) (fun a w1 hI hb hd => ?_)
      have e13 : a.eval (.tmp 13) = .pointer (some ⟨g, 1, none⟩) := hd 6 13 (by kernel_rfl) (by kernel_rfl)
      have hl := later hI h1
      refine Reg.run_value (v := .int .u64 (e.trm : Int)) ?_ rfl (Below.refl _ _) hI
      clear hb hd
      have hc := fun v => Reg.eval_const a v
      have hf := fun f => Reg.eval_func a f
      generalize a.eval = ρ at *
      simp [execOp, go_sem, *]
    · -- 8: Op.buildSlice 102 2 #[(0, Operand.tmp 12), (1, Operand.tmp 14)]
      refine Reg.step_run hB (Reg.runs_none rfl) (fun a w1 hI hb hd => ?_)
      have e12 : a.eval (.tmp 12) = .int .u64 (e.idx : Int) := hd 5 12 (by kernel_rfl) (by kernel_rfl)
      have e14 : a.eval (.tmp 14) = .int .u64 (e.trm : Int) := hd 7 14 (by kernel_rfl) (by kernel_rfl)
      refine Reg.run_made (v := .slice (some ⟨w1.heap.size, 0, none⟩) 2 2) (w' := w1.alloc (.cells #[.int .u64 (e.idx : Int), .int .u64 (e.trm : Int)] 38)) ?_ (show Sp 8 _ _ by rw [hSp]; exact ⟨_, rfl, Lies.new _ (uc [e.idx, e.trm]) _⟩) (bnew (Below.refl _ _) _) (bnew hI _)
      clear hb hd
      have hc := fun v => Reg.eval_const a v
      have hf := fun f => Reg.eval_func a f
      generalize a.eval = ρ at *
      simp [execOp, go_sem, *]
    · -- 9: Op.call { callee := Callee.value (Operand.func 74), args := #[Operand.tmp 15], argTypes := #[102] }
      refine Reg.step_run hB (Reg.runs_none rfl) (fun a w1 hI hb hd => ?_)
      have e15 : Sp 8 (a.eval (.tmp 15)) w1 := hd 8 15 (by kernel_rfl) (by kernel_rfl)
      rw [hSp] at e15
      obtain ⟨r, hr, hl⟩ := e15
      replace hr : a.eval (.tmp 15) = .slice (some ⟨r, 0, none⟩) 2 2 := hr
      refine Reg.run_call (f := 147) (args := #[.slice (some ⟨r, 0, none⟩) 2 2]) ?_ (hV w1 _ hl) (fun _ _ => rfl) (fun _ h => bnext hI h)
      clear hb hd
      have hc := fun v => Reg.eval_const a v
      have hf := fun f => Reg.eval_func a f
      generalize a.eval = ρ at *
      simp [go_sem, *]
    · -- 10: Op.binOp BinOp.add 9 (Operand.tmp 10) (Operand.tmp 16) 9
      refine Reg.step_run hB (Reg.runs_none rfl) (fun a w1 hI hb hd => ?_)
      have e10 : a.eval (.tmp 10) = .string u := hd 3 10 (by kernel_rfl) (by kernel_rfl)
      have e16 : a.eval (.tmp 16) = .string v := hd 9 16 (by kernel_rfl) (by kernel_rfl)
      have ha2 := ha w1
      refine Reg.run_value (v := .string (u ++ v)) ?_ rfl (Below.refl _ _) hI
      clear hb hd
      have hc := fun v => Reg.eval_const a v
      have hf := fun f => Reg.eval_func a f
      generalize a.eval = ρ at *
      simp [execOp, go_sem, *]
    · -- 11: Op.assign (Operand.tmp 17)
      refine Reg.step_run hB (Reg.runs_none rfl) (fun a w1 hI hb hd => ?_)
      have e17 : a.eval (.tmp 17) = .string (u ++ v) := hd 10 17 (by kernel_rfl) (by kernel_rfl)
      exact Reg.run_value (Reg.run_assign rfl e17) rfl (Below.refl _ _) hI
  case fin =>
    intro vals w' hI hg
    have g0 : vals 0 = .pointer (some ⟨g, 2, none⟩) := hg 0 (by simp)
    have g1 : vals 1 = .int .u8 (e.kind : Int) := hg 1 (by simp)
    have g2 : vals 2 = .int .u64 (e.kind : Int) := hg 2 (by simp)
    have g3 : vals 3 = .string u := hg 3 (by simp)
    have g4 : vals 4 = .pointer (some ⟨g, 0, none⟩) := hg 4 (by simp)
    have g5 : vals 5 = .int .u64 (e.idx : Int) := hg 5 (by simp)
    have g6 : vals 6 = .pointer (some ⟨g, 1, none⟩) := hg 6 (by simp)
    have g7 : vals 7 = .int .u64 (e.trm : Int) := hg 7 (by simp)
    have g9 : vals 9 = .string v := hg 9 (by simp)
    have g10 : vals 10 = .string (u ++ v) := hg 10 (by simp)
    have g11 : vals 11 = .string (u ++ v) := hg 11 (by simp)
    refine Reg.fin_of (y := #[c0, .pointer (some ⟨g, 0, none⟩), c2, vals 11, c4, c5, c6, vals 0, vals 1, vals 2, vals 3, vals 4, vals 5, vals 6, vals 7, vals 8, vals 9, vals 10, c18, c19, c20, c21, c22, c23, c24, c25, c26, c27, c28, c29, c30, c31, c32, c33, c34, c35, c36, c37, c38, c39, c40]) (by kernel_rfl) ?_
    rw [g0, g1, g2, g3, g4, g5, g6, g7, g9, g10, g11]
    exact h (vals 8) w' hI
noncomputable def ewr5C : Code := ((Tryz.f200.body.bind (Reg.findRegion 5)).getD .skip)
set_option maxRecDepth 100000 in
set_option maxHeartbeats 4000000 in
theorem ewr5 {c0 c2 c4 c5 c6 c7 c8 c9 c10 c11 c12 c13 c14 c15 c16 c17 c18 c19 c20 c21 c22 c23 c24 c25 c26 c27 c28 c29 c30 c31 c32 c33 c34 c35 c36 c37 c38 c39 c40 : Value} (e : En.E) (g : Nat) (s u k : ByteArray) (w : World) (h3 : w.cell? ⟨g, 3, none⟩ = some (.int .u8 (e.slot : Int))) (hw8 : IntKind.u64.wrap (e.slot : Int) = (e.slot : Int))
   (hU : ∀ W, Calls Tryz.prog 146 #[.int .u64 (e.slot : Int), .int .i64 1] W fun r w' => r = .returned (.string u) ∧ Below W.heap.size W w')
   (hconv : ∀ W : World, Below w.heap.size w W → (convert 141 9 (.slice (some ⟨g, 4, none⟩) 8 8)).run Tryz.prog W = .ok (.string k) W)
   (ha : ∀ W : World, (Op.stringOp .add u k).run Tryz.prog W = .ok (.string (u ++ k)) W) (hb0 : ∀ W : World, (Op.stringOp .add s (u ++ k)).run Tryz.prog W = .ok (.string (s ++ (u ++ k))) W) (Q : Exit → Act → World → Prop)
   (h : ∀ (w' : World), Below w.heap.size w w' → Q .normal ⟨#[c0, .pointer (some ⟨g, 0, none⟩), c2, .string (s ++ (u ++ k)), c4, c5, c6, c7, c8, c9, c10, c11, c12, c13, c14, c15, c16, c17, c18, c19, c20, .string s, .pointer (some ⟨g, 3, none⟩), .int .u8 (e.slot : Int), .int .u64 (e.slot : Int), .string u, .pointer (some ⟨g, 4, none⟩), .slice (some ⟨g, 4, none⟩) 8 8, .string k, .string (u ++ k), .string (s ++ (u ++ k)), c31, c32, c33, c34, c35, c36, c37, c38, c39, c40], []⟩ w') :
   Code.wp Tryz.prog ewr5C Q ⟨#[c0, .pointer (some ⟨g, 0, none⟩), c2, .string s, c4, c5, c6, c7, c8, c9, c10, c11, c12, c13, c14, c15, c16, c17, c18, c19, c20, c21, c22, c23, c24, c25, c26, c27, c28, c29, c30, c31, c32, c33, c34, c35, c36, c37, c38, c39, c40], []⟩ w := by
  obtain ⟨L, hL⟩ : ∃ L : Nat → List Value × Nat, L = fun i => match i with  | _ => ([], 0) := ⟨_, rfl⟩
  obtain ⟨Sp, hSp⟩ : ∃ Sp : Nat → Value → World → Prop, Sp = fun i v w => ∃ r, v = .slice (some ⟨r, 0, none⟩) (L i).2 (L i).2 ∧ Lies w (some ⟨r, 0, none⟩) (L i).1 := ⟨_, rfl⟩
  rw [hL] at hSp
  conv => arg 2; whnf
  refine Reg.wp_region_inv (fun w' => Below w.heap.size w w') (fun x y => Below x.heap.size x y) (Reg.KnownI [some (.string s), some (.pointer (some ⟨g, 3, none⟩)), some (.int .u8 (e.slot : Int)), some (.int .u64 (e.slot : Int)), some (.string u), some (.pointer (some ⟨g, 4, none⟩)), some (.slice (some ⟨g, 4, none⟩) 8 8), some (.string k), some (.string (u ++ k)), some (.string (s ++ (u ++ k))), some (.string (s ++ (u ++ k)))] Sp) (by kernel_rfl) (by kernel_rfl) (Reg.knownI_mono ?mono) (Below.refl _ _).drew ?steps ?fin
  case mono =>
    intro i v w w' hs hb
    rw [hSp] at hs ⊢
    obtain ⟨r, hr, hl⟩ := hs
    exact ⟨r, hr, hl.below hb⟩
  case steps =>
    intro hB
    refine ⟨?_, ?_, ?_, ?_, ?_, ?_, ?_, ?_, ?_, ?_, ?_, trivial⟩
    · -- 0: Op.move (Operand.tmp 3)
      refine Reg.step_run hB (Reg.runs_none rfl) (fun a w1 hI hb hd => ?_)
      have e3 : a.eval (.tmp 3) = .string s := hb 3 (by kernel_rfl)
      exact Reg.run_value (Reg.run_move rfl e3) rfl (Below.refl _ _) hI
    · -- 1: Op.fieldAddr 62 (Operand.tmp 1) 3
      refine Reg.step_run hB (Reg.runs_none rfl) (fun a w1 hI hb hd => ?_)
      have e1 : a.eval (.tmp 1) = .pointer (some ⟨g, 0, none⟩) := hb 1 (by kernel_rfl)
      refine Reg.run_value (v := .pointer (some ⟨g, 3, none⟩)) ?_ rfl (Below.refl _ _) hI
      clear hb hd
      have hc := fun v => Reg.eval_const a v
      have hf := fun f => Reg.eval_func a f
      generalize a.eval = ρ at *
      simp [execOp, go_sem, *]
    · -- 2: Op.load 5 (Operand.tmp 22)
      refine Reg.step_run hB (Reg.runs_none rfl) (fun a w1 hI hb hd => ?_)
      have e22 : a.eval (.tmp 22) = .pointer (some ⟨g, 3, none⟩) := hd 1 22 (by kernel_rfl) (by kernel_rfl)
      have hl := later hI h3
      refine Reg.run_value (v := .int .u8 (e.slot : Int)) ?_ rfl (Below.refl _ _) hI
      clear hb hd
      have hc := fun v => Reg.eval_const a v
      have hf := fun f => Reg.eval_func a f
      generalize a.eval = ρ at *
      simp [execOp, go_sem, *]
    · -- 3: Op.convert 5 25 (Operand.tmp 23)
      refine Reg.step_run hB (Reg.runs_none rfl) (fun a w1 hI hb hd => ?_)
      have e23 : a.eval (.tmp 23) = .int .u8 (e.slot : Int) := hd 2 23 (by kernel_rfl) (by kernel_rfl)
      refine Reg.run_value (v := .int .u64 (e.slot : Int)) ?_ rfl (Below.refl _ _) hI
      clear hb hd
      have hc := fun v => Reg.eval_const a v
      have hf := fun f => Reg.eval_func a f
      generalize a.eval = ρ at *
      simp [execOp, go_sem, hw8, *]
    · -- 4: Op.call { callee := Callee.value (Operand.func 73), args := #[Operand.tmp 24, Operand.const (Value.i
      refine Reg.step_run hB (Reg.runs_none rfl) (fun a w1 hI hb hd => ?_)
      have e24 : a.eval (.tmp 24) = .int .u64 (e.slot : Int) := hd 3 24 (by kernel_rfl) (by kernel_rfl)
      refine Reg.run_call (f := 146) (args := #[.int .u64 (e.slot : Int), .int .i64 1]) ?_ (hU w1) (fun _ _ => rfl) (fun _ h => bnext hI h)
      clear hb hd
      have hc := fun v => Reg.eval_const a v
      have hf := fun f => Reg.eval_func a f
      generalize a.eval = ρ at *
      simp [go_sem, *]
    · -- 5: Op.fieldAddr 62 (Operand.tmp 1) 4
      refine Reg.step_run hB (Reg.runs_none rfl) (fun a w1 hI hb hd => ?_)
      have e1 : a.eval (.tmp 1) = .pointer (some ⟨g, 0, none⟩) := hb 1 (by kernel_rfl)
      refine Reg.run_value (v := .pointer (some ⟨g, 4, none⟩)) ?_ rfl (Below.refl _ _) hI
      clear hb hd
      have hc := fun v => Reg.eval_const a v
      have hf := fun f => Reg.eval_func a f
      generalize a.eval = ρ at *
      simp [execOp, go_sem, *]
    · -- 6: Op.slice 31 (Operand.tmp 26) none none none
      refine Reg.step_run hB (Reg.runs_none rfl) (fun a w1 hI hb hd => ?_)
      have e26 : a.eval (.tmp 26) = .pointer (some ⟨g, 4, none⟩) := hd 5 26 (by kernel_rfl) (by kernel_rfl)
      refine Reg.run_value (v := .slice (some ⟨g, 4, none⟩) 8 8) ?_ rfl (Below.refl _ _) hI
      clear hb hd
      have hc := fun v => Reg.eval_const a v
      have hf := fun f => Reg.eval_func a f
      generalize a.eval = ρ at *
      simp [execOp, go_sem, Tryz.underlying86, *]
    · -- 7: Op.convert 36 9 (Operand.tmp 27)
      refine Reg.step_run hB (Reg.runs_none rfl) (fun a w1 hI hb hd => ?_)
      have e27 : a.eval (.tmp 27) = .slice (some ⟨g, 4, none⟩) 8 8 := hd 6 27 (by kernel_rfl) (by kernel_rfl)
      have hcv := hconv w1 hI
      refine Reg.run_value (v := .string k) ?_ rfl (Below.refl _ _) hI
      clear hb hd
      have hc := fun v => Reg.eval_const a v
      have hf := fun f => Reg.eval_func a f
      generalize a.eval = ρ at *
      simp [execOp, go_sem, *]
    · -- 8: Op.binOp BinOp.add 9 (Operand.tmp 25) (Operand.tmp 28) 9
      refine Reg.step_run hB (Reg.runs_none rfl) (fun a w1 hI hb hd => ?_)
      have e25 : a.eval (.tmp 25) = .string u := hd 4 25 (by kernel_rfl) (by kernel_rfl)
      have e28 : a.eval (.tmp 28) = .string k := hd 7 28 (by kernel_rfl) (by kernel_rfl)
      have ha2 := ha w1
      refine Reg.run_value (v := .string (u ++ k)) ?_ rfl (Below.refl _ _) hI
      clear hb hd
      have hc := fun v => Reg.eval_const a v
      have hf := fun f => Reg.eval_func a f
      generalize a.eval = ρ at *
      simp [execOp, go_sem, *]
    · -- 9: Op.binOp BinOp.add 9 (Operand.tmp 21) (Operand.tmp 29) 9
      refine Reg.step_run hB (Reg.runs_none rfl) (fun a w1 hI hb hd => ?_)
      have e21 : a.eval (.tmp 21) = .string s := hd 0 21 (by kernel_rfl) (by kernel_rfl)
      have e29 : a.eval (.tmp 29) = .string (u ++ k) := hd 8 29 (by kernel_rfl) (by kernel_rfl)
      have ha2 := hb0 w1
      refine Reg.run_value (v := .string (s ++ (u ++ k))) ?_ rfl (Below.refl _ _) hI
      clear hb hd
      have hc := fun v => Reg.eval_const a v
      have hf := fun f => Reg.eval_func a f
      generalize a.eval = ρ at *
      simp [execOp, go_sem, *]
    · -- 10: Op.assign (Operand.tmp 30)
      refine Reg.step_run hB (Reg.runs_none rfl) (fun a w1 hI hb hd => ?_)
      have e30 : a.eval (.tmp 30) = .string (s ++ (u ++ k)) := hd 9 30 (by kernel_rfl) (by kernel_rfl)
      exact Reg.run_value (Reg.run_assign rfl e30) rfl (Below.refl _ _) hI
  case fin =>
    intro vals w' hI hg
    have g0 : vals 0 = .string s := hg 0 (by simp)
    have g1 : vals 1 = .pointer (some ⟨g, 3, none⟩) := hg 1 (by simp)
    have g2 : vals 2 = .int .u8 (e.slot : Int) := hg 2 (by simp)
    have g3 : vals 3 = .int .u64 (e.slot : Int) := hg 3 (by simp)
    have g4 : vals 4 = .string u := hg 4 (by simp)
    have g5 : vals 5 = .pointer (some ⟨g, 4, none⟩) := hg 5 (by simp)
    have g6 : vals 6 = .slice (some ⟨g, 4, none⟩) 8 8 := hg 6 (by simp)
    have g7 : vals 7 = .string k := hg 7 (by simp)
    have g8 : vals 8 = .string (u ++ k) := hg 8 (by simp)
    have g9 : vals 9 = .string (s ++ (u ++ k)) := hg 9 (by simp)
    have g10 : vals 10 = .string (s ++ (u ++ k)) := hg 10 (by simp)
    refine Reg.fin_of (y := #[c0, .pointer (some ⟨g, 0, none⟩), c2, vals 10, c4, c5, c6, c7, c8, c9, c10, c11, c12, c13, c14, c15, c16, c17, c18, c19, c20, vals 0, vals 1, vals 2, vals 3, vals 4, vals 5, vals 6, vals 7, vals 8, vals 9, c31, c32, c33, c34, c35, c36, c37, c38, c39, c40]) (by kernel_rfl) ?_
    rw [g0, g1, g2, g3, g4, g5, g6, g7, g8, g9, g10]
    exact h w' hI
end Go.Proofs.YtjhbpcecdhdnoaaGreatDoor
namespace Go.Proofs.YtjhbpcecdhdnoaaGreatDoor
open Go.RowKit
set_option maxRecDepth 100000 in
set_option maxHeartbeats 4000000 in
theorem write_any (e : En.E) (hf : En.Fits e) (hz : e.body.size ≤ 1000000) (w : World) : Calls Tryz.prog 200 #[.agg (entC e)] w (RetS (En.write e) w) := by
  have HR := Lib.hid (fun W => right_any e W)
  unfold RetTr entC at HR
  have HB := Lib.hid (fun W => hasB_any e.kind W)
  obtain ⟨u, hu⟩ : ∃ u : ByteArray, u = ⟨(Cm.one e.kind).toArray⟩ := ⟨_, rfl⟩
  obtain ⟨v, hv⟩ : ∃ v : ByteArray, v = ⟨(vs [e.idx, e.trm]).toArray⟩ := ⟨_, rfl⟩
  obtain ⟨us, hus⟩ : ∃ u : ByteArray, u = ⟨(Cm.one e.slot).toArray⟩ := ⟨_, rfl⟩
  obtain ⟨k, hk⟩ : ∃ k : ByteArray, k = ⟨e.tok.l.toArray⟩ := ⟨_, rfl⟩
  obtain ⟨b, hb⟩ : ∃ b : ByteArray, b = ⟨(Cm.txt e.body).toArray⟩ := ⟨_, rfl⟩
  have zu : u.size = 1 := by rw [hu]; rfl
  have zv : v.size ≤ 20 := by
    rw [hv, Lib.size_eq]
    have := vs_len [e.idx, e.trm] (fun n hn => by simp at hn; rcases hn with rfl | rfl; exact hf.idx; exact hf.trm)
    simpa using this
  have zs : us.size = 1 := by rw [hus]; rfl
  have zk : k.size = 8 := by rw [hk]; rfl
  have zb : b.size ≤ 1000010 := by
    rw [hb, Lib.size_eq]
    have h1 := grp_len e.body.size (by unfold Nm.top; omega)
    show (Cm.txt e.body).length ≤ _
    unfold Cm.txt row
    rw [List.length_append, ← Lib.size_eq]; omega
  have hU : ∀ W, Calls Tryz.prog 146 #[.int .u64 (e.kind : Int), .int .i64 1] W fun r w' => r = .returned (.string u) ∧ Below W.heap.size W w' := fun W => by
    have := U_any e.kind 1 W (by omega) (by omega)
    unfold RetS at this
    rw [one_wid _ hf.kind, ← hu] at this; exact this
  have hUs : ∀ W, Calls Tryz.prog 146 #[.int .u64 (e.slot : Int), .int .i64 1] W fun r w' => r = .returned (.string us) ∧ Below W.heap.size W w' := fun W => by
    have := U_any e.slot 1 W (by omega) (by omega)
    unfold RetS at this
    rw [one_wid _ hf.slot, ← hus] at this; exact this
  have hV : ∀ (W : World) (A : Option Addr), Lies W A (uc [e.idx, e.trm]) → Calls Tryz.prog 147 #[.slice A 2 2] W fun r w' => r = .returned (.string v) ∧ Below W.heap.size W w' := fun W A hA => by
    have := V_any [e.idx, e.trm] (fun n hn => by simp at hn; rcases hn with rfl | rfl; exact hf.idx; exact hf.trm) A 2 W hA (by simp)
    unfold RetS at this
    rw [← hv] at this; exact this
  have hS : ∀ (W : World) (A : Option Addr), Lies W A (sc [e.body]) → Calls Tryz.prog 241 #[.slice A 1 1] W fun r w' => r = .returned (.string b) ∧ Below W.heap.size W w' := fun W A hA => by
    have hsr : sr [e.body] = Cm.txt e.body := by simp [sr, Cm.txt]
    have := S_any [e.body] A 1 W hA (by simp) (by
      rw [hsr]
      have : b.size = (Cm.txt e.body).length := by rw [hb, Lib.size_eq]
      omega)
    unfold RetS at this
    rw [hsr, ← hb] at this; exact this
  have wk8 : IntKind.u64.wrap (e.kind : Int) = (e.kind : Int) := wrap_u64_nat _ (by have := hf.kind; unfold Nm.top; omega)
  have ws8 : IntKind.u64.wrap (e.slot : Int) = (e.slot : Int) := wrap_u64_nat _ (by have := hf.slot; unfold Nm.top; omega)
  have ha1 : ∀ W : World, (Op.stringOp .add u v).run Tryz.prog W = .ok (.string (u ++ v)) W := fun W => run_string_add_sum W _ _ (by omega)
  have ha2 : ∀ W : World, (Op.stringOp .add us k).run Tryz.prog W = .ok (.string (us ++ k)) W := fun W => run_string_add_sum W _ _ (by omega)
  have ha3 : ∀ W : World, (Op.stringOp .add (u ++ v) (us ++ k)).run Tryz.prog W = .ok (.string (u ++ v ++ (us ++ k))) W := fun W => run_string_add_sum W _ _ (by simp only [ByteArray.size_append]; omega)
  have ha4 : ∀ W : World, (Op.stringOp .add (u ++ v) b).run Tryz.prog W = .ok (.string (u ++ v ++ b)) W := fun W => run_string_add_sum W _ _ (by simp only [ByteArray.size_append]; omega)
  have ha5 : ∀ W : World, (Op.stringOp .add (u ++ v ++ (us ++ k)) b).run Tryz.prog W = .ok (.string (u ++ v ++ (us ++ k) ++ b)) W := fun W => run_string_add_sum W _ _ (by simp only [ByteArray.size_append]; omega)
  have hvs : vs [e.idx, e.trm] = Nm.grp e.idx ++ Nm.grp e.trm := by simp [vs]
  have hE3 : En.may e = true → e.kind = 3 → (⟨(En.write e).toArray⟩ : ByteArray) = u ++ v ++ (us ++ k) ++ b := fun hm h3 => by
    unfold En.write En.enc En.own En.bod
    rw [hm, if_pos rfl, if_pos h3, if_pos (by unfold En.hasB; omega), hu, hv, hus, hk, hb, hvs]
    simp [ByteArray.mk_append_mk]
  have hE2 : En.may e = true → e.kind ≠ 3 → En.hasB e.kind → (⟨(En.write e).toArray⟩ : ByteArray) = u ++ v ++ b := fun hm h3 hb2 => by
    unfold En.write En.enc En.own En.bod
    rw [hm, if_pos rfl, if_neg h3, if_pos hb2, hu, hv, hb, hvs]
    simp [ByteArray.mk_append_mk]
  have hE1 : En.may e = true → ¬ En.hasB e.kind → (⟨(En.write e).toArray⟩ : ByteArray) = u ++ v := fun hm h3 => by
    unfold En.write En.enc En.own En.bod
    rw [hm, if_pos rfl, if_neg (by unfold En.hasB at h3; omega), if_neg h3, hu, hv, hvs]
    simp [ByteArray.mk_append_mk]
  have HU := Lib.hid hU
  have HUs := Lib.hid hUs
  have HV := Lib.hid hV
  have HS := Lib.hid hS
  have A1 := Lib.hid ha1
  have A2 := Lib.hid ha2
  have A3 := Lib.hid ha3
  have Wk8 := Lib.hid wk8
  have Ws8 := Lib.hid ws8
  have HK := Lib.hid hk
  have F := entF e
  obtain ⟨X, hX⟩ : ∃ X, X = entC e := ⟨_, rfl⟩
  rw [← hX] at F ⊢
  have HX := Lib.hid hX
  obtain ⟨hx, _, x0, x1, x2, x3, x4, x5, x6, x7, x8, x9, x10, x11, x12⟩ := F
  clear hX hU hUs hV hS ha1 ha2 ha3 wk8 ws8 hk zu zv zs zk zb hu hv hus hb hvs hf hz
  rcases hm : En.may e with _ | _
  · have E : Hid (En.write e = []) := Lib.hid (by unfold En.write; rw [hm]; rfl)
    have HM := Lib.hid hm
    clear hm hE1 hE2 hE3
    go_enter Tryz.func200, Tryz.ntmps200
    go_wp2_with fail
    refine (HR.out _).mono ?_
    rw [HM.out]
    rintro r w1 ⟨rfl, hb1⟩
    go_wp2_with fail
    go_ret
    exact ⟨by rw [E.out]; rfl, bnext (bnew (Below.refl _ _) _) hb1⟩
  · skip
    replace hE1 := hE1 hm
    replace hE2 := hE2 hm
    replace hE3 := hE3 hm
    have HM := Lib.hid hm
    clear hm
    by_cases k3 : e.kind = 3
    · have q3 : ((e.kind : Int) == 3) = true := by simp; omega
      have HBv : Hid (decide (En.hasB e.kind) = true) := Lib.hid (by rw [decide_eq_true_iff]; unfold En.hasB; omega)
      have Hfin := Lib.hid (hE3 k3)
      clear hE1 hE2 hE3 k3 ha4
      go_enter Tryz.func200, Tryz.ntmps200
      go_wp2_with fail
      refine (HR.out _).mono ?_
      rw [HM.out]
      rintro r w1 ⟨rfl, hb1⟩
      go_upto_region 3 with (fail)
      refine forget (fun W => Below w.heap.size w W ∧ W.heap[w.heap.size]? = some (.cells X 88 (0, 0))) ⟨bnext (bnew (Below.refl _ _) _) hb1, (hb1.block _ (by simp)).trans (heap_alloc_new w _)⟩ ?_
      rintro W1 ⟨hbW, hrow⟩
      have HW1 := Lib.hid (And.intro hbW hrow)
      rw [HX.out] at hrow
      have EA := entAt hrow
      obtain ⟨g, hg⟩ : ∃ g, g = w.heap.size := ⟨_, rfl⟩
      have HG := Lib.hid hg
      rw [← hg] at EA ⊢
      clear hb1 hbW hrow hg
      refine ewr3 e g u v W1 EA.c0 EA.c1 EA.c2 Wk8.out HU.out HV.out A1.out _ ?_
      intro u1 W2 hb2
      have HB2 := Lib.hid hb2
      clear EA
      have h2' := HW1.out.2
      rw [HX.out] at h2'
      have EB := entAt h2'
      have d2 : W2.cell? ⟨g, 2, none⟩ = some (.int .u8 (e.kind : Int)) := later hb2 (by rw [HG.out]; exact EB.c2)
      clear h2' EB hb2
      go_upto_region 5 with (fail)
      have h2' := HW1.out.2
      rw [HX.out] at h2'
      have EB := entAt h2'
      rw [← HG.out] at EB
      have hb2 := HB2.out
      refine ewr5 e g (u ++ v) us k W2 (later hb2 EB.c3) Ws8.out HUs.out (fun W hbW => by
        rw [HK.out]
        have h := fun {p : Addr} {x : Value} (hc : W1.cell? p = some x) => later hbW (later hb2 hc)
        exact tok_text W g 4 e.tok (h EB.c4) (h EB.c5) (h EB.c6) (h EB.c7) (h EB.c8) (h EB.c9) (h EB.c10) (h EB.c11)) A2.out A3.out _ ?_
      intro W3 hb3
      have HB3 := Lib.hid (bnext hb2 hb3)
      have f2 := later (bnext hb2 hb3) EB.c2
      clear h2' EB hb2 hb3 d2
      go_wp2_with fail
      refine (HB.out _).mono ?_
      rw [HBv.out]
      rintro r w4 ⟨rfl, rfl⟩
      have h2' := HW1.out.2
      rw [HX.out] at h2'
      have EB := entAt h2'
      rw [← HG.out] at EB
      have f12 := later HB3.out EB.c12
      clear h2' EB
      go_wp2_with fail
      refine (HS.out _ _ (Lies.at_ _ [Value.string e.body] _ _ rfl)).mono ?_
      rintro r w5 ⟨rfl, hb5⟩
      go_wp2_with fail
      go_ret
      exact ⟨by rw [Hfin.out]; rfl, bnext HW1.out.1 (bnext (bnew HB3.out _) hb5)⟩
    have q3 : ((e.kind : Int) == 3) = false := by simp; omega
    by_cases kb : En.hasB e.kind
    · have HBv : Hid (decide (En.hasB e.kind) = true) := Lib.hid (decide_eq_true kb)
      have Hfin := Lib.hid (hE2 k3 kb)
      clear hE1 hE2 hE3 k3 kb ha5
      go_enter Tryz.func200, Tryz.ntmps200
      go_wp2_with fail
      refine (HR.out _).mono ?_
      rw [HM.out]
      rintro r w1 ⟨rfl, hb1⟩
      go_upto_region 3 with (fail)
      refine forget (fun W => Below w.heap.size w W ∧ W.heap[w.heap.size]? = some (.cells X 88 (0, 0))) ⟨bnext (bnew (Below.refl _ _) _) hb1, (hb1.block _ (by simp)).trans (heap_alloc_new w _)⟩ ?_
      rintro W1 ⟨hbW, hrow⟩
      have HW1 := Lib.hid (And.intro hbW hrow)
      rw [HX.out] at hrow
      have EA := entAt hrow
      obtain ⟨g, hg⟩ : ∃ g, g = w.heap.size := ⟨_, rfl⟩
      have HG := Lib.hid hg
      rw [← hg] at EA ⊢
      clear hb1 hbW hrow hg
      refine ewr3 e g u v W1 EA.c0 EA.c1 EA.c2 Wk8.out HU.out HV.out A1.out _ ?_
      intro u1 W2 hb2
      have HB2 := Lib.hid hb2
      clear EA
      have h2' := HW1.out.2
      rw [HX.out] at h2'
      have EB := entAt h2'
      have d2 : W2.cell? ⟨g, 2, none⟩ = some (.int .u8 (e.kind : Int)) := later hb2 (by rw [HG.out]; exact EB.c2)
      clear h2' EB hb2
      have HB3 := HB2
      go_wp2_with fail
      refine (HB.out _).mono ?_
      rw [HBv.out]
      rintro r w4 ⟨rfl, rfl⟩
      have h2' := HW1.out.2
      rw [HX.out] at h2'
      have EB := entAt h2'
      rw [← HG.out] at EB
      have f12 := later HB3.out EB.c12
      clear h2' EB
      go_wp2_with fail
      refine (HS.out _ _ (Lies.at_ _ [Value.string e.body] _ _ rfl)).mono ?_
      rintro r w5 ⟨rfl, hb5⟩
      go_wp2_with fail
      go_ret
      exact ⟨by rw [Hfin.out]; rfl, bnext HW1.out.1 (bnext (bnew HB3.out _) hb5)⟩
    · have HBv : Hid (decide (En.hasB e.kind) = false) := Lib.hid (decide_eq_false kb)
      have Hfin := Lib.hid (hE1 kb)
      clear hE1 hE2 hE3 k3 kb ha5 ha4
      go_enter Tryz.func200, Tryz.ntmps200
      go_wp2_with fail
      refine (HR.out _).mono ?_
      rw [HM.out]
      rintro r w1 ⟨rfl, hb1⟩
      go_upto_region 3 with (fail)
      refine forget (fun W => Below w.heap.size w W ∧ W.heap[w.heap.size]? = some (.cells X 88 (0, 0))) ⟨bnext (bnew (Below.refl _ _) _) hb1, (hb1.block _ (by simp)).trans (heap_alloc_new w _)⟩ ?_
      rintro W1 ⟨hbW, hrow⟩
      have HW1 := Lib.hid (And.intro hbW hrow)
      rw [HX.out] at hrow
      have EA := entAt hrow
      obtain ⟨g, hg⟩ : ∃ g, g = w.heap.size := ⟨_, rfl⟩
      have HG := Lib.hid hg
      rw [← hg] at EA ⊢
      clear hb1 hbW hrow hg
      refine ewr3 e g u v W1 EA.c0 EA.c1 EA.c2 Wk8.out HU.out HV.out A1.out _ ?_
      intro u1 W2 hb2
      have HB2 := Lib.hid hb2
      clear EA
      have h2' := HW1.out.2
      rw [HX.out] at h2'
      have EB := entAt h2'
      have d2 : W2.cell? ⟨g, 2, none⟩ = some (.int .u8 (e.kind : Int)) := later hb2 (by rw [HG.out]; exact EB.c2)
      clear h2' EB hb2
      have HB3 := HB2
      go_wp2_with fail
      refine (HB.out _).mono ?_
      rw [HBv.out]
      rintro r w4 ⟨rfl, rfl⟩
      go_wp2_with fail
      go_ret
      exact ⟨by rw [Hfin.out]; rfl, bnext HW1.out.1 HB3.out⟩
end Go.Proofs.YtjhbpcecdhdnoaaGreatDoor
