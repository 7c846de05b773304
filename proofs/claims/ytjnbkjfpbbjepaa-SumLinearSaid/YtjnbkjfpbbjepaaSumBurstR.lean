/-
  SumBursts' region 13, whose order is open.
-/
import Derived.Test.YtjnbkjfpbbjepaaSumAwake
import Derived.Test.YtjnbkjfpbbjepaaReg
namespace Go.Proofs.Ytjnbkjfpbbjepaa
open Go.RowKit
set_option linter.unusedVariables false
def findRegion (n : Nat) : Code → Option Code
  | .region k ops d => if k = n then some (.region k ops d) else none
  | .loop c => findRegion n c
  | .seq a b => match findRegion n a with
    | some c => some c
    | none => findRegion n b
  | .block _ c => findRegion n c
  | .scope c => findRegion n c
  | .cond _ a b => match findRegion n a with
    | some c => some c
    | none => findRegion n b
  | _ => none
noncomputable def rb13 : Code := ((Try.f6.body.bind (findRegion 13)).getD .skip)
/-- The texts that each call is handed. -/
def handed (s nb : ByteArray) (q i : Nat) : List ByteArray := match i with | 1 => [s] | 5 => [nb] | 20 => [s.extract 0 q, s.extract q s.size] | 23 => [s] | _ => []

set_option maxRecDepth 100000 in
set_option maxHeartbeats 4000000 in
theorem rb13_any {c1 c2 c3 c4 c5 c6 c7 c8 c11 c12 c14 c15 c16 c17 c18 c19 c20 c21 c22 c23 c24 c25 c26 c27 c28 c29 c30 c31 c32 c33 c34 c35 c36 c37 c38 c39 c40 c41 c42 c43 c44 c45 c46 c47 c48 c49 c50 c51 c52 c53 c54 c55 c56 c57 c58 c59 c60 c61 c62 c63 c64 c65 c66 c67 c68 c69 c70 c71 c72 c73 c74 c75 c76 c77 c78 c79 c80 c81 c82 c83 c84 c85 c86 c87 c88 c89 c90 c91 c92 c93 c94 c95 c96 c97 c98 c99 c100 c101 c102 : Value} (S : SumSays) (s nb : ByteArray) (g cap q zs zn : Nat) (b : Bool) (w : World) (hq : q < s.size) (hz : s.size ≤ 3000) (hT : Hid (TabAt w g))
   (hb1 : ((zs : Int) == (zn : Int)) = b) (hb2 : (nb.toList == s.toList) = b)
   (hconv : Hid (∀ W : World, Below w.heap.size w W → (convert 34 9 (.slice (some ⟨g + 1, 0, none⟩) s.size cap)).run Try.prog W = .ok (.string nb) W))
   (hs1 : Hid (∀ (W : World) (A : Option Addr), TabAt W g → Lies W A (sc [s]) → Calls Try.prog 9 #[.pointer (some ⟨g, 0, none⟩), .slice A 1 1] W fun e w' => e = .returned (.int .u32 (zs : Int)) ∧ Below W.heap.size W w'))
   (hs2 : Hid (∀ (W : World) (A : Option Addr), TabAt W g → Lies W A (sc [nb]) → Calls Try.prog 9 #[.pointer (some ⟨g, 0, none⟩), .slice A 1 1] W fun e w' => e = .returned (.int .u32 (zn : Int)) ∧ Below W.heap.size W w'))
   (hs3 : Hid (∀ (W : World) (A : Option Addr), TabAt W g → Lies W A (sc [s.extract 0 q, s.extract q s.size]) → Calls Try.prog 9 #[.pointer (some ⟨g, 0, none⟩), .slice A 2 2] W fun e w' => e = .returned (.int .u32 (zs : Int)) ∧ Below W.heap.size W w')) (Q : Exit → Act → World → Prop)
   (h : ∀ (u1 u5 u20 u23 : Value) (w' : World), Below w.heap.size w w' → Q .normal ⟨#[.string s, c1, c2, c3, c4, c5, c6, c7, .bool true, .pointer (some ⟨g, 0, none⟩), .slice (some ⟨g + 1, 0, none⟩) s.size cap, c11, c12, .int .i64 (q : Int), c14, c15, c16, c17, c18, c19, c20, c21, c22, c23, c24, c25, c26, c27, c28, c29, c30, c31, c32, c33, c34, c35, c36, c37, c38, c39, c40, c41, c42, c43, c44, c45, c46, c47, c48, c49, c50, c51, c52, c53, c54, c55, c56, c57, c58, c59, c60, c61, c62, c63, c64, c65, c66, c67, c68, c69, c70, c71, c72, .string s, u1, .int .u32 (zs : Int), .slice (some ⟨g + 1, 0, none⟩) s.size cap, .string nb, u5, .int .u32 (zn : Int), .bool b, .slice (some ⟨g + 1, 0, none⟩) s.size cap, .string nb, .string s, .bool b, .bool true, .bool true, .string s, .int .i64 (q : Int), .string (s.extract 0 q), .string s, .int .i64 (q : Int), .string (s.extract q s.size), u20, .int .u32 (zs : Int), .string s, u23, .int .u32 (zs : Int), .bool true, .bool true, .bool true, .bool true, .bool true], []⟩ w') :
   Code.wp Try.prog rb13 Q ⟨#[.string s, c1, c2, c3, c4, c5, c6, c7, c8, .pointer (some ⟨g, 0, none⟩), .slice (some ⟨g + 1, 0, none⟩) s.size cap, c11, c12, .int .i64 (q : Int), c14, c15, c16, c17, c18, c19, c20, c21, c22, c23, c24, c25, c26, c27, c28, c29, c30, c31, c32, c33, c34, c35, c36, c37, c38, c39, c40, c41, c42, c43, c44, c45, c46, c47, c48, c49, c50, c51, c52, c53, c54, c55, c56, c57, c58, c59, c60, c61, c62, c63, c64, c65, c66, c67, c68, c69, c70, c71, c72, c73, c74, c75, c76, c77, c78, c79, c80, c81, c82, c83, c84, c85, c86, c87, c88, c89, c90, c91, c92, c93, c94, c95, c96, c97, c98, c99, c100, c101, c102], []⟩ w := by
  obtain ⟨Sp, hSp⟩ : ∃ Sp : Nat → Value → World → Prop, Sp = fun i v w => ∃ r, v = .slice (some ⟨r, 0, none⟩) (handed s nb q i).length (handed s nb q i).length ∧ Lies w (some ⟨r, 0, none⟩) (sc (handed s nb q i)) := ⟨_, rfl⟩
  have i0 : (0 : Int) ≤ (q : Int) := by omega
  have i1 : (q : Int) ≤ (s.size : Int) := by omega
  conv => arg 2; whnf
  refine Reg.wp_region_inv (fun w' => Below w.heap.size w w') (fun x y => Below x.heap.size x y) (Reg.KnownI [some (.string s), none, some (.int .u32 (zs : Int)), some (.slice (some ⟨g + 1, 0, none⟩) s.size cap), some (.string nb), none, some (.int .u32 (zn : Int)), some (.bool b), some (.slice (some ⟨g + 1, 0, none⟩) s.size cap), some (.string nb), some (.string s), some (.bool b), some (.bool true), some (.bool true), some (.string s), some (.int .i64 (q : Int)), some (.string (s.extract 0 q)), some (.string s), some (.int .i64 (q : Int)), some (.string (s.extract q s.size)), none, some (.int .u32 (zs : Int)), some (.string s), none, some (.int .u32 (zs : Int)), some (.bool true), some (.bool true), some (.bool true), some (.bool true), some (.bool true), some (.bool true)] Sp) (by kernel_rfl) (by kernel_rfl) (Reg.knownI_mono ?mono) (Below.refl _ _).drew ?steps ?fin
  case mono =>
    intro i v w w' hs hb
    rw [hSp] at hs ⊢
    obtain ⟨r, hr, hl⟩ := hs
    exact ⟨r, hr, hl.below hb⟩
  case steps =>
    intro hB
    refine ⟨?_, ?_, ?_, ?_, ?_, ?_, ?_, ?_, ?_, ?_, ?_, ?_, ?_, ?_, ?_, ?_, ?_, ?_, ?_, ?_, ?_, ?_, ?_, ?_, ?_, ?_, ?_, ?_, ?_, ?_, ?_, trivial⟩
    · -- 0: Op.move (Operand.tmp 0)
      refine Reg.step_run hB (Reg.runs_none rfl) (fun a w1 hI hb hd => ?_)
      have e0 : a.eval (.tmp 0) = .string s := hb 0 (by kernel_rfl)
      exact Reg.run_value (Reg.run_move rfl e0) rfl (Below.refl _ _) hI
    · -- 1: Op.buildSlice 30 1 #[(0, Operand.tmp 73)]
      refine Reg.step_run hB (Reg.runs_none rfl) (fun a w1 hI hb hd => ?_)
      have e73 : a.eval (.tmp 73) = .string s := hd 0 73 (by kernel_rfl) (by kernel_rfl)
      refine Reg.run_made (v := .slice (some ⟨w1.heap.size, 0, none⟩) 1 1) (w' := w1.alloc (.cells #[.string (s)] 9)) ?_ (show Sp 1 _ _ by rw [hSp]; exact ⟨_, rfl, Lies.new _ (sc [s]) _⟩) (bnew (Below.refl _ _) _) (bnew hI _)
      clear hb hd
      have hc := fun v => Reg.eval_const a v
      have hf := fun f => Reg.eval_func a f
      generalize a.eval = ρ at *
      simp [execOp, go_sem, *]
    · -- 2: Op.call { callee := Callee.value (Operand.func 9), args := #[Operand.tmp 9, Operand.tmp 74], argType
      refine Reg.step_run hB (Reg.runs_none rfl) (fun a w1 hI hb hd => ?_)
      have e9 : a.eval (.tmp 9) = .pointer (some ⟨g, 0, none⟩) := hb 9 (by kernel_rfl)
      have e74 : Sp 1 (a.eval (.tmp 74)) w1 := hd 1 74 (by kernel_rfl) (by kernel_rfl)
      rw [hSp] at e74
      obtain ⟨r, hr, hl⟩ := e74
      replace hr : a.eval (.tmp 74) = .slice (some ⟨r, 0, none⟩) 1 1 := hr
      refine Reg.run_call (f := 9) (args := #[.pointer (some ⟨g, 0, none⟩), .slice (some ⟨r, 0, none⟩) 1 1]) ?_ (hs1.out w1 _ (hT.out.below hI) hl) (fun _ _ => rfl) (fun _ h => bnext hI h)
      clear hb hd
      have hc := fun v => Reg.eval_const a v
      have hf := fun f => Reg.eval_func a f
      generalize a.eval = ρ at *
      simp [go_sem, *]
    · -- 3: Op.move (Operand.tmp 10)
      refine Reg.step_run hB (Reg.runs_none rfl) (fun a w1 hI hb hd => ?_)
      have e10 : a.eval (.tmp 10) = .slice (some ⟨g + 1, 0, none⟩) s.size cap := hb 10 (by kernel_rfl)
      exact Reg.run_value (Reg.run_move rfl e10) rfl (Below.refl _ _) hI
    · -- 4: Op.convert 34 9 (Operand.tmp 76)
      refine Reg.step_run hB (Reg.runs_none rfl) (fun a w1 hI hb hd => ?_)
      have e76 : a.eval (.tmp 76) = .slice (some ⟨g + 1, 0, none⟩) s.size cap := hd 3 76 (by kernel_rfl) (by kernel_rfl)
      refine Reg.run_value (v := .string nb) ?_ rfl (Below.refl _ _) hI
      have hcv := hconv.out w1 hI
      clear hb hd
      have hc := fun v => Reg.eval_const a v
      have hf := fun f => Reg.eval_func a f
      generalize a.eval = ρ at *
      simp [execOp, go_sem, *]
    · -- 5: Op.buildSlice 30 1 #[(0, Operand.tmp 77)]
      refine Reg.step_run hB (Reg.runs_none rfl) (fun a w1 hI hb hd => ?_)
      have e77 : a.eval (.tmp 77) = .string nb := hd 4 77 (by kernel_rfl) (by kernel_rfl)
      refine Reg.run_made (v := .slice (some ⟨w1.heap.size, 0, none⟩) 1 1) (w' := w1.alloc (.cells #[.string (nb)] 9)) ?_ (show Sp 5 _ _ by rw [hSp]; exact ⟨_, rfl, Lies.new _ (sc [nb]) _⟩) (bnew (Below.refl _ _) _) (bnew hI _)
      clear hb hd
      have hc := fun v => Reg.eval_const a v
      have hf := fun f => Reg.eval_func a f
      generalize a.eval = ρ at *
      simp [execOp, go_sem, *]
    · -- 6: Op.call { callee := Callee.value (Operand.func 9), args := #[Operand.tmp 9, Operand.tmp 78], argType
      refine Reg.step_run hB (Reg.runs_none rfl) (fun a w1 hI hb hd => ?_)
      have e9 : a.eval (.tmp 9) = .pointer (some ⟨g, 0, none⟩) := hb 9 (by kernel_rfl)
      have e78 : Sp 5 (a.eval (.tmp 78)) w1 := hd 5 78 (by kernel_rfl) (by kernel_rfl)
      rw [hSp] at e78
      obtain ⟨r, hr, hl⟩ := e78
      replace hr : a.eval (.tmp 78) = .slice (some ⟨r, 0, none⟩) 1 1 := hr
      refine Reg.run_call (f := 9) (args := #[.pointer (some ⟨g, 0, none⟩), .slice (some ⟨r, 0, none⟩) 1 1]) ?_ (hs2.out w1 _ (hT.out.below hI) hl) (fun _ _ => rfl) (fun _ h => bnext hI h)
      clear hb hd
      have hc := fun v => Reg.eval_const a v
      have hf := fun f => Reg.eval_func a f
      generalize a.eval = ρ at *
      simp [go_sem, *]
    · -- 7: Op.binOp BinOp.eql 22 (Operand.tmp 75) (Operand.tmp 79) 22
      refine Reg.step_run hB (Reg.runs_none rfl) (fun a w1 hI hb hd => ?_)
      have e75 : a.eval (.tmp 75) = .int .u32 (zs : Int) := hd 2 75 (by kernel_rfl) (by kernel_rfl)
      have e79 : a.eval (.tmp 79) = .int .u32 (zn : Int) := hd 6 79 (by kernel_rfl) (by kernel_rfl)
      refine Reg.run_value (v := .bool b) ?_ rfl (Below.refl _ _) hI
      clear hb hd
      have hc := fun v => Reg.eval_const a v
      have hf := fun f => Reg.eval_func a f
      generalize a.eval = ρ at *
      simp [execOp, go_sem, *]
    · -- 8: Op.move (Operand.tmp 10)
      refine Reg.step_run hB (Reg.runs_none rfl) (fun a w1 hI hb hd => ?_)
      have e10 : a.eval (.tmp 10) = .slice (some ⟨g + 1, 0, none⟩) s.size cap := hb 10 (by kernel_rfl)
      exact Reg.run_value (Reg.run_move rfl e10) rfl (Below.refl _ _) hI
    · -- 9: Op.convert 34 9 (Operand.tmp 81)
      refine Reg.step_run hB (Reg.runs_none rfl) (fun a w1 hI hb hd => ?_)
      have e81 : a.eval (.tmp 81) = .slice (some ⟨g + 1, 0, none⟩) s.size cap := hd 8 81 (by kernel_rfl) (by kernel_rfl)
      refine Reg.run_value (v := .string nb) ?_ rfl (Below.refl _ _) hI
      have hcv := hconv.out w1 hI
      clear hb hd
      have hc := fun v => Reg.eval_const a v
      have hf := fun f => Reg.eval_func a f
      generalize a.eval = ρ at *
      simp [execOp, go_sem, *]
    · -- 10: Op.move (Operand.tmp 0)
      refine Reg.step_run hB (Reg.runs_none rfl) (fun a w1 hI hb hd => ?_)
      have e0 : a.eval (.tmp 0) = .string s := hb 0 (by kernel_rfl)
      exact Reg.run_value (Reg.run_move rfl e0) rfl (Below.refl _ _) hI
    · -- 11: Op.binOp BinOp.eql 9 (Operand.tmp 82) (Operand.tmp 83) 9
      refine Reg.step_run hB (Reg.runs_none rfl) (fun a w1 hI hb hd => ?_)
      have e82 : a.eval (.tmp 82) = .string nb := hd 9 82 (by kernel_rfl) (by kernel_rfl)
      have e83 : a.eval (.tmp 83) = .string s := hd 10 83 (by kernel_rfl) (by kernel_rfl)
      refine Reg.run_value (v := .bool b) ?_ rfl (Below.refl _ _) hI
      clear hb hd
      have hc := fun v => Reg.eval_const a v
      have hf := fun f => Reg.eval_func a f
      generalize a.eval = ρ at *
      simp [execOp, go_sem, *]
    · -- 12: Op.binOp BinOp.eql 4 (Operand.tmp 80) (Operand.tmp 84) 4
      refine Reg.step_run hB (Reg.runs_none rfl) (fun a w1 hI hb hd => ?_)
      have e80 : a.eval (.tmp 80) = .bool b := hd 7 80 (by kernel_rfl) (by kernel_rfl)
      have e84 : a.eval (.tmp 84) = .bool b := hd 11 84 (by kernel_rfl) (by kernel_rfl)
      refine Reg.run_value (v := .bool true) ?_ rfl (Below.refl _ _) hI
      clear hb hd
      have hc := fun v => Reg.eval_const a v
      have hf := fun f => Reg.eval_func a f
      generalize a.eval = ρ at *
      simp [execOp, go_sem, *]
    · -- 13: Op.move (Operand.tmp 85)
      refine Reg.step_run hB (Reg.runs_none rfl) (fun a w1 hI hb hd => ?_)
      have e85 : a.eval (.tmp 85) = .bool true := hd 12 85 (by kernel_rfl) (by kernel_rfl)
      exact Reg.run_value (Reg.run_move rfl e85) rfl (Below.refl _ _) hI
    · -- 14: Op.move (Operand.tmp 0)
      refine Reg.step_run hB (Reg.runs_some (d := 86) rfl (by kernel_rfl) (by kernel_rfl) (fun _ _ h => h)) (fun a w1 hI hb hd => ?_)
      have e0 : a.eval (.tmp 0) = .string s := hb 0 (by kernel_rfl)
      exact Reg.run_value (Reg.run_move rfl e0) rfl (Below.refl _ _) hI
    · -- 15: Op.move (Operand.tmp 13)
      refine Reg.step_run hB (Reg.runs_some (d := 86) rfl (by kernel_rfl) (by kernel_rfl) (fun _ _ h => h)) (fun a w1 hI hb hd => ?_)
      have e13 : a.eval (.tmp 13) = .int .i64 (q : Int) := hb 13 (by kernel_rfl)
      exact Reg.run_value (Reg.run_move rfl e13) rfl (Below.refl _ _) hI
    · -- 16: Op.slice 9 (Operand.tmp 87) none (some (Operand.tmp 88)) none
      refine Reg.step_run hB (Reg.runs_some (d := 86) rfl (by kernel_rfl) (by kernel_rfl) (fun _ _ h => h)) (fun a w1 hI hb hd => ?_)
      have e87 : a.eval (.tmp 87) = .string s := hd 14 87 (by kernel_rfl) (by kernel_rfl)
      have e88 : a.eval (.tmp 88) = .int .i64 (q : Int) := hd 15 88 (by kernel_rfl) (by kernel_rfl)
      refine Reg.run_value (v := .string (s.extract 0 q)) ?_ rfl (Below.refl _ _) hI
      clear hb hd
      have hc := fun v => Reg.eval_const a v
      have hf := fun f => Reg.eval_func a f
      generalize a.eval = ρ at *
      simp [execOp, go_sem, *]
    · -- 17: Op.move (Operand.tmp 0)
      refine Reg.step_run hB (Reg.runs_some (d := 86) rfl (by kernel_rfl) (by kernel_rfl) (fun _ _ h => h)) (fun a w1 hI hb hd => ?_)
      have e0 : a.eval (.tmp 0) = .string s := hb 0 (by kernel_rfl)
      exact Reg.run_value (Reg.run_move rfl e0) rfl (Below.refl _ _) hI
    · -- 18: Op.move (Operand.tmp 13)
      refine Reg.step_run hB (Reg.runs_some (d := 86) rfl (by kernel_rfl) (by kernel_rfl) (fun _ _ h => h)) (fun a w1 hI hb hd => ?_)
      have e13 : a.eval (.tmp 13) = .int .i64 (q : Int) := hb 13 (by kernel_rfl)
      exact Reg.run_value (Reg.run_move rfl e13) rfl (Below.refl _ _) hI
    · -- 19: Op.slice 9 (Operand.tmp 90) (some (Operand.tmp 91)) none none
      refine Reg.step_run hB (Reg.runs_some (d := 86) rfl (by kernel_rfl) (by kernel_rfl) (fun _ _ h => h)) (fun a w1 hI hb hd => ?_)
      have e90 : a.eval (.tmp 90) = .string s := hd 17 90 (by kernel_rfl) (by kernel_rfl)
      have e91 : a.eval (.tmp 91) = .int .i64 (q : Int) := hd 18 91 (by kernel_rfl) (by kernel_rfl)
      refine Reg.run_value (v := .string (s.extract q s.size)) ?_ rfl (Below.refl _ _) hI
      clear hb hd
      have hc := fun v => Reg.eval_const a v
      have hf := fun f => Reg.eval_func a f
      generalize a.eval = ρ at *
      simp [execOp, go_sem, *]
    · -- 20: Op.buildSlice 30 2 #[(0, Operand.tmp 89), (1, Operand.tmp 92)]
      refine Reg.step_run hB (Reg.runs_some (d := 86) rfl (by kernel_rfl) (by kernel_rfl) (fun _ _ h => h)) (fun a w1 hI hb hd => ?_)
      have e89 : a.eval (.tmp 89) = .string (s.extract 0 q) := hd 16 89 (by kernel_rfl) (by kernel_rfl)
      have e92 : a.eval (.tmp 92) = .string (s.extract q s.size) := hd 19 92 (by kernel_rfl) (by kernel_rfl)
      refine Reg.run_made (v := .slice (some ⟨w1.heap.size, 0, none⟩) 2 2) (w' := w1.alloc (.cells #[.string (s.extract 0 q), .string (s.extract q s.size)] 9)) ?_ (show Sp 20 _ _ by rw [hSp]; exact ⟨_, rfl, Lies.new _ (sc [s.extract 0 q, s.extract q s.size]) _⟩) (bnew (Below.refl _ _) _) (bnew hI _)
      clear hb hd
      have hc := fun v => Reg.eval_const a v
      have hf := fun f => Reg.eval_func a f
      generalize a.eval = ρ at *
      simp [execOp, go_sem, *]
    · -- 21: Op.call { callee := Callee.value (Operand.func 9), args := #[Operand.tmp 9, Operand.tmp 93], argType
      refine Reg.step_run hB (Reg.runs_some (d := 86) rfl (by kernel_rfl) (by kernel_rfl) (fun _ _ h => h)) (fun a w1 hI hb hd => ?_)
      have e9 : a.eval (.tmp 9) = .pointer (some ⟨g, 0, none⟩) := hb 9 (by kernel_rfl)
      have e93 : Sp 20 (a.eval (.tmp 93)) w1 := hd 20 93 (by kernel_rfl) (by kernel_rfl)
      rw [hSp] at e93
      obtain ⟨r, hr, hl⟩ := e93
      replace hr : a.eval (.tmp 93) = .slice (some ⟨r, 0, none⟩) 2 2 := hr
      refine Reg.run_call (f := 9) (args := #[.pointer (some ⟨g, 0, none⟩), .slice (some ⟨r, 0, none⟩) 2 2]) ?_ (hs3.out w1 _ (hT.out.below hI) hl) (fun _ _ => rfl) (fun _ h => bnext hI h)
      clear hb hd
      have hc := fun v => Reg.eval_const a v
      have hf := fun f => Reg.eval_func a f
      generalize a.eval = ρ at *
      simp [go_sem, *]
    · -- 22: Op.move (Operand.tmp 0)
      refine Reg.step_run hB (Reg.runs_some (d := 86) rfl (by kernel_rfl) (by kernel_rfl) (fun _ _ h => h)) (fun a w1 hI hb hd => ?_)
      have e0 : a.eval (.tmp 0) = .string s := hb 0 (by kernel_rfl)
      exact Reg.run_value (Reg.run_move rfl e0) rfl (Below.refl _ _) hI
    · -- 23: Op.buildSlice 30 1 #[(0, Operand.tmp 95)]
      refine Reg.step_run hB (Reg.runs_some (d := 86) rfl (by kernel_rfl) (by kernel_rfl) (fun _ _ h => h)) (fun a w1 hI hb hd => ?_)
      have e95 : a.eval (.tmp 95) = .string s := hd 22 95 (by kernel_rfl) (by kernel_rfl)
      refine Reg.run_made (v := .slice (some ⟨w1.heap.size, 0, none⟩) 1 1) (w' := w1.alloc (.cells #[.string (s)] 9)) ?_ (show Sp 23 _ _ by rw [hSp]; exact ⟨_, rfl, Lies.new _ (sc [s]) _⟩) (bnew (Below.refl _ _) _) (bnew hI _)
      clear hb hd
      have hc := fun v => Reg.eval_const a v
      have hf := fun f => Reg.eval_func a f
      generalize a.eval = ρ at *
      simp [execOp, go_sem, *]
    · -- 24: Op.call { callee := Callee.value (Operand.func 9), args := #[Operand.tmp 9, Operand.tmp 96], argType
      refine Reg.step_run hB (Reg.runs_some (d := 86) rfl (by kernel_rfl) (by kernel_rfl) (fun _ _ h => h)) (fun a w1 hI hb hd => ?_)
      have e9 : a.eval (.tmp 9) = .pointer (some ⟨g, 0, none⟩) := hb 9 (by kernel_rfl)
      have e96 : Sp 23 (a.eval (.tmp 96)) w1 := hd 23 96 (by kernel_rfl) (by kernel_rfl)
      rw [hSp] at e96
      obtain ⟨r, hr, hl⟩ := e96
      replace hr : a.eval (.tmp 96) = .slice (some ⟨r, 0, none⟩) 1 1 := hr
      refine Reg.run_call (f := 9) (args := #[.pointer (some ⟨g, 0, none⟩), .slice (some ⟨r, 0, none⟩) 1 1]) ?_ (hs1.out w1 _ (hT.out.below hI) hl) (fun _ _ => rfl) (fun _ h => bnext hI h)
      clear hb hd
      have hc := fun v => Reg.eval_const a v
      have hf := fun f => Reg.eval_func a f
      generalize a.eval = ρ at *
      simp [go_sem, *]
    · -- 25: Op.binOp BinOp.eql 22 (Operand.tmp 94) (Operand.tmp 97) 22
      refine Reg.step_run hB (Reg.runs_some (d := 86) rfl (by kernel_rfl) (by kernel_rfl) (fun _ _ h => h)) (fun a w1 hI hb hd => ?_)
      have e94 : a.eval (.tmp 94) = .int .u32 (zs : Int) := hd 21 94 (by kernel_rfl) (by kernel_rfl)
      have e97 : a.eval (.tmp 97) = .int .u32 (zs : Int) := hd 24 97 (by kernel_rfl) (by kernel_rfl)
      refine Reg.run_value (v := .bool true) ?_ rfl (Below.refl _ _) hI
      clear hb hd
      have hc := fun v => Reg.eval_const a v
      have hf := fun f => Reg.eval_func a f
      generalize a.eval = ρ at *
      simp [execOp, go_sem, *]
    · -- 26: Op.pick (Operand.tmp 86) (Operand.tmp 98) (Operand.const (Value.bool false))
      refine Reg.step_run hB (Reg.runs_none rfl) (fun a w1 hI hb hd => ?_)
      have e86 : a.eval (.tmp 86) = .bool true := hd 13 86 (by kernel_rfl) (by kernel_rfl)
      have e98 : a.eval (.tmp 98) = .bool true := hd 25 98 (by kernel_rfl) (by kernel_rfl)
      refine Reg.run_value (v := .bool true) ?_ rfl (Below.refl _ _) hI
      clear hb hd
      have hc := fun v => Reg.eval_const a v
      have hf := fun f => Reg.eval_func a f
      generalize a.eval = ρ at *
      simp [execOp, go_sem, *]
    · -- 27: Op.move (Operand.tmp 99)
      refine Reg.step_run hB (Reg.runs_none rfl) (fun a w1 hI hb hd => ?_)
      have e99 : a.eval (.tmp 99) = .bool true := hd 26 99 (by kernel_rfl) (by kernel_rfl)
      exact Reg.run_value (Reg.run_move rfl e99) rfl (Below.refl _ _) hI
    · -- 28: Op.call { callee := Callee.value (Operand.func 10), args := #[], argTypes := #[] }
      refine Reg.step_run hB (Reg.runs_some (d := 100) rfl (by kernel_rfl) (by kernel_rfl) (fun _ _ h => h)) (fun a w1 hI hb hd => ?_)
      refine Reg.run_call (f := 10) (args := #[]) ?_ (sumAwake_any S w1) (fun _ _ => rfl) (fun _ h => bnext hI h)
      clear hb hd
      have hc := fun v => Reg.eval_const a v
      have hf := fun f => Reg.eval_func a f
      generalize a.eval = ρ at *
      simp [go_sem, *]
    · -- 29: Op.pick (Operand.tmp 100) (Operand.tmp 101) (Operand.const (Value.bool false))
      refine Reg.step_run hB (Reg.runs_none rfl) (fun a w1 hI hb hd => ?_)
      have e100 : a.eval (.tmp 100) = .bool true := hd 27 100 (by kernel_rfl) (by kernel_rfl)
      have e101 : a.eval (.tmp 101) = .bool true := hd 28 101 (by kernel_rfl) (by kernel_rfl)
      refine Reg.run_value (v := .bool true) ?_ rfl (Below.refl _ _) hI
      clear hb hd
      have hc := fun v => Reg.eval_const a v
      have hf := fun f => Reg.eval_func a f
      generalize a.eval = ρ at *
      simp [execOp, go_sem, *]
    · -- 30: Op.assign (Operand.tmp 102)
      refine Reg.step_run hB (Reg.runs_none rfl) (fun a w1 hI hb hd => ?_)
      have e102 : a.eval (.tmp 102) = .bool true := hd 29 102 (by kernel_rfl) (by kernel_rfl)
      exact Reg.run_value (Reg.run_assign rfl e102) rfl (Below.refl _ _) hI
  case fin =>
    intro vals w' hI hg
    have g0 : vals 0 = .string s := hg 0 (by simp)
    have g2 : vals 2 = .int .u32 (zs : Int) := hg 2 (by simp)
    have g3 : vals 3 = .slice (some ⟨g + 1, 0, none⟩) s.size cap := hg 3 (by simp)
    have g4 : vals 4 = .string nb := hg 4 (by simp)
    have g6 : vals 6 = .int .u32 (zn : Int) := hg 6 (by simp)
    have g7 : vals 7 = .bool b := hg 7 (by simp)
    have g8 : vals 8 = .slice (some ⟨g + 1, 0, none⟩) s.size cap := hg 8 (by simp)
    have g9 : vals 9 = .string nb := hg 9 (by simp)
    have g10 : vals 10 = .string s := hg 10 (by simp)
    have g11 : vals 11 = .bool b := hg 11 (by simp)
    have g12 : vals 12 = .bool true := hg 12 (by simp)
    have g13 : vals 13 = .bool true := hg 13 (by simp)
    have g14 : vals 14 = .string s := hg 14 (by simp)
    have g15 : vals 15 = .int .i64 (q : Int) := hg 15 (by simp)
    have g16 : vals 16 = .string (s.extract 0 q) := hg 16 (by simp)
    have g17 : vals 17 = .string s := hg 17 (by simp)
    have g18 : vals 18 = .int .i64 (q : Int) := hg 18 (by simp)
    have g19 : vals 19 = .string (s.extract q s.size) := hg 19 (by simp)
    have g21 : vals 21 = .int .u32 (zs : Int) := hg 21 (by simp)
    have g22 : vals 22 = .string s := hg 22 (by simp)
    have g24 : vals 24 = .int .u32 (zs : Int) := hg 24 (by simp)
    have g25 : vals 25 = .bool true := hg 25 (by simp)
    have g26 : vals 26 = .bool true := hg 26 (by simp)
    have g27 : vals 27 = .bool true := hg 27 (by simp)
    have g28 : vals 28 = .bool true := hg 28 (by simp)
    have g29 : vals 29 = .bool true := hg 29 (by simp)
    have g30 : vals 30 = .bool true := hg 30 (by simp)
    refine Reg.fin_of (y := #[.string s, c1, c2, c3, c4, c5, c6, c7, vals 30, .pointer (some ⟨g, 0, none⟩), .slice (some ⟨g + 1, 0, none⟩) s.size cap, c11, c12, .int .i64 (q : Int), c14, c15, c16, c17, c18, c19, c20, c21, c22, c23, c24, c25, c26, c27, c28, c29, c30, c31, c32, c33, c34, c35, c36, c37, c38, c39, c40, c41, c42, c43, c44, c45, c46, c47, c48, c49, c50, c51, c52, c53, c54, c55, c56, c57, c58, c59, c60, c61, c62, c63, c64, c65, c66, c67, c68, c69, c70, c71, c72, vals 0, vals 1, vals 2, vals 3, vals 4, vals 5, vals 6, vals 7, vals 8, vals 9, vals 10, vals 11, vals 12, vals 13, vals 14, vals 15, vals 16, vals 17, vals 18, vals 19, vals 20, vals 21, vals 22, vals 23, vals 24, vals 25, vals 26, vals 27, vals 28, vals 29]) (by kernel_rfl) ?_
    rw [g0, g2, g3, g4, g6, g7, g8, g9, g10, g11, g12, g13, g14, g15, g16, g17, g18, g19, g21, g22, g24, g25, g26, g27, g28, g29, g30]
    exact h (vals 1) (vals 5) (vals 20) (vals 23) w' hI
end Go.Proofs.Ytjnbkjfpbbjepaa
