/-
  A file's twin: the region whose order is open. WRITTEN BY wip/tools/gen_dmtwin.py.
-/
import Derived.Test.YtjmnoogaffjdiaaRDmAdd
import Derived.Test.YtjmnoogaffjdiaaRReg
set_option linter.unusedSimpArgs false
set_option linter.unusedVariables false
namespace Go.Proofs.Ytjmnoogaffjdiaa
open Go.RowKit
set_option linter.unusedVariables false
def TwC (B : Nat) (h : Hm) (v : Value) (w : World) : Prop := w.ownsRow B 5 1 v (cb h.f).size (Lib.strCells (cb h.f))
def TwU (B : Nat) (h : Hm) (v : Value) (w : World) : Prop := w.ownsRow B 3 1 v (Dk.starts h.f).length (ic (Dk.starts h.f))
def TwA (B : Nat) (h : Hm) (v : Value) (w : World) : Prop := ∃ A c A' c', v = .agg #[.slice A (cb h.f).size c, .int .i64 (h.f.syn : Int), .slice A' (Dk.starts h.f).length c', .bool h.f.cut] ∧ TwC B h (.slice A (cb h.f).size c) w ∧ TwU B h (.slice A' (Dk.starts h.f).length c') w
def TwB (B : Nat) (h : Hm) (v : Value) (w : World) : Prop := ∃ g A c A' c', v = .pointer (some ⟨g, 0, none⟩) ∧ w.heap[g]? = some (.cells #[.slice A (cb h.f).size c, .int .i64 (h.f.syn : Int), .slice A' (Dk.starts h.f).length c', .bool h.f.cut] 69 (0, 0)) ∧ B ≤ g ∧ TwC B h (.slice A (cb h.f).size c) w ∧ TwU B h (.slice A' (Dk.starts h.f).length c') w
theorem TwC.below {B : Nat} {h : Hm} {v : Value} {w w' : World} (t : TwC B h v w) (hb : Below w.heap.size w w') : TwC B h v w' := own_kept t fun k hk => hb.block k (own_lt t hk).1
theorem TwU.below {B : Nat} {h : Hm} {v : Value} {w w' : World} (t : TwU B h v w) (hb : Below w.heap.size w w') : TwU B h v w' := own_kept t fun k hk => hb.block k (own_lt t hk).1
theorem TwA.below {B : Nat} {h : Hm} {v : Value} {w w' : World} (t : TwA B h v w) (hb : Below w.heap.size w w') : TwA B h v w' := by
  obtain ⟨A, c, A', c', h1, h2, h3⟩ := t
  exact ⟨A, c, A', c', h1, h2.below hb, h3.below hb⟩
theorem TwB.below {B : Nat} {h : Hm} {v : Value} {w w' : World} (t : TwB B h v w) (hb : Below w.heap.size w w') : TwB B h v w' := by
  obtain ⟨g, A, c, A', c', h1, h2, h3, h4, h5⟩ := t
  exact ⟨g, A, c, A', c', h1, (hb.block g (Array.getElem?_eq_some_iff.1 h2).1).trans h2, h3, h4.below hb, h5.below hb⟩
def TwG (B : Nat) (h : Hm) (i : Nat) (v : Value) (w : World) : Prop := match i with | 4 => TwC B h v w | 13 => TwU B h v w | 18 => TwA B h v w | _ => TwB B h v w
theorem TwG.below {B : Nat} {h : Hm} {i : Nat} {v : Value} {w w' : World} (t : TwG B h i v w) (hb : Below w.heap.size w w') : TwG B h i v w' := by
  unfold TwG at t ⊢
  split at t
  · exact TwC.below t hb
  · exact TwU.below t hb
  · exact TwA.below t hb
  · exact TwB.below t hb
noncomputable def ftwC : Code := ((Try.f52.body.bind (Reg.findRegion 1)).getD .skip)
set_option maxRecDepth 100000 in
set_option maxHeartbeats 4000000 in
theorem ftw {c1 c2 c3 c4 c5 c6 c7 c8 c9 c10 c11 c12 c13 c14 c15 c16 c17 c18 c19 c20 c21 c22 : Value} (h : Hm) (w : World) (hF : ∀ W, Below w.heap.size w W → FAt W h)
   (hC : ∀ W, Below w.heap.size w W → Calls Try.prog 61 #[.slice h.ca (cb h.f).size h.cc] W fun e w' => ∃ v, e = .returned v ∧ TwC w.heap.size h v w' ∧ Below W.heap.size W w')
   (hU : ∀ W, Below w.heap.size w W → Calls Try.prog 65 #[.slice h.ua (Dk.starts h.f).length h.uc] W fun e w' => ∃ v, e = .returned v ∧ TwU w.heap.size h v w' ∧ Below W.heap.size W w') (Q : Exit → Act → World → Prop)
   (hQ : ∀ (u4 u13 u18 u19 u20 : Value) (w' : World), Below w.heap.size w w' → TwB w.heap.size h u20 w' → Q .normal ⟨#[.pointer (some ⟨h.b, 0, none⟩), c1, u20, .pointer (some ⟨h.b, 0, none⟩), .pointer (some ⟨h.b, 0, none⟩), .pointer (some ⟨h.b, 0, none⟩), .slice h.ca (cb h.f).size h.cc, u4, .pointer (some ⟨h.b, 0, none⟩), .pointer (some ⟨h.b, 0, none⟩), .pointer (some ⟨h.b, 1, none⟩), .int .i64 (h.f.syn : Int), .pointer (some ⟨h.b, 0, none⟩), .pointer (some ⟨h.b, 0, none⟩), .pointer (some ⟨h.b, 2, none⟩), .slice h.ua (Dk.starts h.f).length h.uc, u13, .pointer (some ⟨h.b, 0, none⟩), .pointer (some ⟨h.b, 0, none⟩), .pointer (some ⟨h.b, 3, none⟩), .bool h.f.cut, u18, u19], []⟩ w') :
   Code.wp Try.prog ftwC Q ⟨#[.pointer (some ⟨h.b, 0, none⟩), c1, c2, c3, c4, c5, c6, c7, c8, c9, c10, c11, c12, c13, c14, c15, c16, c17, c18, c19, c20, c21, c22], []⟩ w := by
  obtain ⟨Sp, hSp⟩ : ∃ Sp : Nat → Value → World → Prop, Sp = TwG w.heap.size h := ⟨_, rfl⟩
  conv => arg 2; whnf
  refine Reg.wp_region_inv (fun w' => Below w.heap.size w w') (fun x y => Below x.heap.size x y) (Reg.KnownI [some (.pointer (some ⟨h.b, 0, none⟩)), some (.pointer (some ⟨h.b, 0, none⟩)), some (.pointer (some ⟨h.b, 0, none⟩)), some (.slice h.ca (cb h.f).size h.cc), none, some (.pointer (some ⟨h.b, 0, none⟩)), some (.pointer (some ⟨h.b, 0, none⟩)), some (.pointer (some ⟨h.b, 1, none⟩)), some (.int .i64 (h.f.syn : Int)), some (.pointer (some ⟨h.b, 0, none⟩)), some (.pointer (some ⟨h.b, 0, none⟩)), some (.pointer (some ⟨h.b, 2, none⟩)), some (.slice h.ua (Dk.starts h.f).length h.uc), none, some (.pointer (some ⟨h.b, 0, none⟩)), some (.pointer (some ⟨h.b, 0, none⟩)), some (.pointer (some ⟨h.b, 3, none⟩)), some (.bool h.f.cut), none, none, none] Sp) (by kernel_rfl) (by kernel_rfl) (Reg.knownI_mono ?mono) (Below.refl _ _).drew ?steps ?fin
  case mono =>
    intro i v w w' hs hb
    rw [hSp] at hs ⊢
    exact TwG.below hs hb
  case steps =>
    intro hB
    refine ⟨?_, ?_, ?_, ?_, ?_, ?_, ?_, ?_, ?_, ?_, ?_, ?_, ?_, ?_, ?_, ?_, ?_, ?_, ?_, ?_, ?_, trivial⟩
    · -- 0: Op.move (Operand.tmp 0)
      refine Reg.step_run hB (Reg.runs_none rfl) (fun a w1 hI hb hd => ?_)
      have e0 : a.eval (.tmp 0) = .pointer (some ⟨h.b, 0, none⟩) := hb 0 (by kernel_rfl)
      exact Reg.run_value (Reg.run_move rfl e0) rfl (Below.refl _ _) hI
    · -- 1: Op.nilCheck (Operand.tmp 3)
      refine Reg.step_run hB (Reg.runs_none rfl) (fun a w1 hI hb hd => ?_)
      have e3 : a.eval (.tmp 3) = .pointer (some ⟨h.b, 0, none⟩) := hd 0 3 (by kernel_rfl) (by kernel_rfl)
      refine Reg.run_value (v := .pointer (some ⟨h.b, 0, none⟩)) ?_ rfl (Below.refl _ _) hI
      clear hb hd
      have hc := fun v => Reg.eval_const a v
      have hf := fun f => Reg.eval_func a f
      generalize a.eval = ρ at *
      simp [execOp, go_sem, *]
    · -- 2: Op.fieldAddr 69 (Operand.tmp 4) 0
      refine Reg.step_run hB (Reg.runs_none rfl) (fun a w1 hI hb hd => ?_)
      have e4 : a.eval (.tmp 4) = .pointer (some ⟨h.b, 0, none⟩) := hd 1 4 (by kernel_rfl) (by kernel_rfl)
      refine Reg.run_value (v := .pointer (some ⟨h.b, 0, none⟩)) ?_ rfl (Below.refl _ _) hI
      clear hb hd
      have hc := fun v => Reg.eval_const a v
      have hf := fun f => Reg.eval_func a f
      generalize a.eval = ρ at *
      simp [execOp, go_sem, *]
    · -- 3: Op.load 56 (Operand.tmp 5)
      refine Reg.step_run hB (Reg.runs_none rfl) (fun a w1 hI hb hd => ?_)
      have e5 : a.eval (.tmp 5) = .pointer (some ⟨h.b, 0, none⟩) := hd 2 5 (by kernel_rfl) (by kernel_rfl)
      obtain ⟨k0, k1, k2, k3⟩ := (hF w1 hI).c
      refine Reg.run_value (v := .slice h.ca (cb h.f).size h.cc) ?_ rfl (Below.refl _ _) hI
      clear hb hd
      have hc := fun v => Reg.eval_const a v
      have hf := fun f => Reg.eval_func a f
      generalize a.eval = ρ at *
      simp [execOp, go_sem, *]
    · -- 4: Op.call { callee := Callee.value (Operand.func 61), args := #[Operand.tmp 6], argTypes := #[56] }
      refine Reg.step_run hB (Reg.runs_none rfl) (fun a w1 hI hb hd => ?_)
      have e6 : a.eval (.tmp 6) = .slice h.ca (cb h.f).size h.cc := hd 3 6 (by kernel_rfl) (by kernel_rfl)
      refine Reg.run_callS (f := 61) (args := #[.slice h.ca (cb h.f).size h.cc]) ?_ ((hC w1 hI).mono (fun e w' hh => by obtain ⟨v, he, hl, hb⟩ := hh; exact ⟨v, he, (show Sp _ _ _ by rw [hSp]; exact hl), hb⟩)) (fun _ h => bnext hI h)
      clear hb hd
      have hc := fun v => Reg.eval_const a v
      have hf := fun f => Reg.eval_func a f
      generalize a.eval = ρ at *
      simp [go_sem, *]
    · -- 5: Op.move (Operand.tmp 0)
      refine Reg.step_run hB (Reg.runs_none rfl) (fun a w1 hI hb hd => ?_)
      have e0 : a.eval (.tmp 0) = .pointer (some ⟨h.b, 0, none⟩) := hb 0 (by kernel_rfl)
      exact Reg.run_value (Reg.run_move rfl e0) rfl (Below.refl _ _) hI
    · -- 6: Op.nilCheck (Operand.tmp 8)
      refine Reg.step_run hB (Reg.runs_none rfl) (fun a w1 hI hb hd => ?_)
      have e8 : a.eval (.tmp 8) = .pointer (some ⟨h.b, 0, none⟩) := hd 5 8 (by kernel_rfl) (by kernel_rfl)
      refine Reg.run_value (v := .pointer (some ⟨h.b, 0, none⟩)) ?_ rfl (Below.refl _ _) hI
      clear hb hd
      have hc := fun v => Reg.eval_const a v
      have hf := fun f => Reg.eval_func a f
      generalize a.eval = ρ at *
      simp [execOp, go_sem, *]
    · -- 7: Op.fieldAddr 69 (Operand.tmp 9) 1
      refine Reg.step_run hB (Reg.runs_none rfl) (fun a w1 hI hb hd => ?_)
      have e9 : a.eval (.tmp 9) = .pointer (some ⟨h.b, 0, none⟩) := hd 6 9 (by kernel_rfl) (by kernel_rfl)
      refine Reg.run_value (v := .pointer (some ⟨h.b, 1, none⟩)) ?_ rfl (Below.refl _ _) hI
      clear hb hd
      have hc := fun v => Reg.eval_const a v
      have hf := fun f => Reg.eval_func a f
      generalize a.eval = ρ at *
      simp [execOp, go_sem, *]
    · -- 8: Op.load 3 (Operand.tmp 10)
      refine Reg.step_run hB (Reg.runs_none rfl) (fun a w1 hI hb hd => ?_)
      have e10 : a.eval (.tmp 10) = .pointer (some ⟨h.b, 1, none⟩) := hd 7 10 (by kernel_rfl) (by kernel_rfl)
      obtain ⟨k0, k1, k2, k3⟩ := (hF w1 hI).c
      refine Reg.run_value (v := .int .i64 (h.f.syn : Int)) ?_ rfl (Below.refl _ _) hI
      clear hb hd
      have hc := fun v => Reg.eval_const a v
      have hf := fun f => Reg.eval_func a f
      generalize a.eval = ρ at *
      simp [execOp, go_sem, *]
    · -- 9: Op.move (Operand.tmp 0)
      refine Reg.step_run hB (Reg.runs_none rfl) (fun a w1 hI hb hd => ?_)
      have e0 : a.eval (.tmp 0) = .pointer (some ⟨h.b, 0, none⟩) := hb 0 (by kernel_rfl)
      exact Reg.run_value (Reg.run_move rfl e0) rfl (Below.refl _ _) hI
    · -- 10: Op.nilCheck (Operand.tmp 12)
      refine Reg.step_run hB (Reg.runs_none rfl) (fun a w1 hI hb hd => ?_)
      have e12 : a.eval (.tmp 12) = .pointer (some ⟨h.b, 0, none⟩) := hd 9 12 (by kernel_rfl) (by kernel_rfl)
      refine Reg.run_value (v := .pointer (some ⟨h.b, 0, none⟩)) ?_ rfl (Below.refl _ _) hI
      clear hb hd
      have hc := fun v => Reg.eval_const a v
      have hf := fun f => Reg.eval_func a f
      generalize a.eval = ρ at *
      simp [execOp, go_sem, *]
    · -- 11: Op.fieldAddr 69 (Operand.tmp 13) 2
      refine Reg.step_run hB (Reg.runs_none rfl) (fun a w1 hI hb hd => ?_)
      have e13 : a.eval (.tmp 13) = .pointer (some ⟨h.b, 0, none⟩) := hd 10 13 (by kernel_rfl) (by kernel_rfl)
      refine Reg.run_value (v := .pointer (some ⟨h.b, 2, none⟩)) ?_ rfl (Below.refl _ _) hI
      clear hb hd
      have hc := fun v => Reg.eval_const a v
      have hf := fun f => Reg.eval_func a f
      generalize a.eval = ρ at *
      simp [execOp, go_sem, *]
    · -- 12: Op.load 34 (Operand.tmp 14)
      refine Reg.step_run hB (Reg.runs_none rfl) (fun a w1 hI hb hd => ?_)
      have e14 : a.eval (.tmp 14) = .pointer (some ⟨h.b, 2, none⟩) := hd 11 14 (by kernel_rfl) (by kernel_rfl)
      obtain ⟨k0, k1, k2, k3⟩ := (hF w1 hI).c
      refine Reg.run_value (v := .slice h.ua (Dk.starts h.f).length h.uc) ?_ rfl (Below.refl _ _) hI
      clear hb hd
      have hc := fun v => Reg.eval_const a v
      have hf := fun f => Reg.eval_func a f
      generalize a.eval = ρ at *
      simp [execOp, go_sem, *]
    · -- 13: Op.call { callee := Callee.value (Operand.func 65), args := #[Operand.tmp 15], argTypes := #[34] }
      refine Reg.step_run hB (Reg.runs_none rfl) (fun a w1 hI hb hd => ?_)
      have e15 : a.eval (.tmp 15) = .slice h.ua (Dk.starts h.f).length h.uc := hd 12 15 (by kernel_rfl) (by kernel_rfl)
      refine Reg.run_callS (f := 65) (args := #[.slice h.ua (Dk.starts h.f).length h.uc]) ?_ ((hU w1 hI).mono (fun e w' hh => by obtain ⟨v, he, hl, hb⟩ := hh; exact ⟨v, he, (show Sp _ _ _ by rw [hSp]; exact hl), hb⟩)) (fun _ h => bnext hI h)
      clear hb hd
      have hc := fun v => Reg.eval_const a v
      have hf := fun f => Reg.eval_func a f
      generalize a.eval = ρ at *
      simp [go_sem, *]
    · -- 14: Op.move (Operand.tmp 0)
      refine Reg.step_run hB (Reg.runs_none rfl) (fun a w1 hI hb hd => ?_)
      have e0 : a.eval (.tmp 0) = .pointer (some ⟨h.b, 0, none⟩) := hb 0 (by kernel_rfl)
      exact Reg.run_value (Reg.run_move rfl e0) rfl (Below.refl _ _) hI
    · -- 15: Op.nilCheck (Operand.tmp 17)
      refine Reg.step_run hB (Reg.runs_none rfl) (fun a w1 hI hb hd => ?_)
      have e17 : a.eval (.tmp 17) = .pointer (some ⟨h.b, 0, none⟩) := hd 14 17 (by kernel_rfl) (by kernel_rfl)
      refine Reg.run_value (v := .pointer (some ⟨h.b, 0, none⟩)) ?_ rfl (Below.refl _ _) hI
      clear hb hd
      have hc := fun v => Reg.eval_const a v
      have hf := fun f => Reg.eval_func a f
      generalize a.eval = ρ at *
      simp [execOp, go_sem, *]
    · -- 16: Op.fieldAddr 69 (Operand.tmp 18) 3
      refine Reg.step_run hB (Reg.runs_none rfl) (fun a w1 hI hb hd => ?_)
      have e18 : a.eval (.tmp 18) = .pointer (some ⟨h.b, 0, none⟩) := hd 15 18 (by kernel_rfl) (by kernel_rfl)
      refine Reg.run_value (v := .pointer (some ⟨h.b, 3, none⟩)) ?_ rfl (Below.refl _ _) hI
      clear hb hd
      have hc := fun v => Reg.eval_const a v
      have hf := fun f => Reg.eval_func a f
      generalize a.eval = ρ at *
      simp [execOp, go_sem, *]
    · -- 17: Op.load 4 (Operand.tmp 19)
      refine Reg.step_run hB (Reg.runs_none rfl) (fun a w1 hI hb hd => ?_)
      have e19 : a.eval (.tmp 19) = .pointer (some ⟨h.b, 3, none⟩) := hd 16 19 (by kernel_rfl) (by kernel_rfl)
      obtain ⟨k0, k1, k2, k3⟩ := (hF w1 hI).c
      refine Reg.run_value (v := .bool h.f.cut) ?_ rfl (Below.refl _ _) hI
      clear hb hd
      have hc := fun v => Reg.eval_const a v
      have hf := fun f => Reg.eval_func a f
      generalize a.eval = ρ at *
      simp [execOp, go_sem, *]
    · -- 18: Op.build 69 #[(0, Operand.tmp 7), (1, Operand.tmp 11), (2, Operand.tmp 16), (3, Operand.tmp 20)]
      refine Reg.step_run hB (Reg.runs_none rfl) (fun a w1 hI hb hd => ?_)
      have e7 : Sp 4 (a.eval (.tmp 7)) w1 := hd 4 7 (by kernel_rfl) (by kernel_rfl)
      have e11 : a.eval (.tmp 11) = .int .i64 (h.f.syn : Int) := hd 8 11 (by kernel_rfl) (by kernel_rfl)
      have e16 : Sp 13 (a.eval (.tmp 16)) w1 := hd 13 16 (by kernel_rfl) (by kernel_rfl)
      have e20 : a.eval (.tmp 20) = .bool h.f.cut := hd 17 20 (by kernel_rfl) (by kernel_rfl)
      rw [hSp] at e7
      replace e7 : TwC w.heap.size h (a.eval (.tmp 7)) w1 := e7
      rw [hSp] at e16
      replace e16 : TwU w.heap.size h (a.eval (.tmp 16)) w1 := e16
      obtain ⟨A7, c7_, hx7, _⟩ := own_slice (show World.ownsRow _ _ _ _ _ _ _ from e7)
      obtain ⟨A16, c16_, hx16, _⟩ := own_slice (show World.ownsRow _ _ _ _ _ _ _ from e16)
      rw [hx7] at e7
      rw [hx16] at e16
      have e7' := Lib.hid e7
      have e16' := Lib.hid e16
      clear e7 e16
      refine Reg.run_made (v := .agg #[.slice A7 (cb h.f).size c7_, .int .i64 (h.f.syn : Int), .slice A16 (Dk.starts h.f).length c16_, .bool h.f.cut]) (w' := w1) ?_ (show Sp 18 _ _ by rw [hSp]; exact ⟨A7, c7_, A16, c16_, rfl, e7'.out, e16'.out⟩) (Below.refl _ _) hI
      clear hb hd
      have hc := fun v => Reg.eval_const a v
      have hf := fun f => Reg.eval_func a f
      generalize a.eval = ρ at *
      simp [execOp, go_sem, Try.underlying69, *]
    · -- 19: Op.box 69 (Operand.tmp 21)
      refine Reg.step_run hB (Reg.runs_none rfl) (fun a w1 hI hb hd => ?_)
      have e21 : Sp 18 (a.eval (.tmp 21)) w1 := hd 18 21 (by kernel_rfl) (by kernel_rfl)
      rw [hSp] at e21
      replace e21 : TwA w.heap.size h (a.eval (.tmp 21)) w1 := e21
      obtain ⟨A7, c7_, A16, c16_, hx, h7, h16⟩ := e21
      replace hx : a.eval (.tmp 21) = .agg #[.slice A7 (cb h.f).size c7_, .int .i64 (h.f.syn : Int), .slice A16 (Dk.starts h.f).length c16_, .bool h.f.cut] := hx
      have hB := Below.size hI
      refine Reg.run_made (v := .pointer (some ⟨w1.heap.size, 0, none⟩)) (w' := w1.alloc (.cells #[.slice A7 (cb h.f).size c7_, .int .i64 (h.f.syn : Int), .slice A16 (Dk.starts h.f).length c16_, .bool h.f.cut] 69)) ?_ (show Sp 19 _ _ by rw [hSp]; exact ⟨w1.heap.size, A7, c7_, A16, c16_, rfl, heap_alloc_new w1 _, hB, h7.below (bnew (Below.refl _ _) _), h16.below (bnew (Below.refl _ _) _)⟩) (bnew (Below.refl _ _) _) (bnew hI _)
      clear hb hd
      have hc := fun v => Reg.eval_const a v
      have hf := fun f => Reg.eval_func a f
      generalize a.eval = ρ at *
      simp [execOp, go_sem, Try.underlying69, *]
    · -- 20: Op.assign (Operand.tmp 22)
      refine Reg.step_run hB (Reg.runs_none rfl) (fun a w1 hI hb hd => ?_)
      have e22 : Sp 19 (a.eval (.tmp 22)) w1 := hd 19 22 (by kernel_rfl) (by kernel_rfl)
      rw [hSp] at e22
      replace e22 : TwB w.heap.size h (a.eval (.tmp 22)) w1 := e22
      exact Reg.run_value (Reg.run_assign rfl rfl) (show Sp 20 _ _ by rw [hSp]; exact e22) (Below.refl _ _) hI
  case fin =>
    intro vals w' hI hg
    have g0 : vals 0 = .pointer (some ⟨h.b, 0, none⟩) := hg 0 (by simp)
    have g1 : vals 1 = .pointer (some ⟨h.b, 0, none⟩) := hg 1 (by simp)
    have g2 : vals 2 = .pointer (some ⟨h.b, 0, none⟩) := hg 2 (by simp)
    have g3 : vals 3 = .slice h.ca (cb h.f).size h.cc := hg 3 (by simp)
    have g5 : vals 5 = .pointer (some ⟨h.b, 0, none⟩) := hg 5 (by simp)
    have g6 : vals 6 = .pointer (some ⟨h.b, 0, none⟩) := hg 6 (by simp)
    have g7 : vals 7 = .pointer (some ⟨h.b, 1, none⟩) := hg 7 (by simp)
    have g8 : vals 8 = .int .i64 (h.f.syn : Int) := hg 8 (by simp)
    have g9 : vals 9 = .pointer (some ⟨h.b, 0, none⟩) := hg 9 (by simp)
    have g10 : vals 10 = .pointer (some ⟨h.b, 0, none⟩) := hg 10 (by simp)
    have g11 : vals 11 = .pointer (some ⟨h.b, 2, none⟩) := hg 11 (by simp)
    have g12 : vals 12 = .slice h.ua (Dk.starts h.f).length h.uc := hg 12 (by simp)
    have g14 : vals 14 = .pointer (some ⟨h.b, 0, none⟩) := hg 14 (by simp)
    have g15 : vals 15 = .pointer (some ⟨h.b, 0, none⟩) := hg 15 (by simp)
    have g16 : vals 16 = .pointer (some ⟨h.b, 3, none⟩) := hg 16 (by simp)
    have g17 : vals 17 = .bool h.f.cut := hg 17 (by simp)
    refine Reg.fin_of (y := #[.pointer (some ⟨h.b, 0, none⟩), c1, vals 20, vals 0, vals 1, vals 2, vals 3, vals 4, vals 5, vals 6, vals 7, vals 8, vals 9, vals 10, vals 11, vals 12, vals 13, vals 14, vals 15, vals 16, vals 17, vals 18, vals 19]) (by kernel_rfl) ?_
    rw [g0, g1, g2, g3, g5, g6, g7, g8, g9, g10, g11, g12, g14, g15, g16, g17]
    have hz := hg 20 (by simp)
    exact hQ (vals 4) (vals 13) (vals 18) (vals 19) (vals 20) w' hI (by have hz2 : Sp 20 (vals 20) w' := hz; rw [hSp] at hz2; exact hz2)
end Go.Proofs.Ytjmnoogaffjdiaa
