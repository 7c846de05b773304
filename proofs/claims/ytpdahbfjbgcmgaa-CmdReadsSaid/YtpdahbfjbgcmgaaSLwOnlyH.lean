/-
  CmdOnly's code walked. WRITTEN BY wip/tools/gen_lwonly.py.
-/
import Derived.Test.YtpdahbfjbgcmgaaSOnMath
import Derived.Test.YtpdahbfjbgcmgaaSLaw
import Derived.Test.YtpdahbfjbgcmgaaSCall
set_option linter.unusedSimpArgs false
set_option linter.unusedVariables false
namespace Go.Proofs.Ytpdahbfjbgcmgaa
open Go.RowKit
set_option linter.unusedVariables false
theorem storeRes (X : Array Value) (hs : X.size = 4) (ho : X.all (·.oneCell') = true) (W : World) : (storeCells ⟨W.heap.size, 0, none⟩ X.toList 0).run Try.prog (W.alloc (.cells #[.int .u8 0, .int .u64 0, .string ⟨#[]⟩, .slice none 0 0] 42)) = .ok () (W.alloc (.cells X 42)) :=
  run_storeCells_new (P := Try.prog) W 42 _ X (by rw [hs]; exact sizeRes) (by rw [hs]; rfl) ho
theorem tok_zero (W : World) : (Op.equalIn 9999 31 (.agg #[.int .u8 ((Og.Oper.zero.tok.a0.toNat : Nat) : Int), .int .u8 ((Og.Oper.zero.tok.a1.toNat : Nat) : Int), .int .u8 ((Og.Oper.zero.tok.a2.toNat : Nat) : Int), .int .u8 ((Og.Oper.zero.tok.a3.toNat : Nat) : Int), .int .u8 ((Og.Oper.zero.tok.a4.toNat : Nat) : Int), .int .u8 ((Og.Oper.zero.tok.a5.toNat : Nat) : Int), .int .u8 ((Og.Oper.zero.tok.a6.toNat : Nat) : Int), .int .u8 ((Og.Oper.zero.tok.a7.toNat : Nat) : Int)]) (.agg #[.int .u8 0, .int .u8 0, .int .u8 0, .int .u8 0, .int .u8 0, .int .u8 0, .int .u8 0, .int .u8 0])).run Try.prog W = .ok true W := by
  have := tok_eq 9997 W Og.Oper.zero.tok Og.Tk.zero
  rw [decide_eq_true (show Og.Oper.zero.tok = Og.Tk.zero from rfl)] at this
  exact this
/-- A command in block q, with its parts. -/
structure HasC (W : World) (q : Nat) (c : Cm.Cmd) (A : Option Addr) (cap : Nat) : Prop where
  row : W.heap[q]? = some (.cells (cmdC c A cap) 27 (0, 0))
  lies : Lies W A (pc c.parts)
theorem HasC.below {W W' : World} {q : Nat} {c : Cm.Cmd} {A : Option Addr} {cap : Nat} (h : HasC W q c A cap) (hb : Below W.heap.size W W') : HasC W' q c A cap :=
  ⟨(hb.block q (Array.getElem?_eq_some_iff.1 h.row).1).trans h.row, h.lies.below hb⟩
theorem HasC.new {W : World} {c : Cm.Cmd} {A : Option Addr} {cap : Nat} (h : Lies W A (pc c.parts)) {P : Array Value} (hP : P = cmdC c A cap) : HasC (W.alloc (.cells P 27)) W.heap.size c A cap :=
  ⟨by rw [← hP]; exact heap_alloc_new W _, h.below (bnew (Below.refl _ _) _)⟩
structure OnS (w W : World) (b1 b2 b3 : Nat) (c : Cm.Cmd) (A1 : Option Addr) (k1 : Nat) (o : Og.Oper) (r : Rs.Res) (A3 : Option Addr) (k3 : Nat) : Prop where
  b : Below w.heap.size w W
  h1 : HasC W b1 c A1 k1
  r2 : W.heap[b2]? = some (.cells (operC o) 33 (0, 0))
  r3 : W.heap[b3]? = some (.cells (resC r A3 k3) 42 (0, 0))
  l3 : Lies W A3 (rc r.rows)
theorem OnS.grow {w W W' : World} {b1 b2 b3 : Nat} {c : Cm.Cmd} {A1 : Option Addr} {k1 : Nat} {o : Og.Oper} {r : Rs.Res} {A3 : Option Addr} {k3 : Nat} (h : OnS w W b1 b2 b3 c A1 k1 o r A3 k3) (hb : Below W.heap.size W W') : OnS w W' b1 b2 b3 c A1 k1 o r A3 k3 :=
  ⟨h.b.trans (hb.mono h.b.size), h.h1.below hb, (hb.block _ (Array.getElem?_eq_some_iff.1 h.r2).1).trans h.r2, (hb.block _ (Array.getElem?_eq_some_iff.1 h.r3).1).trans h.r3, h.l3.below hb⟩
theorem OnS.make {w w1 w2 w3 : World} {c : Cm.Cmd} {A1 : Option Addr} {k1 : Nat} {o : Og.Oper} {r : Rs.Res} {A3 : Option Addr} {k3 : Nat} {P1 P2 P3 : Array Value} (e1 : P1 = cmdC c A1 k1) (l1 : Lies w1 A1 (pc c.parts)) (b1 : Below w.heap.size w w1) (e2 : P2 = operC o) (b2 : Below (w1.alloc (.cells P1 27)).heap.size (w1.alloc (.cells P1 27)) w2) (e3 : P3 = resC r A3 k3) (l3 : Lies w3 A3 (rc r.rows)) (b3 : Below (w2.alloc (.cells P2 33)).heap.size (w2.alloc (.cells P2 33)) w3) :
    OnS w (w3.alloc (.cells P3 42)) w1.heap.size w2.heap.size w3.heap.size c A1 k1 o r A3 k3 := by
  subst e1 e2 e3
  have g1 : HasC (w1.alloc (.cells (cmdC c A1 k1) 27)) w1.heap.size c A1 k1 := HasC.new l1 rfl
  have g2 := (g1.below b2).below (bnew (Below.refl _ _) (.cells (operC o) 33))
  have g3 := (g2.below b3).below (bnew (Below.refl _ _) (.cells (resC r A3 k3) 42))
  have z1 : w1.heap.size < (w1.alloc (.cells (cmdC c A1 k1) 27)).heap.size := by simp
  have z2 : w2.heap.size < (w2.alloc (.cells (operC o) 33)).heap.size := by simp
  have z3 := b1.size; have z4 := b2.size; have z5 := b3.size
  have c1 : Below w.heap.size w w2 := (bnew b1 _).trans (b2.mono (by omega))
  have c2 : Below w.heap.size w w3 := (bnew c1 _).trans (b3.mono (by omega))
  refine ⟨bnew c2 _, g3, ?_, heap_alloc_new w3 _, l3.below (bnew (Below.refl _ _) _)⟩
  exact (Below.heap_alloc _ _ _ (by omega)).trans ((b3.block _ z2).trans (heap_alloc_new w2 _))
end Go.Proofs.Ytpdahbfjbgcmgaa
