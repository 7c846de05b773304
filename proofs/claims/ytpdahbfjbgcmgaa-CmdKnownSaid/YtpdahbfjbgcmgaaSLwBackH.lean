/-
  Words for CmdBack's walk. WRITTEN BY wip/tools/gen_lwback.py.
-/
import Derived.Test.YtpdahbfjbgcmgaaSLwOnlyH
import Derived.Test.YtpdahbfjbgcmgaaSLwGreatR
import Derived.Test.YtpdahbfjbgcmgaaSOpB
import Derived.Deep.DeepCutAuto
import Derived.Deep.CutBlock
set_option linter.unusedSimpArgs false
set_option linter.unusedVariables false
namespace Go.Proofs.Ytpdahbfjbgcmgaa
open Go.RowKit
set_option linter.unusedVariables false
/-- The three arguments lie in their blocks. -/
structure CkS (w W : World) (c : Cm.Cmd) (A : Option Addr) (cap : Nat) (o : Og.Oper) (r : Rs.Res) (R : Option Addr) (rcap : Nat) : Prop where
  b : Below w.heap.size w W
  r0 : HasC W w.heap.size c A cap
  r1 : W.heap[w.heap.size + 1]? = some (.cells (operC o) 33 (0, 0))
  r2 : W.heap[w.heap.size + 1 + 1]? = some (.cells (resC r R rcap) 42 (0, 0))
  l2 : Lies W R (rc r.rows)
theorem CkS.grow {w W W' : World} {c : Cm.Cmd} {A : Option Addr} {cap : Nat} {o : Og.Oper} {r : Rs.Res} {R : Option Addr} {rcap : Nat} (h : CkS w W c A cap o r R rcap) (hb : Below W.heap.size W W') : CkS w W' c A cap o r R rcap :=
  ⟨h.b.trans (hb.mono h.b.size), h.r0.below hb, (hb.block _ (Array.getElem?_eq_some_iff.1 h.r1).1).trans h.r1, (hb.block _ (Array.getElem?_eq_some_iff.1 h.r2).1).trans h.r2, h.l2.below hb⟩
theorem CkS.new {w : World} {c : Cm.Cmd} {A : Option Addr} {cap : Nat} {o : Og.Oper} {r : Rs.Res} {R : Option Addr} {rcap : Nat} (hA : Lies w A (pc c.parts)) (hR : Lies w R (rc r.rows)) : CkS w (((w.alloc (.cells (cmdC c A cap) 27)).alloc (.cells (operC o) 33)).alloc (.cells (resC r R rcap) 42)) c A cap o r R rcap := by
  have hb : Below w.heap.size w (((w.alloc (.cells (cmdC c A cap) 27)).alloc (.cells (operC o) 33)).alloc (.cells (resC r R rcap) 42)) := bnew (bnew (bnew (Below.refl _ _) _) _) _
  exact ⟨hb, ⟨three0 w _ _ _, hA.below hb⟩, three1 w _ _ _, three2 w _ _ _, hR.below hb⟩
/-- A result in block q. -/
structure HasR (W : World) (q : Nat) (r : Rs.Res) (A : Option Addr) (cap : Nat) : Prop where
  row : W.heap[q]? = some (.cells (resC r A cap) 42 (0, 0))
  lies : Lies W A (rc r.rows)
theorem HasR.below {W W' : World} {q : Nat} {r : Rs.Res} {A : Option Addr} {cap : Nat} (h : HasR W q r A cap) (hb : Below W.heap.size W W') : HasR W' q r A cap :=
  ⟨(hb.block q (Array.getElem?_eq_some_iff.1 h.row).1).trans h.row, h.lies.below hb⟩
/-- What the ways ask of the calls: the law's words, the three that write. -/
structure BkC (c : Cm.Cmd) (A : Option Addr) (cap : Nat) (o : Og.Oper) (r : Rs.Res) (R : Option Addr) (rcap : Nat) (t1 t2 t3 : ByteArray) : Prop where
  G : ∀ W, Lies W A (pc c.parts) → Calls Try.prog 22 #[.agg (cmdC c A cap)] W fun e w' => e = .returned (.bool false) ∧ Below W.heap.size W w'
  GR : ∀ W, Lies W R (rc r.rows) → Calls Try.prog 33 #[.agg (resC r R rcap)] W fun e w' => e = .returned (.bool false) ∧ Below W.heap.size W w'
  W : ∀ W, Lies W A (pc c.parts) → Calls Try.prog 16 #[.agg (cmdC c A cap)] W fun e w' => e = .returned (.string t1) ∧ Below W.heap.size W w'
  V : ∀ W, Calls Try.prog 17 #[.agg (operC o)] W fun e w' => e = .returned (.string t2) ∧ Below W.heap.size W w'
  X : ∀ W, Lies W R (rc r.rows) → Calls Try.prog 20 #[.agg (resC r R rcap)] W fun e w' => e = .returned (.string t3) ∧ Below W.heap.size W w'
/-- Reading a command's bytes: whole, cut, with more. -/
structure RdC (c d : Cm.Cmd) (m : Bool) (s x y : ByteArray) : Prop where
  one : ∀ W, Calls Try.prog 25 #[.string s] W fun e w' => ∃ A cap, e = .returned (.tuple #[.agg (cmdC c A cap), .bool true]) ∧ Lies w' A (pc c.parts) ∧ Below W.heap.size W w'
  cut : ∀ W, Calls Try.prog 25 #[.string x] W fun e w' => ∃ A cap, e = .returned (.tuple #[.agg (cmdC Cm.zero A cap), .bool false]) ∧ Lies w' A (pc Cm.zero.parts) ∧ Below W.heap.size W w'
  more : ∀ W, Calls Try.prog 25 #[.string y] W fun e w' => ∃ A cap, e = .returned (.tuple #[.agg (cmdC d A cap), .bool m]) ∧ Lies w' A (pc d.parts) ∧ Below W.heap.size W w'
  same : ∀ W A k B l, Lies W A (pc c.parts) → Lies W B (pc c.parts) → Calls Try.prog 31 #[.agg (cmdC c A k), .agg (cmdC c B l)] W fun e w' => e = .returned (.bool true) ∧ Below W.heap.size W w'
structure RdO (o d : Og.Oper) (m : Bool) (s x y : ByteArray) : Prop where
  one : ∀ W, Calls Try.prog 27 #[.string s] W fun e w' => e = .returned (.tuple #[.agg (operC o), .bool true]) ∧ Below W.heap.size W w'
  cut : ∀ W, Calls Try.prog 27 #[.string x] W fun e w' => e = .returned (.tuple #[.agg (operC Og.Oper.zero), .bool false]) ∧ Below W.heap.size W w'
  more : ∀ W, Calls Try.prog 27 #[.string y] W fun e w' => e = .returned (.tuple #[.agg (operC d), .bool m]) ∧ Below W.heap.size W w'
structure RdR (r d : Rs.Res) (m : Bool) (s x y : ByteArray) : Prop where
  one : ∀ W, Calls Try.prog 29 #[.string s] W fun e w' => ∃ A cap, e = .returned (.tuple #[.agg (resC r A cap), .bool true]) ∧ Lies w' A (rc r.rows) ∧ Below W.heap.size W w'
  cut : ∀ W, Calls Try.prog 29 #[.string x] W fun e w' => ∃ A cap, e = .returned (.tuple #[.agg (resC Rs.zero A cap), .bool false]) ∧ Lies w' A (rc Rs.zero.rows) ∧ Below W.heap.size W w'
  more : ∀ W, Calls Try.prog 29 #[.string y] W fun e w' => ∃ A cap, e = .returned (.tuple #[.agg (resC d A cap), .bool m]) ∧ Lies w' A (rc d.rows) ∧ Below W.heap.size W w'
  same : ∀ W A k B l, Lies W A (rc r.rows) → Lies W B (rc r.rows) → Calls Try.prog 32 #[.agg (resC r A k), .agg (resC r B l)] W fun e w' => e = .returned (.bool true) ∧ Below W.heap.size W w'
end Go.Proofs.Ytpdahbfjbgcmgaa
