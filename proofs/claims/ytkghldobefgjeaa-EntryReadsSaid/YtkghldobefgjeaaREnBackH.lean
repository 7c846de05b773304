/-
  Words for EntryBack's walk.
-/
import Derived.Test.YtkghldobefgjeaaREnAwake
import Derived.Test.YtkghldobefgjeaaROpen
set_option linter.unusedSimpArgs false
set_option linter.unusedVariables false
namespace Go.Proofs.Ytkghldobefgjeaa
open Go.RowKit
/-- An entry lies in block q. -/
def RowE (W : World) (q : Nat) (X : Array Value) : Prop := W.heap[q]? = some (.cells X 62 (0, 0))
theorem RowE.below {W W' : World} {q : Nat} {X : Array Value} (h : RowE W q X) (hb : Below W.heap.size W W') : RowE W' q X :=
  (hb.block q (Array.getElem?_eq_some_iff.1 h).1).trans h
theorem RowE.at_ {W : World} {q : Nat} {e : En.E} (h : RowE W q (entC e)) : EntAt W q e := entAt h
theorem RowE.new (W : World) (X : Array Value) : RowE (W.alloc (.cells X 62)) W.heap.size X := heap_alloc_new W _
/-- What EntryBack's ways ask of the calls. -/
structure BackC (e : En.E) (t : ByteArray) (b : Bool) : Prop where
  W : ∀ W, Calls Try.prog 37 #[.agg #[.int .u64 (e.idx : Int), .int .u64 (e.trm : Int), .int .u8 (e.kind : Int), .int .u8 (e.slot : Int), .int .u8 (e.tok.a0.toNat : Int), .int .u8 (e.tok.a1.toNat : Int), .int .u8 (e.tok.a2.toNat : Int), .int .u8 (e.tok.a3.toNat : Int), .int .u8 (e.tok.a4.toNat : Int), .int .u8 (e.tok.a5.toNat : Int), .int .u8 (e.tok.a6.toNat : Int), .int .u8 (e.tok.a7.toNat : Int), .string e.body]] W fun r w' => r = .returned (.string t) ∧ Below W.heap.size W w'
  R : ∀ W, Calls Try.prog 38 #[.agg #[.int .u64 (e.idx : Int), .int .u64 (e.trm : Int), .int .u8 (e.kind : Int), .int .u8 (e.slot : Int), .int .u8 (e.tok.a0.toNat : Int), .int .u8 (e.tok.a1.toNat : Int), .int .u8 (e.tok.a2.toNat : Int), .int .u8 (e.tok.a3.toNat : Int), .int .u8 (e.tok.a4.toNat : Int), .int .u8 (e.tok.a5.toNat : Int), .int .u8 (e.tok.a6.toNat : Int), .int .u8 (e.tok.a7.toNat : Int), .string e.body]] W fun r w' => r = .returned (.bool b) ∧ Below W.heap.size W w'
theorem backC (e : En.E) (hf : En.Fits e) (hz : e.body.size ≤ 1000000) : BackC e ⟨(En.write e).toArray⟩ (En.may e) :=
  ⟨fun W => write_any e hf hz W, fun W => right_any e W⟩
end Go.Proofs.Ytkghldobefgjeaa
