/-
  Loads of whole structs in a region that draws its order and makes memory by calls alone.
-/
import Derived.Test.YtjmnoogaffjdiaaRFrA
import Derived.Lib.QuietBelow
import Derived.BigQuiet
set_option linter.unusedSimpArgs false
set_option linter.unusedVariables false
namespace Go.Proofs.Ytjmnoogaffjdiaa
open Go.RowKit Go.Sort
section
variable {P : Program} {ops : Array Oper} {Q : Act → Prop} {a : Act} {o : Oper} {rest : List Oper}
theorem row_regrown {w : World} {g : Nat} {X : Array Value} {T : TypeId} {fr : Nat × Nat} (h : w.heap[g]? = some (.cells X T fr)) (d : Nat) (os : Array Obj) : (grow (redrawn w d) os).heap[g]? = some (.cells X T fr) :=
  ((below_regrown w d os).block g (Array.getElem?_eq_some_iff.1 h).1).trans h
/-- A struct that lies in a row from place k on is loaded. -/
theorem wpQuiet_load_sub {w : World} (hw : Region.wanted o (yielded ops a.tmps) = true) (ty : TypeId) (x : Operand) (ho : o.op = .load ty x)
    (g k : Nat) (hx : a.eval x = .pointer (some ⟨g, k, none⟩)) (T : TypeId) (X Y : Array Value) (fr : Nat × Nat) (d : TypeDesc) (hg : w.heap[g]? = some (.cells X T fr)) (hY : ∀ j, j < Y.size → X[k + j]? = Y[j]?)
    (hu : P.underlying ty = some d) (hd : d.isRow = true) (hi : (P.info? ty).map (·.size) = some Y.size)
    (h : wpQuiet P ops (fun w' => ∃ p : Regrown, w' = grow (redrawn w p.d) p.os) Q rest (a.put o.dst (.agg Y))) : wpQuiet P ops (fun w' => ∃ p : Regrown, w' = grow (redrawn w p.d) p.os) Q (o :: rest) a :=
  BigFrame.wpQuiet_want hw fun K hK => ⟨.agg Y, fun w' hw' => by
    obtain ⟨p, rfl⟩ := hw'
    unfold Oper.quietAt execOp
    have hr := run_loadVar_mid (P := P) (grow (redrawn w p.d) p.os) g k ty Y.toList d (range_row (row_regrown hg p.d p.os) k Y hY) hu hd (by simpa using hi)
    simp only [ho, hx, Instr.loadAt, Instr.sureAddr, Sem.run_bind, Sem.run_pure, Result.andThen_ok, hr]
    exact ⟨rfl, rfl⟩, hK _ h⟩
end
end Go.Proofs.Ytjmnoogaffjdiaa
