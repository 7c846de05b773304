/-
  Small words for layer 12's walks.
-/
import Derived.Test.YtlnohjboldenpaaRPgBase
set_option linter.unusedSimpArgs false
set_option linter.unusedVariables false
namespace Go.Proofs.Ytlnohjboldenpaa
open Go.RowKit
theorem row_two (w : World) (o p : Obj) : ((w.alloc o).alloc p).heap[w.heap.size + 1]? = some p := by
  have := heap_alloc_new (w.alloc o) p
  rwa [World.size_alloc] at this
theorem bel_two (w : World) (o p : Obj) : Below w.heap.size w ((w.alloc o).alloc p) := bnew (bnew (Below.refl _ _) _) _
theorem pg_all (p : Pg.P) : (pgC p).all (·.oneCell') = true := by simp [pgC, Value.oneCell']
theorem pg_size (p : Pg.P) : (Try.prog.info? 57).map (·.size) = some (pgC p).size := sizePg
end Go.Proofs.Ytlnohjboldenpaa
