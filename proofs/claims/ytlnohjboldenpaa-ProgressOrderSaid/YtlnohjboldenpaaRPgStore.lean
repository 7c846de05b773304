/-
  A whole peer stored in a region that draws its order.
-/
import Derived.Test.YtlnohjboldenpaaRPgAct
import Derived.Test.YtlnohjboldenpaaRPgRefu
set_option linter.unusedSimpArgs false
set_option linter.unusedVariables false
namespace Go.Proofs.Ytlnohjboldenpaa
open Go.RowKit
theorem store_row5 (W2 : World) (g : Nat) (X Z : Array Value) (hr : Rw W2 g X 57) (hx : X.size = 5) (hs : Z.size = 5) (h1 : Z.all (·.oneCell') = true) : (storeCells ⟨g, 0, none⟩ Z.toList 0).run Try.prog W2 = .ok () (W2.setCells g 0 Z.toList) := by
  refine run_storeCells_cells (P := Try.prog) g 0 Z.toList 0 _ (fun j hj => ?_) (fun j hj => ?_) (fun v hv => (Array.all_eq_true_iff_forall_mem.1 h1) v (by simpa using hv))
  · rw [Array.length_toList, hs] at hj
    have hg : j < X.size := by rw [hx]; exact hj
    rw [hr.cell (0 + j) (v := X[j]) (by rw [Nat.zero_add]; exact Array.getElem?_eq_getElem hg)]; rfl
  · exact hr.free _
/-- A peer's cells in the world. -/
theorem pg_cells {W : World} {g : Nat} {m n r s c : Int} (h : Rw W g #[.int .u64 m, .int .u64 n, .int .u64 r, .int .u64 s, .int .u8 c] 57) :
    W.cell? ⟨g, 0, none⟩ = some (.int .u64 m) ∧ W.cell? ⟨g, 1, none⟩ = some (.int .u64 n) ∧ W.cell? ⟨g, 2, none⟩ = some (.int .u64 r) ∧ W.cell? ⟨g, 3, none⟩ = some (.int .u64 s) ∧ W.cell? ⟨g, 4, none⟩ = some (.int .u8 c) :=
  ⟨h.cell 0 rfl, h.cell 1 rfl, h.cell 2 rfl, h.cell 3 rfl, h.cell 4 rfl⟩
/-- In block g lies this peer, and what was there is there. -/
structure PgI (w : World) (g : Nat) (Z : Array Value) (W : World) : Prop where
  row : Rw W g Z 57
  bel : Below w.heap.size w W
theorem pgI_put {w W w2 : World} {g : Nat} {X Z : Array Value} (h : PgI w g X W) (hg : w.heap.size ≤ g) (hb : Below W.drew.heap.size W.drew w2) (hx : X.size = 5) (hs : Z.size = 5) (h1 : Z.all (·.oneCell') = true) :
    (storeCells ⟨g, 0, none⟩ Z.toList 0).run Try.prog w2 = .ok () (w2.setCells g 0 Z.toList) ∧ PgI w g Z (w2.setCells g 0 Z.toList) := by
  have hr : Rw w2 g X 57 := Rw.bel (W := W.drew) h.row hb
  have hb2 : Bl w w2 := bnext (below_drew h.bel) hb
  exact ⟨store_row5 w2 g X Z hr hx hs h1, ⟨hr.over (by rw [hx, hs]), hb2.puts hg _ _⟩⟩
end Go.Proofs.Ytlnohjboldenpaa
