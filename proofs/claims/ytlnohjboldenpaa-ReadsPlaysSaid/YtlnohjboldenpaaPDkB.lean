/-
  Loads and stores of structs that lie within a row, whole: the cells may be unknown.
-/
import Derived.Test.YtlnohjboldenpaaPWords
import Derived.Deep.MidRow
set_option linter.unusedSimpArgs false
set_option linter.unusedVariables false
namespace Go.Proofs.Ytlnohjboldenpaa
open Go.RowKit
section
variable {P : Program}
/-- Cells laid over a row from place k on. -/
def lay (X : Array Value) : Nat → List Value → Array Value
  | _, [] => X
  | k, v :: r => lay (X.setIfInBounds k v) (k + 1) r
theorem lay_size : ∀ (vs : List Value) (k : Nat) (X : Array Value), (lay X k vs).size = X.size
  | [], _, _ => rfl
  | v :: r, k, X => by rw [lay, lay_size r]; simp
theorem row_setCells {g : Nat} {T : TypeId} : ∀ (vs : List Value) (k : Nat) (W : World) (X : Array Value), W.heap[g]? = some (.cells X T (0, 0)) → (W.setCells g k vs).heap[g]? = some (.cells (lay X k vs) T (0, 0))
  | [], _, _, _, h => h
  | v :: r, k, W, X, h => by
    rw [World.setCells, lay]
    exact row_setCells r (k + 1) _ _ (heap_setCell_same W g k X T v h)
theorem setCells_other {g j : Nat} (hj : j ≠ g) : ∀ (vs : List Value) (k : Nat) (W : World), (W.setCells g k vs).heap[j]? = W.heap[j]?
  | [], _, _ => rfl
  | v :: r, k, W => by
    rw [World.setCells, setCells_other hj r (k + 1)]
    exact heap_setCell_other W ⟨g, k, none⟩ j v hj
theorem setCells_below {B g : Nat} {w : World} (hg : B ≤ g) : ∀ (vs : List Value) (k : Nat) (W : World), Below B w W → Below B w (W.setCells g k vs)
  | [], _, _, h => h
  | v :: r, k, W, h => by
    rw [World.setCells]
    exact setCells_below hg r (k + 1) _ (h.setCell (p := ⟨g, k, none⟩) hg v)
theorem there_row {W : World} {g : Nat} {X : Array Value} {T : TypeId} (h : W.heap[g]? = some (.cells X T (0, 0))) (k n : Nat) (hn : k + n ≤ X.size) : W.there g k n := fun j hj =>
  ⟨by rw [cell_of_row W g (k + j) X T _ h, Array.getElem?_eq_getElem (by omega)]; rfl, frozen_of_row W g (k + j) X T h⟩
theorem range_row {W : World} {g : Nat} {X : Array Value} {T : TypeId} {fr : Nat × Nat} (h : W.heap[g]? = some (.cells X T fr)) (k : Nat) (Y : Array Value) (hY : ∀ j, j < Y.size → X[k + j]? = Y[j]?) : W.rangeAt g k Y.toList := fun j v hv => by
  have hj : j < Y.size := by simpa using (List.getElem?_eq_some_iff.1 hv).1
  rw [cell_of_row W g (k + j) X T fr h, hY j hj]
  simpa using hv
section
variable {ops : Array Oper} {Q : Exit → Act → World → Prop} {a : Act} {w : World} {rest : List Oper} {o : Oper}
theorem wpList_want (hw : Region.wanted o (yielded ops a.tmps) = true)
    (h : ∀ K : Act → World → Prop, (∀ a w, wpList P ops Q rest a w → K a w) → o.wp P a w K Q) : wpList P ops Q (o :: rest) a w :=
  wpList_step fun K hK => by rw [if_pos hw]; exact h K hK
/-- A struct that lies in a row from place k on is loaded. -/
theorem wpList_load_sub (hw : Region.wanted o (yielded ops a.tmps) = true) (ty : TypeId) (x : Operand) (ho : o.op = .load ty x)
    (g k : Nat) (hx : a.eval x = .pointer (some ⟨g, k, none⟩)) (T : TypeId) (X Y : Array Value) (fr : Nat × Nat) (d : TypeDesc) (hg : w.heap[g]? = some (.cells X T fr)) (hY : ∀ j, j < Y.size → X[k + j]? = Y[j]?)
    (hu : P.underlying ty = some d) (hd : d.isRow = true) (hi : (P.info? ty).map (·.size) = some Y.size)
    (h : wpList P ops Q rest (a.put o.dst (.agg Y)) w) : wpList P ops Q (o :: rest) a w :=
  wpList_want hw fun K hK => wp_load_mid ty x ho g k hx Y.toList d (range_row hg k Y hY) hu hd (by simpa using hi) (by simpa using hK _ _ h)
/-- A struct is stored into a row from place k on. -/
theorem wpList_store_sub (hw : Region.wanted o (yielded ops a.tmps) = true) (ty : TypeId) (x y : Operand) (ho : o.op = .store ty x y)
    (g k : Nat) (hx : a.eval x = .pointer (some ⟨g, k, none⟩)) (T : TypeId) (X Y : Array Value) (hy : a.eval y = .agg Y) (hg : w.heap[g]? = some (.cells X T (0, 0))) (hk : k + Y.size ≤ X.size)
    (hi : (P.info? ty).map (·.size) = some Y.size) (h1 : Y.all (·.oneCell') = true)
    (h : wpList P ops Q rest (a.put o.dst undef) (w.setCells g k Y.toList)) : wpList P ops Q (o :: rest) a w :=
  wpList_want hw fun K hK => wp_store_mid ty x y ho g k Y hx hy (there_row hg k Y.size hk) hi h1 (hK _ _ h)
end
end
end Go.Proofs.Ytlnohjboldenpaa
