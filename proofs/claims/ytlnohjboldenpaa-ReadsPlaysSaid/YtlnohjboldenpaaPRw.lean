/-
  A row in memory: what keeps it, and what turns it.
-/
import Derived.Test.YtlnohjboldenpaaPDkB
set_option linter.unusedSimpArgs false
set_option linter.unusedVariables false
namespace Go.Proofs.Ytlnohjboldenpaa
open Go.RowKit
/-- In block g lie these cells. -/
def Rw (W : World) (g : Nat) (X : Array Value) (T : TypeId) : Prop := W.heap[g]? = some (.cells X T (0, 0))
/-- Nothing that was there has turned. -/
def Bl (w W : World) : Prop := Below w.heap.size w W
theorem Bl.refl (w : World) : Bl w w := Below.refl _ _
theorem Bl.bel {w W : World} (h : Bl w W) : Below w.heap.size w W := h
theorem Bl.le {w W : World} (h : Bl w W) : w.heap.size ≤ W.heap.size := Below.size h
theorem Bl.next {w W W' : World} (h : Bl w W) (hb : Below W.heap.size W W') : Bl w W' := bnext h hb
theorem Bl.alloc {w W : World} (h : Bl w W) (o : Obj) : Bl w (W.alloc o) := bnew h o
theorem Bl.put {w W : World} (h : Bl w W) {g : Nat} (hg : w.heap.size ≤ g) (i : Nat) (v : Value) : Bl w (W.setCell ⟨g, i, none⟩ v) := Below.setCell h (p := ⟨g, i, none⟩) hg v
theorem Bl.puts {w W : World} (h : Bl w W) {g : Nat} (hg : w.heap.size ≤ g) (k : Nat) (vs : List Value) : Bl w (W.setCells g k vs) := setCells_below hg vs k W h
theorem Bl.drewN {w W : World} (h : Bl w W) (n : Nat) : Bl w (W.drewN n) := below_drewN h n
section
variable {W W' w : World} {g j i k B : Nat} {X Y : Array Value} {T : TypeId} {v : Value} {vs : List Value}
theorem Rw.lt (h : Rw W g X T) : g < W.heap.size := (Array.getElem?_eq_some_iff.1 h).1
theorem Rw.bel (h : Rw W g X T) (hb : Below W.heap.size W W') : Rw W' g X T := (hb.block g h.lt).trans h
theorem Rw.new (W : World) (X : Array Value) (T : TypeId) : Rw (W.alloc (.cells X T)) W.heap.size X T := heap_alloc_new W _
theorem Rw.drew (h : Rw W g X T) : Rw W.drew g X T := h
theorem Rw.drewN (h : Rw W g X T) (n : Nat) : Rw (W.drewN n) g X T := h.bel (below_drewN (Below.refl _ _) n)
theorem Rw.put (h : Rw W g X T) (i : Nat) (v : Value) : Rw (W.setCell ⟨g, i, none⟩ v) g (X.setIfInBounds i v) T := heap_setCell_same W g i X T v h
theorem Rw.same (h : Rw W g X T) (i : Nat) (v : Value) (hv : X[i]? = some v) : Rw (W.setCell ⟨g, i, none⟩ v) g X T := by
  have h2 := h.put i v
  have e : X.setIfInBounds i v = X := by
    apply Array.ext_getElem?
    intro m
    rw [Array.getElem?_setIfInBounds]
    split
    · rename_i hm
      subst hm
      split
      · exact hv.symm
      · rename_i hn
        exact absurd (Array.getElem?_eq_some_iff.1 hv).1 hn
    · rfl
  rwa [e] at h2
theorem Rw.oput (h : Rw W g X T) (hj : g ≠ j) (i : Nat) (v : Value) : Rw (W.setCell ⟨j, i, none⟩ v) g X T := (heap_setCell_other W ⟨j, i, none⟩ g v hj).trans h
theorem Rw.puts (h : Rw W g X T) (k : Nat) (vs : List Value) : Rw (W.setCells g k vs) g (lay X k vs) T := row_setCells vs k W X h
theorem Rw.oputs (h : Rw W g X T) (hj : g ≠ j) (k : Nat) (vs : List Value) : Rw (W.setCells j k vs) g X T := (setCells_other hj vs k W).trans h
theorem Rw.cell (h : Rw W g X T) (i : Nat) {v : Value} (hv : X[i]? = some v) : W.cell? ⟨g, i, none⟩ = some v := (cell_of_row W g i _ _ _ h).trans hv
theorem Rw.free (h : Rw W g X T) (i : Nat) : W.frozen? ⟨g, i, none⟩ = false := frozen_of_row W g i X T h
theorem Rw.alloc (h : Rw W g X T) (o : Obj) : Rw (W.alloc o) g X T := h.bel (bnew (Below.refl _ _) o)
/-- All cells laid anew. -/
theorem lay_all_eq {X : Array Value} {L : List Value} (h : X.size = L.length) : lay X 0 L = L.toArray := by
  have key : ∀ (L : List Value) (k : Nat) (X : Array Value) (i : Nat), k ≤ i → i < k + L.length → k + L.length ≤ X.size → (lay X k L)[i]? = L[i - k]? := by
    intro L
    induction L with
    | nil => intro k X i h1 h2 _; simp at h2; omega
    | cons v r ih =>
      intro k X i h1 h2 h3
      rw [lay]
      by_cases he : i = k
      · subst he
        have hout : ∀ (r : List Value) (m : Nat) (Z : Array Value), i < m → (lay Z m r)[i]? = Z[i]? := by
          intro r
          induction r with
          | nil => intro m Z _; rfl
          | cons u r ih2 =>
            intro m Z hm
            rw [lay, ih2 (m + 1) _ (by omega), Array.getElem?_setIfInBounds, if_neg (by omega)]
        rw [hout r (i + 1) _ (by omega), Array.getElem?_setIfInBounds, if_pos rfl, if_pos (by simp at h3; omega)]
        simp
      · rw [ih (k + 1) _ i (by omega) (by simp at h2; omega) (by rw [Array.size_setIfInBounds]; simp at h3; omega)]
        have e : i - k = (i - (k + 1)) + 1 := by omega
        rw [e, List.getElem?_cons_succ]
  apply Array.ext_getElem?
  intro i
  by_cases hi : i < L.length
  · rw [key L 0 X i (by omega) (by omega) (by omega), Nat.sub_zero, List.getElem?_toArray]
  · rw [Array.getElem?_eq_none (by rw [lay_size]; omega), List.getElem?_toArray, List.getElem?_eq_none (by omega)]
theorem Rw.over (h : Rw W g X T) {Y : Array Value} (hs : X.size = Y.size) : Rw (W.setCells g 0 Y.toList) g Y T := by
  have h2 := h.puts 0 Y.toList
  rwa [lay_all_eq (by simpa using hs)] at h2
end
end Go.Proofs.Ytlnohjboldenpaa
