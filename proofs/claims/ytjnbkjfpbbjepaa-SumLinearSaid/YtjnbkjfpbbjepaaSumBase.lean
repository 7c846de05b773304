/-
  Small words for the walks of layer 2: the table as an array of cells.
-/
import Derived.Test.YtjnbkjfpbbjepaaBase
import Derived.Test.YtjnbkjfpbbjepaaSumMath
import Derived.Deep.WholeRow
namespace Go.Proofs.Ytjnbkjfpbbjepaa
open Go.RowKit

/-- A table of zeros; the table. -/
def zerosA : Array Value := Array.replicate 256 (.int .u32 0)
def tabOf (f : Nat → Nat) : Array Value := ((List.range 256).map fun i => Value.int .u32 ((f i : Nat) : Int)).toArray
def tabA : Array Value := tabOf Cr.tab
theorem tabOf_size (f : Nat → Nat) : (tabOf f).size = 256 := by simp [tabOf]
theorem tabOf_at (f : Nat → Nat) (i : Nat) (h : i < 256) : (tabOf f)[i]? = some (.int .u32 ((f i : Nat) : Int)) := by
  unfold tabOf
  rw [List.getElem?_toArray, List.getElem?_map, List.getElem?_range h]; rfl
theorem tabOf_one (f : Nat → Nat) : (tabOf f).all (·.oneCell') = true := by
  rw [Array.all_eq_true]
  intro i hi
  have h : i < 256 := by rw [tabOf_size] at hi; exact hi
  have := tabOf_at f i h
  rw [Array.getElem?_eq_getElem hi] at this
  injection this with this
  rw [this]; rfl
theorem tabA_at (i : Nat) (h : i < 256) : tabA[i]? = some (.int .u32 ((Cr.tab i : Nat) : Int)) := tabOf_at _ i h

theorem Try.infoTable : (Try.prog.info? 24).map (fun i => (i.zero, i.size)) = some (some (.agg zerosA), 256) := by kernel_rfl
theorem zeroTable (w : World) : (zeroValue 24).run Try.prog w = .ok (.agg zerosA) w := (zero_of_info Try.infoTable).1 w
theorem sizeTable : (Try.prog.info? 24).map (·.size) = some 256 := (zero_of_info Try.infoTable).2
theorem zeros_size : zerosA.size = 256 := by simp [zerosA]
/-- A whole table laid into a variable that was just made. -/
theorem storeTable (f : Nat → Nat) (w : World) : (storeCells ⟨w.heap.size, 0, none⟩ (tabOf f).toList 0).run Try.prog (w.alloc (.cells zerosA 24)) = .ok () (w.alloc (.cells (tabOf f) 24)) :=
  run_storeCells_new (P := Try.prog) w 24 zerosA (tabOf f) (by rw [tabOf_size]; exact sizeTable) (by rw [zeros_size, tabOf_size]) (tabOf_one f)
theorem storeTabA (w : World) : (storeCells ⟨w.heap.size, 0, none⟩ tabA.toList 0).run Try.prog (w.alloc (.cells zerosA 24)) = .ok () (w.alloc (.cells tabA 24)) := storeTable Cr.tab w

theorem tabA_size : tabA.size = 256 := tabOf_size _
theorem tabA_one : tabA.all (·.oneCell') = true := tabOf_one _
attribute [irreducible] tabA zerosA tabOf

/-- The sum of texts, as one. -/
def crcs (ss : List ByteArray) : Nat := Cr.crc (ss.map fun s => s.data.toList).flatten
/-- A table lies at g. -/
def TabAt (w : World) (g : Nat) : Prop := w.heap[g]? = some (.cells tabA 24 (0, 0))
theorem TabAt.lt {w : World} {g : Nat} (h : TabAt w g) : g < w.heap.size := (Array.getElem?_eq_some_iff.1 h).1
theorem TabAt.below {w w' : World} {g : Nat} (h : TabAt w g) (hb : Below w.heap.size w w') : TabAt w' g := (hb.block g h.lt).trans h
theorem TabAt.drewN {w : World} {g : Nat} (h : TabAt w g) (n : Nat) : TabAt (w.drewN n) g := h
theorem TabAt.new (w : World) : TabAt (w.alloc (.cells tabA 24)) w.heap.size := heap_alloc_new w _
theorem TabAt.cell {w : World} {g : Nat} (h : TabAt w g) (i : Nat) (hi : i < 256) : w.cell? ⟨g, i, none⟩ = some (.int .u32 ((Cr.tab i : Nat) : Int)) := by
  rw [cell_of_row w g i _ _ _ h, tabA_at i hi]

/-- What the two functions of layer 2 do. -/
structure SumSays : Prop where
  make : ∀ w, Calls Try.prog 8 #[] w fun e w' => e = .returned (.agg tabA) ∧ Below w.heap.size w w'
  of_ : ∀ (w : World) (g : Nat) (A : Option Addr) (cap : Nat) (ss : List ByteArray), TabAt w g → Lies w A (sc ss) → ss.length ≤ 1000000 → (∀ s ∈ ss, s.size ≤ 1000000000) →
    Calls Try.prog 9 #[.pointer (some ⟨g, 0, none⟩), .slice A ss.length cap] w fun e w' => e = .returned (.int .u32 ((crcs ss : Nat) : Int)) ∧ Below w.heap.size w w'
  any_ : ∀ (w : World) (g : Nat) (cs : Array Value) (A : Option Addr) (cap : Nat) (ss : List ByteArray), w.heap[g]? = some (.cells cs 24 (0, 0)) → (∀ i, i < 256 → ∃ n : Nat, n < 4294967296 ∧ cs[i]? = some (.int .u32 (n : Int))) → Lies w A (sc ss) → ss.length ≤ 1000000 → (∀ s ∈ ss, s.size ≤ 1000000000) →
    Calls Try.prog 9 #[.pointer (some ⟨g, 0, none⟩), .slice A ss.length cap] w fun e w' => (∃ x : Int, e = .returned (.int .u32 x)) ∧ Below w.heap.size w w'
  nil_ : ∀ (w : World) (A : Option Addr) (n cap : Nat), Calls Try.prog 9 #[.pointer none, .slice A n cap] w fun e w' => e = .returned (.int .u32 0) ∧ Below w.heap.size w w'
end Go.Proofs.Ytjnbkjfpbbjepaa
