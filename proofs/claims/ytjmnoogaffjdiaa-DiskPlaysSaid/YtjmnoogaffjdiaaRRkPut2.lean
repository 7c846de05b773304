/-
  The document's disk: put walked.
-/
import Derived.Test.YtjmnoogaffjdiaaRRkPut
import Derived.Deep.DeepCutAuto
import Derived.Deep.CutBlock
set_option linter.unusedSimpArgs false
set_option linter.unusedVariables false
namespace Go.Proofs.Ytjmnoogaffjdiaa
open Go.RowKit
theorem less_lt : ∀ a b : List UInt8, Op.bytesLess a b = true ↔ a < b
  | a, [] => by cases a <;> simp [Op.bytesLess]
  | [], y :: b => by simp [Op.bytesLess]
  | x :: a, y :: b => by
    rw [List.cons_lt_cons_iff, ← less_lt a b]
    simp [Op.bytesLess]
theorem less_t {a b : ByteArray} (h : Dk.lt a b) : Op.bytesLess a.toList b.toList = true := by rw [less_lt, ByteArray.toList_eq, ByteArray.toList_eq]; exact h
theorem less_f {a b : ByteArray} (h : ¬ Dk.lt a b) : Op.bytesLess a.toList b.toList = false := by
  rw [Bool.eq_false_iff]
  intro hh
  rw [less_lt, ByteArray.toList_eq, ByteArray.toList_eq] at hh
  exact h hh
def rputX (x : Fx) : List Fx → Bool → List Fx
  | [], done => if done then [] else [x]
  | g :: gs, done => if g.f.name = x.f.name then rputX x gs done else if done = false ∧ Dk.lt x.f.name g.f.name then x :: g :: rputX x gs true else g :: rputX x gs done
theorem rputX_fls (x : Fx) : ∀ (xs : List Fx) (d : Bool), fls (rputX x xs d) = Dk.rput x.f (fls xs) d
  | [], d => by unfold rputX Dk.rput; cases d <;> rfl
  | g :: gs, d => by
    unfold rputX
    show _ = Dk.rput x.f (g.f :: fls gs) d
    unfold Dk.rput
    split
    · exact rputX_fls x gs d
    · split
      · show x.f :: g.f :: fls (rputX x gs true) = _
        rw [rputX_fls]
      · show g.f :: fls (rputX x gs d) = _
        rw [rputX_fls]
theorem mem_rputX {x y : Fx} : ∀ {xs : List Fx} {d : Bool}, y ∈ rputX x xs d → y = x ∨ y ∈ xs
  | [], d, h => by unfold rputX at h; cases d <;> simp at h; exact .inl h
  | g :: gs, d, h => by
    unfold rputX at h
    split at h
    · rcases mem_rputX h with h | h
      · exact .inl h
      · exact .inr (List.mem_cons_of_mem _ h)
    · split at h
      · rcases List.mem_cons.1 h with h | h
        · exact .inl h
        · rcases List.mem_cons.1 h with h | h
          · exact .inr (by rw [h]; exact List.mem_cons_self ..)
          · rcases mem_rputX h with h | h
            · exact .inl h
            · exact .inr (List.mem_cons_of_mem _ h)
      · rcases List.mem_cons.1 h with h | h
        · exact .inr (by rw [h]; exact List.mem_cons_self ..)
        · rcases mem_rputX h with h | h
          · exact .inl h
          · exact .inr (List.mem_cons_of_mem _ h)
theorem rputX_len (x : Fx) : ∀ (xs : List Fx) (d : Bool), (rputX x xs d).length ≤ xs.length + 1
  | [], d => by unfold rputX; cases d <;> simp
  | g :: gs, d => by
    unfold rputX
    have h1 := rputX_len x gs true
    have h2 := rputX_len x gs d
    have h3 : ∀ l : List Fx, rputX x l true = l.filter (fun g => decide (g.f.name ≠ x.f.name)) := fun l => by
      induction l with
      | nil => rfl
      | cons a l ih =>
        unfold rputX
        rw [List.filter_cons]
        by_cases he : a.f.name = x.f.name
        · rw [if_pos he, if_neg (by simpa using he)]; exact ih
        · rw [if_neg he, if_neg (by simp), if_pos (by simpa using he), ih]
    split
    · rw [List.length_cons]; omega
    · split
      · have h4 : (rputX x gs true).length ≤ gs.length := by rw [h3]; exact List.length_filter_le ..
        rw [List.length_cons, List.length_cons, List.length_cons]; omega
      · rw [List.length_cons, List.length_cons]; omega
/-- What stands in the new row, and what is still to come. -/
structure Mid (x : Fx) (xs ys : List Fx) (k : Nat) (d : Bool) : Prop where
  all : ys ++ rputX x (xs.drop k) d = rputX x xs false
  len : ys.length ≤ if d = true then k + 1 else k
theorem Mid.skip {x : Fx} {xs ys : List Fx} {k : Nat} {d : Bool} (h : Mid x xs ys k d) (hk : k < xs.length) (he : xs[k].f.name = x.f.name) : Mid x xs ys (k + 1) d := by
  refine ⟨?_, by have := h.len; split at this <;> split <;> omega⟩
  have := h.all
  rw [List.drop_eq_getElem_cons hk, rputX, if_pos he] at this
  exact this
theorem Mid.past {x : Fx} {xs ys : List Fx} {k : Nat} {d : Bool} (h : Mid x xs ys k d) (hk : k < xs.length) (he : xs[k].f.name ≠ x.f.name) (hl : ¬ (d = false ∧ Dk.lt x.f.name xs[k].f.name)) : Mid x xs (ys ++ [xs[k]]) (k + 1) d := by
  refine ⟨?_, by have := h.len; rw [List.length_append, List.length_singleton]; split at this <;> split <;> omega⟩
  have := h.all
  rw [List.drop_eq_getElem_cons hk, rputX, if_neg he, if_neg hl] at this
  rw [List.append_assoc]; exact this
theorem Mid.here {x : Fx} {xs ys : List Fx} {k : Nat} (h : Mid x xs ys k false) (hk : k < xs.length) (he : xs[k].f.name ≠ x.f.name) (hl : Dk.lt x.f.name xs[k].f.name) : Mid x xs ((ys ++ [x]) ++ [xs[k]]) (k + 1) true := by
  refine ⟨?_, by have := h.len; simp at this ⊢; omega⟩
  have := h.all
  rw [List.drop_eq_getElem_cons hk, rputX, if_neg he, if_pos ⟨rfl, hl⟩] at this
  rw [List.append_assoc, List.append_assoc]; exact this
theorem bnext2 {a b c : World} (h : Below a.heap.size a b) (k : Below b.heap.size b c) (_ : a.heap.size ≤ b.heap.size) : Below a.heap.size a c := bnext h k
theorem own_lower {w : World} {base base' : Nat} {e : TypeId} {size : Nat} {v : Value} {n : Nat} {l : List Value} (h : w.ownsRow base e size v n l) (hb : base' ≤ base) : w.ownsRow base' e size v n l := by
  refine ⟨h.1, ?_⟩
  rcases h.2 with h2 | ⟨g, cap, cur, h1, h3, rest⟩
  · exact .inl h2
  · exact .inr ⟨g, cap, cur, h1, Nat.le_trans hb h3, rest⟩
theorem Mid.nil {x : Fx} {xs ys : List Fx} {d : Bool} (h : Mid x xs ys xs.length d) : rputX x xs false = if d then ys else ys ++ [x] := by
  have := h.all
  rw [List.drop_length, rputX] at this
  rw [← this]
  cases d <;> simp
end Go.Proofs.Ytjmnoogaffjdiaa
