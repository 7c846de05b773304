/-
  Layer 13: a leader's reads as plain mathematics.
-/
import Derived.Test.YtlnohjboldenpaaPWords
set_option linter.unusedSimpArgs false
set_option linter.unusedVariables false
namespace Go.Proofs.Ytlnohjboldenpaa
namespace Rd
/-- A read that is begun: Id, index, round. -/
structure E where
  id : Nat
  idx : Nat
  rnd : Nat
deriving DecidableEq
/-- Reads: those begun, the Ids of those that wait. -/
structure R where
  b : List E
  w : List Nat
def isIt (i : Nat) (e : E) : Bool := decide (e.id = i)
def has (r : R) (i : Nat) : Bool := r.w.any (fun x => decide (x = i)) || r.b.any (isIt i)
def ask (r : R) (i : Nat) : R := if has r i = true then r else { r with w := r.w ++ [i] }
def hi (b : List E) (i : Nat) : Nat := match b.getLast? with | none => i | some e => max i e.idx
def hr (b : List E) (t : Nat) : Nat := match b.getLast? with | none => t | some e => max t e.rnd
def put (i t : Nat) (l : List Nat) : List E := l.map fun x => ⟨x, i, t⟩
def begin (r : R) (i t : Nat) : R := ⟨r.b ++ put (hi r.b i) (hr r.b t) r.w, []⟩
def cnt (t : Nat) : List E → Nat
  | [] => 0
  | e :: l => if e.rnd ≤ t then cnt t l + 1 else 0
def left (r : R) (t : Nat) : R := { r with b := r.b.drop (cnt t r.b) }
def told (r : R) (t : Nat) : List E := r.b.take (cnt t r.b)
def ids (r : R) : List Nat := r.b.map (·.id) ++ r.w
/-- Numbers that fit. -/
structure EFit (e : E) : Prop where
  id : e.id < Nm.top
  idx : e.idx < Nm.top
  rnd : e.rnd < Nm.top
structure Fits (r : R) : Prop where
  b : ∀ e ∈ r.b, EFit e
  w : ∀ x ∈ r.w, x < Nm.top
  few : r.b.length + r.w.length ≤ 200000
theorem cnt_le (t : Nat) (l : List E) : cnt t l ≤ l.length := by
  induction l with
  | nil => exact Nat.le_refl _
  | cons e l ih => unfold cnt; split <;> simp <;> omega
/-- The count goes on, or ends. -/
theorem cnt_drop (t : Nat) (l : List E) (k : Nat) (hk : k < l.length) (h : cnt t l = k + cnt t (l.drop k)) : (l[k].rnd ≤ t → cnt t l = k + 1 + cnt t (l.drop (k + 1))) ∧ (¬ l[k].rnd ≤ t → cnt t l = k) := by
  rw [List.drop_eq_getElem_cons hk] at h
  refine ⟨fun hr => ?_, fun hr => ?_⟩
  · rw [h, cnt, if_pos hr]; omega
  · rw [h, cnt, if_neg hr]; omega
theorem ask_fits {r : R} (h : Fits r) {i : Nat} (hi : i < Nm.top) (hf : r.b.length + r.w.length + 1 ≤ 200000) : Fits (ask r i) := by
  unfold ask
  split
  · exact h
  · refine ⟨h.b, fun x hx => ?_, by simp; omega⟩
    rcases List.mem_append.1 hx with hx | hx
    · exact h.w x hx
    · rw [List.mem_singleton.1 hx]; exact hi
theorem hi_fits {r : R} (h : Fits r) {i : Nat} (hi' : i < Nm.top) : hi r.b i < Nm.top := by
  unfold hi
  split
  · exact hi'
  · rename_i e he
    exact Nat.max_lt.2 ⟨hi', (h.b e (List.mem_of_getLast? he)).idx⟩
theorem hr_fits {r : R} (h : Fits r) {i : Nat} (hi' : i < Nm.top) : hr r.b i < Nm.top := by
  unfold hr
  split
  · exact hi'
  · rename_i e he
    exact Nat.max_lt.2 ⟨hi', (h.b e (List.mem_of_getLast? he)).rnd⟩
theorem put_len (i t : Nat) (l : List Nat) : (put i t l).length = l.length := by simp [put]
theorem mid_fits {r : R} (h : Fits r) {i t : Nat} (hi : i < Nm.top) (ht : t < Nm.top) (l : List Nat) (hl : ∀ x ∈ l, x < Nm.top) (e : E) (he : e ∈ r.b ++ put i t l) : EFit e := by
  rcases List.mem_append.1 he with he | he
  · exact h.b e he
  · obtain ⟨x, hx, rfl⟩ := List.mem_map.1 he
    exact ⟨hl x hx, hi, ht⟩
theorem begin_fits {r : R} (h : Fits r) {i t : Nat} (hi' : i < Nm.top) (ht : t < Nm.top) : Fits (begin r i t) :=
  ⟨(fun e he => mid_fits h (hi_fits h hi') (hr_fits h ht) r.w h.w e he), (fun x hx => by cases hx), by
    have := h.few
    show (r.b ++ put _ _ r.w).length + 0 ≤ _
    rw [List.length_append, put_len]; omega⟩
theorem left_fits {r : R} (h : Fits r) (t : Nat) : Fits (left r t) :=
  ⟨fun e he => h.b e (List.mem_of_mem_drop he), h.w, by have := h.few; show (r.b.drop _).length + _ ≤ _; rw [List.length_drop]; show _ + r.w.length ≤ _; omega⟩
theorem none_fits : Fits ⟨[], []⟩ := ⟨(fun e he => by cases he), (fun x hx => by cases hx), by simp⟩
theorem told_fits {r : R} (h : Fits r) (t : Nat) : ∀ e ∈ told r t, EFit e := fun e he => h.b e (List.mem_of_mem_take he)
theorem ids_fits {r : R} (h : Fits r) : ∀ x ∈ ids r, x < Nm.top := fun x hx => by
  rcases List.mem_append.1 hx with hx | hx
  · obtain ⟨e, he, rfl⟩ := List.mem_map.1 hx; exact (h.b e he).id
  · exact h.w x hx
theorem told_len (r : R) (t : Nat) : (told r t).length = cnt t r.b := by
  unfold told; rw [List.length_take]; have := cnt_le t r.b; omega
end Rd
end Go.Proofs.Ytlnohjboldenpaa
