/-
  The plain mathematics of layer 11 (logs). No program is named here.
-/
import Derived.Test.YtlnohjboldenpaaLEnA
set_option linter.unusedSimpArgs false
set_option linter.unusedVariables false
namespace Go.Proofs.Ytlnohjboldenpaa
namespace Lg
open En (E)
structure L where
  idx : Nat
  trm : Nat
  mem : Nat
  es : List E
def fit : Nat → Nat → List E → Bool
  | _, _, [] => true
  | i, t, e :: r => decide (e.idx = i + 1 ∧ t ≤ e.trm) && fit e.idx e.trm r
def lst (l : L) : Nat × Nat := match l.es.getLast? with
  | none => (l.idx, l.trm)
  | some e => (e.idx, e.trm)
def upTo (l : L) (i : Nat) : Nat := min (i - l.idx) l.es.length
def bel (l : L) (i : Nat) : Nat := upTo l (i - 1)
def term (l : L) (i : Nat) : Option Nat :=
  if i = l.idx then some l.trm else if upTo l i = 0 then none else
  match l.es[upTo l i - 1]? with
  | some e => if e.idx = i then some e.trm else none
  | none => none
def has (l : L) (i t : Nat) : Bool := decide (term l i = some t)
def frm (l : L) (i : Nat) (m : Nat) : List E := (l.es.drop (bel l i)).take m
def isC (e : E) : Bool := decide (e.kind = 2) && decide (e.body.size = 1)
def mb (e : E) : Nat := (e.body.data.toList.headD 0).toNat
def memA (l : L) (c : Nat) : Nat × Nat := match (l.es.take c).reverse.find? isC with
  | some e => (mb e, e.idx)
  | none => (l.mem, l.idx)
def asNew (l : L) (i t : Nat) : Bool := decide ((lst l).2 < t) || (decide (t = (lst l).2) && decide ((lst l).1 ≤ i))
def next (l : L) (e : E) : E := { e with idx := (lst l).1 + 1, trm := max e.trm (lst l).2 }
def add (l : L) (e : E) : L := { l with es := l.es ++ [next l e] }
def hit (l : L) (e : E) : Bool := decide (e.idx = l.idx) && decide (e.trm = l.trm)
def joins (l : L) (i t : Nat) (x : List E) : Bool := if l.idx ≤ i then has l i t else x.any (hit l)
def lacks (l : L) (e : E) : Bool := decide (l.idx < e.idx) && !has l e.idx e.trm
def lacking (l : L) : List E → List E
  | [] => []
  | e :: r => if lacks l e = true then e :: r else lacking l r
def place (l : L) : List E → List E
  | [] => l.es
  | e :: r => l.es.take (bel l e.idx) ++ (e :: r)
def puts (l : L) (i t : Nat) (x : List E) : Bool := fit i t x && joins l i t x
def put (l : L) (x : List E) : L := { l with es := place l (lacking l x) }
def bgn (l : L) (i t m : Nat) : L := ⟨i, t, m, l.es.drop (upTo l i)⟩
def cut (l : L) (i : Nat) : Nat × L := if i < l.idx then (10, l) else
  match term l i with
  | none => (4, l)
  | some t => (0, bgn l i t (memA l (upTo l i)).1)
def reset (l : L) (i t m : Nat) : L := bgn (if has l i t = true then l else { l with es := [] }) i t m
/-- Entries of a log that New, Add and Put make. -/
def Ok (l : L) : Prop := fit l.idx l.trm l.es = true

theorem fit_cons {i t : Nat} {e : E} {r : List E} : fit i t (e :: r) = true ↔ (e.idx = i + 1 ∧ t ≤ e.trm) ∧ fit e.idx e.trm r = true := by
  simp [fit]
theorem fit_get : ∀ {es : List E} {i t : Nat}, fit i t es = true → ∀ k (h : k < es.length), es[k].idx = i + 1 + k
  | e :: r, i, t, hf, 0, _ => (fit_cons.1 hf).1.1
  | e :: r, i, t, hf, k + 1, h => by
    have h1 := fit_cons.1 hf
    have := fit_get h1.2 k (by simpa using h)
    simp only [List.getElem_cons_succ]
    rw [this, h1.1.1]; omega
theorem fit_low : ∀ {es : List E} {i t : Nat}, fit i t es = true → ∀ k (h : k < es.length), t ≤ es[k].trm
  | e :: r, i, t, hf, 0, _ => (fit_cons.1 hf).1.2
  | e :: r, i, t, hf, k + 1, h => by
    have h1 := fit_cons.1 hf
    have := fit_low h1.2 k (by simpa using h)
    simp only [List.getElem_cons_succ]
    exact Nat.le_trans h1.1.2 this
theorem fit_step : ∀ {es : List E} {i t : Nat}, fit i t es = true → ∀ k (h : k + 1 < es.length), es[k].trm ≤ es[k + 1].trm
  | e :: [], i, t, hf, k, h => by simp at h
  | e :: f :: r, i, t, hf, 0, _ => (fit_cons.1 (fit_cons.1 hf).2).1.2
  | e :: f :: r, i, t, hf, k + 1, h => by
    have := fit_step (fit_cons.1 hf).2 k (by simpa using h)
    simpa using this
/-- Where a row of entries ends. -/
def fin (i t : Nat) (es : List E) : Nat × Nat := match es.getLast? with
  | none => (i, t)
  | some e => (e.idx, e.trm)
theorem lst_fin (l : L) : lst l = fin l.idx l.trm l.es := rfl
theorem fin_cons (i t : Nat) (e : E) (r : List E) : fin i t (e :: r) = fin e.idx e.trm r := by
  unfold fin
  cases r with
  | nil => rfl
  | cons f r => rw [List.getLast?_cons_cons]; cases h : (f :: r).getLast? <;> simp_all
theorem fin_snoc (i t : Nat) (es : List E) (e : E) : fin i t (es ++ [e]) = (e.idx, e.trm) := by unfold fin; rw [List.getLast?_concat]
theorem fit_append : ∀ (a b : List E) (i t : Nat), fit i t (a ++ b) = (fit i t a && fit (fin i t a).1 (fin i t a).2 b)
  | [], b, i, t => by simp [fit, fin]
  | e :: a, b, i, t => by
    rw [List.cons_append, fit, fit, fit_append a b, fin_cons, Bool.and_assoc]
theorem fin_append : ∀ (a b : List E) (i t : Nat), fin i t (a ++ b) = fin (fin i t a).1 (fin i t a).2 b
  | [], b, i, t => rfl
  | e :: a, b, i, t => by rw [List.cons_append, fin_cons, fin_append a b, fin_cons]
theorem fin_idx {es : List E} : ∀ {i t : Nat}, fit i t es = true → (fin i t es).1 = i + es.length := by
  induction es with
  | nil => intro i t _; rfl
  | cons e r ih =>
    intro i t h
    rw [fin_cons, ih (fit_cons.1 h).2, (fit_cons.1 h).1.1, List.length_cons]; omega
theorem fin_low {es : List E} : ∀ {i t : Nat}, fit i t es = true → t ≤ (fin i t es).2 := by
  induction es with
  | nil => intro i t _; exact Nat.le_refl _
  | cons e r ih =>
    intro i t h
    rw [fin_cons]
    exact Nat.le_trans (fit_cons.1 h).1.2 (ih (fit_cons.1 h).2)
theorem Ok.lst {l : L} (h : Ok l) : (lst l).1 = l.idx + l.es.length := fin_idx h
theorem fit_take {es : List E} {i t : Nat} (h : fit i t es = true) (k : Nat) : fit i t (es.take k) = true := by
  have := fit_append (es.take k) (es.drop k) i t
  rw [List.take_append_drop, h] at this
  simp at this; exact this.1
theorem fit_drop {es : List E} {i t : Nat} (h : fit i t es = true) (k : Nat) : fit (fin i t (es.take k)).1 (fin i t (es.take k)).2 (es.drop k) = true := by
  have := fit_append (es.take k) (es.drop k) i t
  rw [List.take_append_drop, h] at this
  simp at this; exact this.2
/-- The term at a place between. -/
def tat (l : L) (k : Nat) : Nat := (fin l.idx l.trm (l.es.take k)).2
theorem tat_zero (l : L) : tat l 0 = l.trm := by simp [tat, fin]
theorem tat_succ (l : L) (k : Nat) (h : k < l.es.length) : tat l (k + 1) = l.es[k].trm := by
  unfold tat
  rw [List.take_succ_eq_append_getElem h, fin_snoc]
/-- What a right log has at an index. -/
theorem term_ok {l : L} (h : Ok l) (i : Nat) : term l i = if l.idx ≤ i ∧ i ≤ l.idx + l.es.length then some (tat l (i - l.idx)) else none := by
  unfold term
  by_cases h0 : i = l.idx
  · subst h0
    rw [if_pos rfl, if_pos ⟨Nat.le_refl _, by omega⟩, Nat.sub_self, tat_zero]
  rw [if_neg h0]
  by_cases h1 : upTo l i = 0
  · rw [if_pos h1, if_neg]
    unfold upTo at h1; omega
  rw [if_neg h1]
  have hu : upTo l i - 1 < l.es.length := by unfold upTo at h1 ⊢; omega
  rw [List.getElem?_eq_getElem hu]
  simp only []
  rw [fit_get h _ hu]
  by_cases h2 : l.idx ≤ i ∧ i ≤ l.idx + l.es.length
  · have e1 : upTo l i - 1 = i - l.idx - 1 := by unfold upTo; omega
    rw [if_pos (by rw [e1]; omega), if_pos h2]
    have e2 : i - l.idx = (upTo l i - 1) + 1 := by rw [e1]; omega
    rw [e2, tat_succ l _ hu]
  · rw [if_neg h2, if_neg]
    have : ¬ (l.idx ≤ i ∧ i ≤ l.idx + l.es.length) := h2
    unfold upTo at h1 ⊢; omega
theorem term_some {l : L} (h : Ok l) {i t : Nat} (ht : term l i = some t) : l.idx ≤ i ∧ i ≤ l.idx + l.es.length ∧ t = tat l (i - l.idx) := by
  rw [term_ok h] at ht
  split at ht
  · rename_i hc; injection ht with ht; exact ⟨hc.1, hc.2, ht.symm⟩
  · cases ht
theorem tat_le {l : L} (h : Ok l) (k : Nat) : l.trm ≤ tat l k := fin_low (fit_take h k)
theorem fin_take {l : L} (h : Ok l) (k : Nat) (hk : k ≤ l.es.length) : fin l.idx l.trm (l.es.take k) = (l.idx + k, tat l k) := by
  refine Prod.ext ?_ rfl
  rw [fin_idx (fit_take h k), List.length_take]; simp only []; omega
theorem add_ok {l : L} (h : Ok l) (e : E) : Ok (add l e) := by
  unfold Ok add
  simp only []
  rw [fit_append, h, Bool.true_and, ← lst_fin, fit_cons]
  exact ⟨⟨rfl, Nat.le_max_right _ _⟩, rfl⟩
theorem new_ok {i t m : Nat} {es : List E} (h : fit i t es = true) : Ok ⟨i, t, m, es⟩ := h
theorem nil_ok (i t m : Nat) : Ok ⟨i, t, m, []⟩ := rfl
theorem bgn_ok {l : L} (h : Ok l) {i m : Nat} (h1 : l.idx ≤ i) (h2 : i ≤ l.idx + l.es.length) : Ok (bgn l i (tat l (i - l.idx)) m) := by
  unfold Ok bgn
  simp only []
  have hk : upTo l i = i - l.idx := by unfold upTo; omega
  have := fit_drop h (i - l.idx)
  rw [fin_take h _ (by omega)] at this
  rw [hk]
  have e : l.idx + (i - l.idx) = i := by omega
  rw [e] at this
  exact this
theorem bgn_past {l : L} {i t m : Nat} (h2 : l.idx + l.es.length ≤ i) : (bgn l i t m).es = [] := by
  unfold bgn
  simp only []
  apply List.drop_eq_nil_of_le
  unfold upTo; omega

/-! Put. -/
theorem lacking_suffix (l : L) : ∀ x : List E, ∃ p, x = p ++ lacking l x ∧ (∀ e ∈ p, lacks l e = false) ∧ (∀ e r, lacking l x = e :: r → lacks l e = true)
  | [] => ⟨[], rfl, fun _ h => (by cases h), fun _ _ h => (by cases h)⟩
  | e :: r => by
    unfold lacking
    by_cases h : lacks l e = true
    · rw [if_pos h]
      exact ⟨[], rfl, fun _ hm => (by cases hm), fun e' r' he => by injection he with he _; rw [← he]; exact h⟩
    · rw [if_neg h]
      obtain ⟨p, h1, h2, h3⟩ := lacking_suffix l r
      refine ⟨e :: p, by rw [List.cons_append, ← h1], fun e' he => ?_, h3⟩
      rcases List.mem_cons.1 he with rfl | he
      · exact Bool.eq_false_iff.2 h
      · exact h2 e' he
end Lg
end Go.Proofs.Ytlnohjboldenpaa
