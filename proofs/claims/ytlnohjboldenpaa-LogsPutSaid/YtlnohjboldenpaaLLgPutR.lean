/-
  What LogsPut and LogsAgree want of Put, in plain mathematics.
-/
import Derived.Test.YtlnohjboldenpaaLLgPut
set_option linter.unusedSimpArgs false
set_option linter.unusedVariables false
namespace Go.Proofs.Ytlnohjboldenpaa
namespace Lg
open En
theorem put_nil {l : L} {x : List E} (h : lacking l x = []) : put l x = l := by unfold put; rw [h]; rfl
/-- Something fresh: the log ends with it, at the last that was put. -/
theorem put_end {l : L} (h : Ok l) {i t : Nat} {x : List E} (hf : fit i t x = true) (hj : joins l i t x = true) (hn : lacking l x ≠ []) :
    (lst (put l x)).1 = i + x.length ∧ (lacking l x).length ≤ (put l x).es.length ∧ (put l x).es.drop ((put l x).es.length - (lacking l x).length) = lacking l x := by
  obtain ⟨p, hx, h1, h2, _, _, _, _, h4⟩ := put_es h hf hj
  rcases h4 with ⟨h4, _⟩ | ⟨_, h4⟩
  · exact absurd h4 hn
  · have hxl : x.length = p.length + (lacking l x).length := by
      have := congrArg List.length hx
      rw [List.length_append] at this; exact this
    have hl : (put l x).es.length = i + p.length - l.idx + (lacking l x).length := by rw [h4, List.length_append, List.length_take]; omega
    refine ⟨?_, by omega, ?_⟩
    · rw [(put_ok h hf hj).lst, hl]
      show l.idx + _ = _
      omega
    · rw [hl, Nat.add_sub_cancel, h4, List.drop_append_of_le_length (by rw [List.length_take]; omega), List.drop_eq_nil_of_le (by rw [List.length_take]; omega), List.nil_append]
/-- Put again right behind. -/
theorem puts_again {l : L} (h : Ok l) {i t : Nat} {x : List E} (hp : puts l i t x = true) (hi : l.idx ≤ i) : puts (put l x) i t x = true ∧ lacking (put l x) x = [] ∧ put (put l x) x = put l x := by
  unfold puts at hp ⊢
  rw [Bool.and_eq_true] at hp
  obtain ⟨a, b, c⟩ := put_again h hp.1 hp.2
  exact ⟨by rw [hp.1, b hi]; rfl, a, c⟩
/-- Entries of one log put into another one behind an index at which both have the same term: they agree up to the last that was put. -/
theorem put_agrees {l : L} (h : Ok l) {i t : Nat} {x : List E} (hp : puts l i t x = true) (hi : l.idx ≤ i) :
    (put l x).idx = l.idx ∧ term (put l x) i = some t ∧ (∀ k, ∀ hk : k < x.length, term (put l x) (i + 1 + k) = some x[k].trm) ∧ i + x.length ≤ l.idx + (put l x).es.length ∧ (put l x).es.take (i - l.idx) = l.es.take (i - l.idx) := by
  unfold puts at hp
  rw [Bool.and_eq_true] at hp
  obtain ⟨hf, hj⟩ := hp
  obtain ⟨a, b, c, d⟩ := put_has h hf hj
  have hle : i ≤ l.idx + l.es.length := by
    unfold joins at hj
    rw [if_pos hi, has_iff h] at hj
    exact hj.2.1
  refine ⟨rfl, of_decide_eq_true (b hi), fun k hk => ?_, c, d _ (by omega) (by omega)⟩
  have h1 := fit_get hf k hk
  have h2 := a x[k] (List.getElem_mem hk) (by omega)
  rw [h1] at h2
  exact of_decide_eq_true h2
/-- What From tells behind an index that the log has. -/
theorem frm_behind {l : L} (i m : Nat) (h1 : l.idx ≤ i) (h2 : i ≤ l.idx + l.es.length) : frm l (i + 1) m = (l.es.drop (i - l.idx)).take m := by
  have : bel l (i + 1) = i - l.idx := by unfold bel upTo; omega
  unfold frm; rw [this]
/-- Such entries fit behind it. -/
theorem frm_fits {l : L} (h : Ok l) (i m : Nat) (h1 : l.idx ≤ i) (h2 : i ≤ l.idx + l.es.length) : fit i (tat l (i - l.idx)) (frm l (i + 1) m) = true := by
  rw [frm_behind i m h1 h2]
  refine fit_take ?_ m
  have := fit_drop h (i - l.idx)
  rw [fin_take h _ (by omega)] at this
  have e : l.idx + (i - l.idx) = i := by omega
  rw [e] at this
  exact this
/-- The terms of such entries are the log's. -/
theorem frm_terms {l : L} (h : Ok l) (i m : Nat) (h1 : l.idx ≤ i) (h2 : i ≤ l.idx + l.es.length) (k : Nat) (hk : k < (frm l (i + 1) m).length) : term l (i + 1 + k) = some (frm l (i + 1) m)[k].trm := by
  have hlen : (frm l (i + 1) m).length ≤ l.es.length - (i - l.idx) := by rw [frm_behind i m h1 h2, List.length_take, List.length_drop]; omega
  rw [term_ok h, if_pos (by omega)]
  have e : i + 1 + k - l.idx = i - l.idx + k + 1 := by omega
  have hk2 : i - l.idx + k < l.es.length := by omega
  rw [e, tat_succ l _ hk2]
  congr 2
  have e2 : (frm l (i + 1) m)[k]? = l.es[i - l.idx + k]? := by
    have hkm : k < m := by
      have : (frm l (i + 1) m).length ≤ m := by rw [frm_behind i m h1 h2, List.length_take]; omega
      omega
    rw [frm_behind i m h1 h2, List.getElem?_take, if_pos hkm, List.getElem?_drop]
  rw [List.getElem?_eq_getElem hk, List.getElem?_eq_getElem hk2] at e2
  exact (Option.some.inj e2).symm
end Lg
end Go.Proofs.Ytlnohjboldenpaa
