/-
  LogsCut walked.
-/
import Derived.Test.YtlnohjboldenpaaLLgAwake
set_option linter.unusedSimpArgs false
set_option linter.unusedVariables false
namespace Go.Proofs.Ytlnohjboldenpaa
open Go.RowKit Go.Sort
theorem great_no {es : List En.E} (h : Lg.great es = false) : es.length ≤ 40 ∧ ∀ e ∈ es, e.body.size ≤ 100 := by
  unfold Lg.great at h
  rw [Bool.or_eq_false_iff] at h
  refine ⟨by have := of_decide_eq_false h.1; omega, fun e he => ?_⟩
  have := List.any_eq_false.1 h.2 e he
  simpa using this
/-- Two logs, each made since w, apart. -/
def LgTwo (w W : World) (p q : Nat) (l m : Lg.L) (T : Nat → Prop) : Prop :=
  ∃ S, LgAt W p S l ∧ LgAt W q T m ∧ (∀ k, S k → w.heap.size ≤ k ∧ ¬ T k) ∧ (∀ k, T k → w.heap.size ≤ k) ∧ Below w.heap.size w W
theorem LgTwo.below {w W : World} {p q : Nat} {l m : Lg.L} {T : Nat → Prop} (h : LgTwo w W p q l m T) : Below w.heap.size w W := by
  obtain ⟨S, _, _, _, _, h5⟩ := h
  exact h5
theorem two_mk {w W W' : World} {p q : Nat} {l m : Lg.L} (h : NewI w W p l) (h2 : NewI W W' q m) : ∃ T, LgTwo w W' p q l m T := by
  obtain ⟨⟨S, a1, a2⟩, a3⟩ := h
  obtain ⟨⟨T, b1, b2⟩, b3⟩ := h2
  exact ⟨T, S, a1.bel b3, b1, fun k hk => ⟨a2 k hk, fun ht => absurd (b2 k ht) (Nat.not_le_of_lt (a1.lt k hk))⟩, fun k hk => Nat.le_trans a3.size (b2 k hk), bnext a3 b3⟩
theorem two_cutA {w W : World} {p q : Nat} {l m : Lg.L} {T : Nat → Prop} (h : LgTwo w W p q l m T) (i : Nat) (hi : i < Nm.top) :
    Calls Try.prog 55 #[.pointer (some ⟨p, 0, none⟩), .int .u64 (i : Int)] W fun r w' => r = .returned (.int .i64 ((Lg.cut l i).1 : Nat)) ∧ LgTwo w w' p q (Lg.cut l i).2 m T := by
  obtain ⟨S, h1, h2, h3, h4, h5⟩ := h
  exact (cut_any W h1 i hi).mono fun r w' ⟨a, b, c⟩ => ⟨a, S, b, h2.ks c (fun k hk hs => (h3 k hs).2 hk), h3, h4, c.below h5 fun k hk => (h3 k hk).1⟩
theorem two_cutB {w W : World} {p q : Nat} {l m : Lg.L} {T : Nat → Prop} (h : LgTwo w W p q l m T) (i : Nat) (hi : i < Nm.top) :
    Calls Try.prog 55 #[.pointer (some ⟨q, 0, none⟩), .int .u64 (i : Int)] W fun r w' => r = .returned (.int .i64 ((Lg.cut m i).1 : Nat)) ∧ LgTwo w w' p q l (Lg.cut m i).2 T := by
  obtain ⟨S, h1, h2, h3, h4, h5⟩ := h
  exact (cut_any W h2 i hi).mono fun r w' ⟨a, b, c⟩ => ⟨a, S, h1.ks c (fun k hk => (h3 k hk).2), b, h3, h4, c.below h5 h4⟩
namespace Lg
theorem frm_all (l : L) (m : Nat) (h : l.es.length ≤ m) : frm l 0 m = l.es := by
  have : bel l 0 = 0 := by unfold bel upTo; omega
  unfold frm; rw [this, List.drop_zero, List.take_of_length_le h]
theorem frm_off (l : L) (i m : Nat) (h1 : l.idx ≤ i) (h2 : i ≤ l.idx + l.es.length) (h : l.es.length ≤ m) : frm l (i + 1) m = (off l i).es := by
  have : bel l (i + 1) = i - l.idx := by unfold bel upTo; omega
  unfold frm; rw [this, List.take_of_length_le (by rw [List.length_drop]; omega)]; rfl
theorem memA_off (l : L) (i : Nat) (h1 : l.idx ≤ i) (h2 : i ≤ l.idx + l.es.length) : (memA (off l i) (off l i).es.length).1 = (memA l l.es.length).1 := by
  rw [off_mem, off_len]; congr 2; omega
end Lg
end Go.Proofs.Ytlnohjboldenpaa
