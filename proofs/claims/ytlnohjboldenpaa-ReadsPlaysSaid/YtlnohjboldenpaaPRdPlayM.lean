/-
  ReadsPlays: the document's answers are the program's, as plain mathematics.
-/
import Derived.Test.YtlnohjboldenpaaPRdRef4
set_option linter.unusedSimpArgs false
set_option linter.unusedVariables false
namespace Go.Proofs.Ytlnohjboldenpaa
namespace Rd
/-- Along the begun ones neither number falls. -/
def Mono (l : List E) : Prop := l.Pairwise fun x y => x.idx ≤ y.idx ∧ x.rnd ≤ y.rnd
theorem mxi_app (l : List E) (e : E) (i : Nat) : mxi (l ++ [e]) i = max (mxi l i) e.idx := by unfold mxi; rw [List.foldl_append]; rfl
theorem mxt_app (l : List E) (e : E) (i : Nat) : mxt (l ++ [e]) i = max (mxt l i) e.rnd := by unfold mxt; rw [List.foldl_append]; rfl
theorem mxi_ge (l : List E) (i : Nat) : i ≤ mxi l i := by
  induction l generalizing i with
  | nil => exact Nat.le_refl _
  | cons e l ih => exact Nat.le_trans (Nat.le_max_left _ _) (ih (max i e.idx))
theorem mxt_ge (l : List E) (i : Nat) : i ≤ mxt l i := by
  induction l generalizing i with
  | nil => exact Nat.le_refl _
  | cons e l ih => exact Nat.le_trans (Nat.le_max_left _ _) (ih (max i e.rnd))
theorem mxi_le (l : List E) (i m : Nat) (hi : i ≤ m) (h : ∀ e ∈ l, e.idx ≤ m) : mxi l i ≤ m := by
  induction l generalizing i with
  | nil => exact hi
  | cons e l ih => exact ih (max i e.idx) (Nat.max_le.2 ⟨hi, h e (List.mem_cons_self ..)⟩) fun x hx => h x (List.mem_cons_of_mem _ hx)
theorem mxt_le (l : List E) (i m : Nat) (hi : i ≤ m) (h : ∀ e ∈ l, e.rnd ≤ m) : mxt l i ≤ m := by
  induction l generalizing i with
  | nil => exact hi
  | cons e l ih => exact ih (max i e.rnd) (Nat.max_le.2 ⟨hi, h e (List.mem_cons_self ..)⟩) fun x hx => h x (List.mem_cons_of_mem _ hx)
theorem mx_hi (l : List E) (hm : Mono l) (i t : Nat) : mxi l i = hi l i ∧ mxt l t = hr l t := by
  rcases List.eq_nil_or_concat l with rfl | ⟨l', e, rfl⟩
  · exact ⟨rfl, rfl⟩
  · rw [List.concat_eq_append] at hm ⊢
    have hp := List.pairwise_append.1 hm
    have h1 : ∀ x ∈ l', x.idx ≤ e.idx ∧ x.rnd ≤ e.rnd := fun x hx => hp.2.2 x hx e (List.mem_singleton.2 rfl)
    have e1 : hi (l' ++ [e]) i = max i e.idx := by unfold hi; rw [List.getLast?_concat]
    have e2 : hr (l' ++ [e]) t = max t e.rnd := by unfold hr; rw [List.getLast?_concat]
    rw [e1, e2, mxi_app, mxt_app]
    have a1 := mxi_ge l' i
    have a2 := mxt_ge l' t
    have a3 := mxi_le l' i (max i e.idx) (Nat.le_max_left _ _) fun x hx => Nat.le_trans (h1 x hx).1 (Nat.le_max_right _ _)
    have a4 := mxt_le l' t (max t e.rnd) (Nat.le_max_left _ _) fun x hx => Nat.le_trans (h1 x hx).2 (Nat.le_max_right _ _)
    omega
theorem dbegin_eq (r : R) (hm : Mono r.b) (i t : Nat) : dbegin r i t = begin r i t := by
  obtain ⟨h1, h2⟩ := mx_hi r.b hm i t
  unfold dbegin begin; rw [h1, h2]
theorem yes_take (t : Nat) (l : List E) (hm : Mono l) : yes t l = l.take (cnt t l) ∧ no t l = l.drop (cnt t l) := by
  induction l with
  | nil => exact ⟨rfl, rfl⟩
  | cons e l ih =>
    obtain ⟨h1, h2⟩ := List.pairwise_cons.1 hm
    obtain ⟨i1, i2⟩ := ih h2
    unfold cnt
    by_cases he : e.rnd ≤ t
    · rw [if_pos he]
      refine ⟨?_, ?_⟩
      · unfold yes at i1 ⊢; rw [List.filter_cons_of_pos (by simp [he]), i1]; rfl
      · unfold no at i2 ⊢; rw [List.filter_cons_of_neg (by simp [he]), i2]; rfl
    · rw [if_neg he]
      have hall : ∀ x ∈ e :: l, ¬ x.rnd ≤ t := fun x hx => by
        rcases List.mem_cons.1 hx with rfl | hx
        · exact he
        · have := (h1 x hx).2; omega
      refine ⟨?_, ?_⟩
      · unfold yes; rw [List.filter_eq_nil_iff.2 fun x hx => by simpa using hall x hx]; rfl
      · unfold no; rw [List.filter_eq_self.2 fun x hx => by simpa using hall x hx]; rfl
theorem mono_nil : Mono [] := List.Pairwise.nil
theorem mono_ask (r : R) (h : Mono r.b) (x : Nat) : Mono (ask r x).b := by unfold ask; split <;> exact h
theorem mono_left (r : R) (h : Mono r.b) (t : Nat) : Mono (left r t).b := List.Pairwise.sublist (List.drop_sublist _ _) h
theorem hi_max (l : List E) (h : Mono l) (i t : Nat) : ∀ e ∈ l, e.idx ≤ hi l i ∧ e.rnd ≤ hr l t := by
  rcases List.eq_nil_or_concat l with rfl | ⟨l', e, rfl⟩
  · intro e he; cases he
  · rw [List.concat_eq_append] at h ⊢
    have hp := List.pairwise_append.1 h
    have e1 : hi (l' ++ [e]) i = max i e.idx := by unfold hi; rw [List.getLast?_concat]
    have e2 : hr (l' ++ [e]) t = max t e.rnd := by unfold hr; rw [List.getLast?_concat]
    rw [e1, e2]
    intro x hx
    rcases List.mem_append.1 hx with hx | hx
    · have := hp.2.2 x hx e (List.mem_singleton.2 rfl)
      exact ⟨Nat.le_trans this.1 (Nat.le_max_right _ _), Nat.le_trans this.2 (Nat.le_max_right _ _)⟩
    · rw [List.mem_singleton.1 hx]; exact ⟨Nat.le_max_right _ _, Nat.le_max_right _ _⟩
theorem mono_begin (r : R) (h : Mono r.b) (i t : Nat) : Mono (begin r i t).b := by
  show Mono (r.b ++ put _ _ r.w)
  refine List.pairwise_append.2 ⟨h, ?_, fun x hx y hy => ?_⟩
  · unfold put
    rw [List.pairwise_map]
    exact List.Pairwise.imp (fun _ => ⟨Nat.le_refl _, Nat.le_refl _⟩) (List.pairwise_of_forall (R := fun _ _ => True) fun _ _ => trivial)
  · obtain ⟨z, _, rfl⟩ := List.mem_map.1 hy
    exact hi_max r.b h i t x hx
/-- What an act makes of the list, and tells. -/
def step (r : R) (o a b : Nat) : R := if o = 0 then ask r a else if o = 1 then begin r a b else if o = 2 then left r a else if o = 3 then ⟨[], []⟩ else r
def tb (r : R) (o a : Nat) : Bool := if o = 0 then !has r a else false
def tn (r : R) (o : Nat) : Nat := if o = 1 then r.w.length else 0
def tx (r : R) (o a : Nat) : List E := if o = 2 then told r a else []
def ty (r : R) (o : Nat) : List Nat := if o = 3 then ids r else []
theorem mono_step (r : R) (h : Mono r.b) (o a b : Nat) : Mono (step r o a b).b := by
  unfold step
  split; exact mono_ask r h a
  split; exact mono_begin r h a b
  split; exact mono_left r h a
  split; exact mono_nil
  exact h
theorem size_step (r : R) (o a b : Nat) : (step r o a b).b.length + (step r o a b).w.length ≤ r.b.length + r.w.length + 1 := by
  unfold step
  split
  · unfold ask; split <;> simp <;> omega
  split
  · show (r.b ++ put _ _ r.w).length + 0 ≤ _; rw [List.length_append, put_len]; omega
  split
  · show (r.b.drop _).length + r.w.length ≤ _; rw [List.length_drop]; omega
  split
  · simp
  · omega
theorem tx_len (r : R) (o a : Nat) : (tx r o a).length ≤ r.b.length := by
  unfold tx
  split
  · rw [told_len]; exact cnt_le _ _
  · simp
theorem ty_len (r : R) (o : Nat) : (ty r o).length ≤ r.b.length + r.w.length := by
  unfold ty
  split
  · unfold ids; rw [List.length_append, List.length_map]; omega
  · simp
end Rd
end Go.Proofs.Ytlnohjboldenpaa
