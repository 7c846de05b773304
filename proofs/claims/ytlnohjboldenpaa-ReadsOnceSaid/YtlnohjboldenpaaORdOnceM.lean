/-
  ReadsOnce: what stands while acts are done, as plain mathematics.
-/
import Derived.Test.YtlnohjboldenpaaORdMath
set_option linter.unusedSimpArgs false
set_option linter.unusedVariables false
namespace Go.Proofs.Ytlnohjboldenpaa
namespace Rd
theorem cnt_all (t : Nat) : ∀ (l : List E) (j : Nat) (h : j < l.length), j < cnt t l → l[j].rnd ≤ t
  | e :: l, j, h, hj => by
    unfold cnt at hj
    split at hj
    next he =>
      cases j with
      | zero => exact he
      | succ j => exact cnt_all t l j (by simpa using h) (by omega)
    next => omega
/-- f, but v at k. -/
def upd (f : Nat → Nat) (k v : Nat) : Nat → Nat := fun j => if j = k then v else f j
/-- f, but v from g on, below h. -/
def span (f : Nat → Nat) (g h v : Nat) : Nat → Nat := fun j => if g ≤ j ∧ j < h then v else f j
theorem span_nil (f : Nat → Nat) (g v : Nat) : span f g g v = f := by
  funext j; unfold span; rw [if_neg (by omega)]
theorem span_step (f : Nat → Nat) (g h v : Nat) (hg : g ≤ h) : upd (span f g h v) h v = span f g (h + 1) v := by
  funext j; unfold upd span
  by_cases e : j = h
  · rw [if_pos e, if_pos (by omega)]
  · rw [if_neg e]
    by_cases e2 : g ≤ j ∧ j < h
    · rw [if_pos e2, if_pos (by omega)]
    · rw [if_neg e2, if_neg (by omega)]
/-- Behind k acts: so many were asked, the next one to be told, the first that is not begun; what they were begun with; the list. -/
structure On (k a x g : Nat) (I T : Nat → Nat) (r : R) : Prop where
  ak : a ≤ k
  x1 : 1 ≤ x
  xg : x ≤ g
  ga : g ≤ a + 1
  bl : r.b.length = g - x
  wl : r.w.length = a + 1 - g
  bid : ∀ j (h : j < r.b.length), r.b[j].id = x + j
  wid : ∀ j (h : j < r.w.length), r.w[j] = g + j
  ge : ∀ j (h : j < r.b.length), I (x + j) ≤ r.b[j].idx ∧ T (x + j) ≤ r.b[j].rnd
  mono : ∀ i j (hi : i < j) (hj : j < r.b.length), r.b[i].idx ≤ r.b[j].idx ∧ r.b[i].rnd ≤ r.b[j].rnd
theorem On.zero (I T : Nat → Nat) : On 0 0 1 1 I T ⟨[], []⟩ := ⟨Nat.le_refl _, Nat.le_refl _, Nat.le_refl _, Nat.le_refl _, rfl, rfl, (fun j h => by simp at h), (fun j h => by simp at h), (fun j h => by simp at h), fun i j hi h => by simp at h⟩
variable {k a x g : Nat} {I T : Nat → Nat} {r : R}
theorem On.more (h : On k a x g I T r) : On (k + 1) a x g I T r := ⟨by have := h.ak; omega, h.x1, h.xg, h.ga, h.bl, h.wl, h.bid, h.wid, h.ge, h.mono⟩
theorem On.not_has (h : On k a x g I T r) : has r (a + 1) = false := by
  unfold has
  rw [Bool.or_eq_false_iff]
  constructor
  · rw [List.any_eq_false]
    intro y hy
    obtain ⟨j, hj, rfl⟩ := List.getElem_of_mem hy
    have := h.wid j hj
    have := h.wl
    simp; omega
  · rw [List.any_eq_false]
    intro y hy
    obtain ⟨j, hj, rfl⟩ := List.getElem_of_mem hy
    have := h.bid j hj
    have := h.bl
    have := h.ga
    have := h.xg
    simp [isIt]; omega
theorem On.ask_eq (h : On k a x g I T r) : ask r (a + 1) = { r with w := r.w ++ [a + 1] } := by
  unfold ask; rw [if_neg (by rw [h.not_has]; simp)]
theorem On.has_then (h : On k a x g I T r) : has (ask r (a + 1)) (a + 1) = true := by
  rw [h.ask_eq]; unfold has; simp
theorem On.ask_same (h : On k a x g I T r) : ask (ask r (a + 1)) (a + 1) = ask r (a + 1) := by
  have e : ∀ q : R, Rd.ask q (a + 1) = if has q (a + 1) = true then q else { q with w := q.w ++ [a + 1] } := fun q => rfl
  rw [e (Rd.ask r (a + 1)), if_pos h.has_then]
theorem On.as_ (h : On k a x g I T r) : On (k + 1) (a + 1) x g I T (ask r (a + 1)) := by
  rw [h.ask_eq]
  refine ⟨by have := h.ak; omega, h.x1, h.xg, by have := h.ga; omega, h.bl, ?_, h.bid, ?_, h.ge, h.mono⟩
  · have := h.wl; have := h.ga; simp; omega
  · intro j hj
    have hwl := h.wl
    have hga := h.ga
    simp only [List.length_append, List.length_singleton] at hj
    by_cases hjl : j < r.w.length
    · simp only [List.getElem_append_left hjl]; exact h.wid j hjl
    · have : j = r.w.length := by omega
      subst this
      simp; omega
theorem hi_le (b : List E) (i : Nat) : i ≤ hi b i := by unfold hi; split <;> omega
theorem hr_le (b : List E) (i : Nat) : i ≤ hr b i := by unfold hr; split <;> omega
theorem hi_ge (b : List E) (i j : Nat) (hj : j < b.length) (hm : ∀ i j (hi : i < j) (hj : j < b.length), b[i].idx ≤ b[j].idx ∧ b[i].rnd ≤ b[j].rnd) : b[j].idx ≤ hi b i ∧ ∀ t, b[j].rnd ≤ hr b t := by
  have hl : b.getLast? = some b[b.length - 1] := by rw [List.getLast?_eq_getElem?, List.getElem?_eq_getElem (by omega)]
  unfold hi hr
  rw [hl]
  simp only
  by_cases e : j = b.length - 1
  · subst e; exact ⟨Nat.le_max_right _ _, fun t => Nat.le_max_right _ _⟩
  · have := hm j (b.length - 1) (by omega) (by omega)
    exact ⟨Nat.le_trans this.1 (Nat.le_max_right _ _), fun t => Nat.le_trans this.2 (Nat.le_max_right _ _)⟩
theorem put_at (i t : Nat) (l : List Nat) (j : Nat) (h : j < (put i t l).length) : (put i t l)[j] = ⟨l[j]'(by rw [put_len] at h; exact h), i, t⟩ := by simp [put]
theorem On.beg_ (h : On k a x g I T r) (i t : Nat) : On (k + 1) a x (a + 1) (span I g (a + 1) i) (span T g (a + 1) t) (begin r i t) := by
  have hbl := h.bl
  have hwl := h.wl
  have hxg := h.xg
  have hga := h.ga
  have hak := h.ak
  have hx1 := h.x1
  have hlen : (begin r i t).b.length = a + 1 - x := by
    show (r.b ++ put _ _ r.w).length = _
    rw [List.length_append, put_len]; omega
  have key : ∀ j (hj : j < (begin r i t).b.length), (∃ hj' : j < r.b.length, (begin r i t).b[j] = r.b[j]) ∨ (r.b.length ≤ j ∧ (begin r i t).b[j].id = x + j ∧ (begin r i t).b[j].idx = hi r.b i ∧ (begin r i t).b[j].rnd = hr r.b t) := by
    intro j hj
    by_cases hj' : j < r.b.length
    · exact .inl ⟨hj', List.getElem_append_left (bs := put (hi r.b i) (hr r.b t) r.w) hj'⟩
    · right
      have e : (begin r i t).b[j] = (put (hi r.b i) (hr r.b t) r.w)[j - r.b.length]'(by rw [put_len]; omega) := by
        exact List.getElem_append_right (bs := put (hi r.b i) (hr r.b t) r.w) (show r.b.length ≤ j by omega)
      rw [e, put_at]
      refine ⟨by omega, ?_, rfl, rfl⟩
      have := h.wid (j - r.b.length) (by omega)
      show r.w[j - r.b.length] = _
      rw [this]; omega
  refine ⟨by omega, hx1, by omega, Nat.le_refl _, hlen, by show 0 = _; omega, fun j hj => ?_, (fun j hj => by simp [begin] at hj), fun j hj => ?_, fun i' j hij hj => ?_⟩
  · rcases key j hj with ⟨hj', e⟩ | ⟨_, e, _⟩
    · rw [e]; exact h.bid j hj'
    · exact e
  · rcases key j hj with ⟨hj', e⟩ | ⟨hj', _, e1, e2⟩
    · rw [e]
      unfold span
      rw [if_neg (by omega), if_neg (by omega)]
      exact h.ge j hj'
    · rw [e1, e2]
      unfold span
      rw [if_pos (by omega), if_pos (by omega)]
      exact ⟨hi_le _ _, hr_le _ _⟩
  · rcases key j hj with ⟨hj', e⟩ | ⟨hj', _, e1, e2⟩
    · rcases key i' (by omega) with ⟨hi', e'⟩ | ⟨hi', _⟩
      · rw [e, e']; exact h.mono i' j hij hj'
      · omega
    · rcases key i' (by omega) with ⟨hi', e'⟩ | ⟨hi', _, e1', e2'⟩
      · rw [e', e1, e2]
        have := hi_ge r.b i i' hi' h.mono
        exact ⟨this.1, this.2 t⟩
      · rw [e1, e2, e1', e2']; exact ⟨Nat.le_refl _, Nat.le_refl _⟩
theorem On.tel_ (h : On k a x g I T r) (u : Nat) : On (k + 1) a (x + cnt u r.b) g I T (left r u) := by
  have hbl := h.bl
  have hxg := h.xg
  have hc := cnt_le u r.b
  have e : (left r u).b = r.b.drop (cnt u r.b) := rfl
  have hl : (left r u).b.length = r.b.length - cnt u r.b := by rw [e, List.length_drop]
  have hat : ∀ j (hj : j < (left r u).b.length), (left r u).b[j] = r.b[cnt u r.b + j]'(by omega) := fun j hj => List.getElem_drop (xs := r.b) (i := cnt u r.b) (j := j)
  refine ⟨by have := h.ak; omega, by have := h.x1; omega, by omega, h.ga, by omega, h.wl, fun j hj => ?_, h.wid, fun j hj => ?_, fun i j hij hj => ?_⟩
  · rw [hat j hj, h.bid]; omega
  · rw [hat j hj, Nat.add_assoc]; exact h.ge _ _
  · rw [hat j hj, hat i (by omega)]; exact h.mono _ _ (by omega) _
theorem On.dr_ (h : On k a x g I T r) : On (k + 1) a (a + 1) (a + 1) I T ⟨[], []⟩ :=
  ⟨by have := h.ak; omega, by omega, Nat.le_refl _, Nat.le_refl _, by simp, by simp, (fun j h => by simp at h), (fun j h => by simp at h), (fun j h => by simp at h), fun i j hi h => by simp at h⟩
theorem On.ids_len (h : On k a x g I T r) : x + (ids r).length = a + 1 := by
  unfold ids; rw [List.length_append, List.length_map]
  have := h.bl; have := h.wl; have := h.xg; have := h.ga; omega
theorem On.ids_at (h : On k a x g I T r) (j : Nat) (hj : j < (ids r).length) : (ids r)[j] = x + j := by
  have hbl := h.bl
  have hxg := h.xg
  unfold ids at hj ⊢
  by_cases hj' : j < r.b.length
  · rw [List.getElem_append_left (by rw [List.length_map]; exact hj'), List.getElem_map]; exact h.bid j hj'
  · rw [List.getElem_append_right (by rw [List.length_map]; omega)]
    simp only [List.length_map]
    rw [h.wid]; omega
theorem On.told_at (h : On k a x g I T r) (u : Nat) (q : Nat) (hq : q < (Rd.told r u).length) : (Rd.told r u)[q].id = x + q ∧ I (x + q) ≤ (Rd.told r u)[q].idx ∧ T (x + q) ≤ (Rd.told r u)[q].rnd ∧ (Rd.told r u)[q].rnd ≤ u ∧ x + q < g ∧ (0 < q → ∃ hq' : q - 1 < (Rd.told r u).length, (Rd.told r u)[q - 1].idx ≤ (Rd.told r u)[q].idx ∧ (Rd.told r u)[q - 1].rnd ≤ (Rd.told r u)[q].rnd) := by
  have hl := told_len r u
  have hc := cnt_le u r.b
  have hbl := h.bl
  have hxg := h.xg
  have hat : ∀ j (hj : j < (Rd.told r u).length), (Rd.told r u)[j] = r.b[j]'(by omega) := fun j hj => List.getElem_take (xs := r.b) (j := cnt u r.b) (i := j)
  rw [hat q hq]
  refine ⟨h.bid _ _, (h.ge _ _).1, (h.ge _ _).2, cnt_all u r.b q (by omega) (by omega), by omega, fun h0 => ⟨by omega, ?_⟩⟩
  rw [hat (q - 1) (by omega)]
  exact h.mono _ _ (by omega) _
end Rd
end Go.Proofs.Ytlnohjboldenpaa
