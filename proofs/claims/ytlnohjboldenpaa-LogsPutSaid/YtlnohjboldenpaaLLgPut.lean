/-
  The plain mathematics of layer 11 (logs), second part: Put, Cut. No program is named here.
-/
import Derived.Test.YtlnohjboldenpaaLLgMath
set_option linter.unusedSimpArgs false
set_option linter.unusedVariables false
namespace Go.Proofs.Ytlnohjboldenpaa
namespace Lg
open En (E)
theorem has_iff {l : L} (h : Ok l) (i t : Nat) : has l i t = true ↔ l.idx ≤ i ∧ i ≤ l.idx + l.es.length ∧ t = tat l (i - l.idx) := by
  unfold has
  rw [decide_eq_true_iff, term_ok h]
  constructor
  · intro ht
    split at ht
    · rename_i hc; injection ht with ht; exact ⟨hc.1, hc.2, ht.symm⟩
    · cases ht
  · rintro ⟨h1, h2, rfl⟩
    rw [if_pos ⟨h1, h2⟩]
theorem mem_at {i t : Nat} {x : List E} (hf : fit i t x = true) {e : E} (he : e ∈ x) : ∃ k, ∃ h : k < x.length, x[k] = e ∧ e.idx = i + 1 + k := by
  obtain ⟨k, hk, h⟩ := List.getElem_of_mem he
  exact ⟨k, hk, h, by rw [← h]; exact fit_get hf k hk⟩
/-- What is kept of a log into which entries are put: up to where the first one that is lacking stands. -/
theorem joined {l : L} (h : Ok l) {i t : Nat} {x : List E} (hf : fit i t x = true) (hj : joins l i t x = true) {p : List E} (hx : x = p ++ lacking l x) (hp : ∀ e ∈ p, lacks l e = false) (hh : ∀ e r, lacking l x = e :: r → lacks l e = true) :
    l.idx ≤ i + p.length ∧ i + p.length ≤ l.idx + l.es.length ∧ fin i t p = (i + p.length, tat l (i + p.length - l.idx)) := by
  have hfp : fit i t p = true := by
    have := fit_append p (lacking l x) i t
    rw [← hx, hf] at this
    simp at this; exact this.1
  have hg : ∀ g r, lacking l x = g :: r → g.idx = i + p.length + 1 := fun g r hgr => by
    have hlt : p.length < x.length := by have := congrArg List.length hx; rw [hgr] at this; simp at this; omega
    have e1 := fit_get hf p.length hlt
    have e2 : x[p.length]? = some g := by rw [hx, hgr]; simp
    rw [List.getElem?_eq_getElem hlt] at e2
    injection e2 with e2
    rw [e2] at e1; omega
  rcases List.eq_nil_or_concat p with rfl | ⟨p', e, rfl⟩
  · simp only [List.length_nil, Nat.add_zero]
    unfold joins at hj
    by_cases hi : l.idx ≤ i
    · rw [if_pos hi] at hj
      obtain ⟨h1, h2, h3⟩ := (has_iff h i t).1 hj
      exact ⟨h1, h2, by rw [← h3]; rfl⟩
    · rw [if_neg hi] at hj
      exfalso
      obtain ⟨e0, he0, hhit⟩ := List.any_eq_true.1 hj
      simp only [List.nil_append] at hx
      cases hl : lacking l x with
      | nil => rw [hx, hl] at he0; cases he0
      | cons g r =>
        have h1 := hh g r hl
        have h2 := hg g r hl
        unfold lacks at h1
        simp at h1 h2; omega
  · simp only [List.concat_eq_append] at hx hp hfp hg ⊢
    have hlen : (p' ++ [e]).length = p'.length + 1 := by simp
    simp only [hlen] at hg ⊢
    rw [fin_snoc]
    have hlt : p'.length < (p' ++ [e]).length := by simp
    have he : e.idx = i + (p'.length + 1) := by
      have := fit_get hfp p'.length hlt
      simp at this; omega
    have hl := hp e (by simp)
    unfold lacks at hl
    by_cases hs : has l e.idx e.trm = true
    · obtain ⟨h1, h2, h3⟩ := (has_iff h _ _).1 hs
      rw [he] at h1 h2 h3
      exact ⟨h1, h2, by rw [he, h3]⟩
    · have hle : e.idx ≤ l.idx := by
        simp only [Bool.not_eq_true] at hs
        rw [hs] at hl
        simp at hl; exact hl
      by_cases hi : l.idx ≤ i
      · omega
      · unfold joins at hj
        rw [if_neg hi] at hj
        obtain ⟨e0, he0, hhit⟩ := List.any_eq_true.1 hj
        unfold hit at hhit
        simp at hhit
        obtain ⟨k, hk, hke, hki⟩ := mem_at hf he0
        have hlast : e.idx = l.idx := by
          cases hl2 : lacking l x with
          | nil =>
            have := congrArg List.length hx
            rw [hl2] at this; simp at this; omega
          | cons g r =>
            have h1 := hh g r hl2
            have h2 := hg g r hl2
            unfold lacks at h1
            simp at h1; omega
        have hkp : k = p'.length := by omega
        have hee : x[k] = e := by
          have : x[k]? = some e := by rw [hx, hkp]; simp
          rw [List.getElem?_eq_getElem hk] at this
          injection this
        rw [hke] at hee
        subst hee
        have e1 : i + (p'.length + 1) = l.idx := by omega
        rw [e1, Nat.sub_self, tat_zero, hhit.1, hhit.2]
        exact ⟨Nat.le_refl _, by omega, rfl⟩
theorem put_es {l : L} (h : Ok l) {i t : Nat} {x : List E} (hf : fit i t x = true) (hj : joins l i t x = true) : ∃ p, x = p ++ lacking l x ∧ l.idx ≤ i + p.length ∧ i + p.length ≤ l.idx + l.es.length ∧ fin i t p = (i + p.length, tat l (i + p.length - l.idx)) ∧
    (∀ e ∈ p, lacks l e = false) ∧ (∀ e r, lacking l x = e :: r → lacks l e = true ∧ bel l e.idx = i + p.length - l.idx) ∧ fit (i + p.length) (tat l (i + p.length - l.idx)) (lacking l x) = true ∧
    ((lacking l x = [] ∧ (put l x).es = l.es) ∨ (lacking l x ≠ [] ∧ (put l x).es = l.es.take (i + p.length - l.idx) ++ lacking l x)) := by
  obtain ⟨p, hx, hp, hh⟩ := lacking_suffix l x
  obtain ⟨h1, h2, h3⟩ := joined h hf hj hx hp hh
  have hff : fit (i + p.length) (tat l (i + p.length - l.idx)) (lacking l x) = true := by
    have := fit_append p (lacking l x) i t
    rw [← hx, hf, h3] at this
    simp at this; exact this.2
  have hb : ∀ e r, lacking l x = e :: r → lacks l e = true ∧ bel l e.idx = i + p.length - l.idx := fun e r he => by
    refine ⟨hh e r he, ?_⟩
    rw [he] at hff
    have := (fit_cons.1 hff).1.1
    rw [this]
    unfold bel upTo; omega
  refine ⟨p, hx, h1, h2, h3, hp, hb, hff, ?_⟩
  unfold put
  cases hl : lacking l x with
  | nil => exact .inl ⟨rfl, rfl⟩
  | cons e r =>
    refine .inr ⟨by simp, ?_⟩
    unfold place
    simp only []
    rw [(hb e r hl).2]
theorem put_ok {l : L} (h : Ok l) {i t : Nat} {x : List E} (hf : fit i t x = true) (hj : joins l i t x = true) : Ok (put l x) := by
  obtain ⟨p, hx, h1, h2, h3, hp, hb, hff, h4⟩ := put_es h hf hj
  unfold Ok
  rcases h4 with ⟨_, h4⟩ | ⟨_, h4⟩
  · rw [h4]; exact h
  · rw [h4]
    show fit l.idx l.trm _ = true
    rw [fit_append, fit_take h, Bool.true_and, fin_take h _ (by omega)]
    have e : l.idx + (i + p.length - l.idx) = i + p.length := by omega
    rw [e]
    exact hff
theorem tat_es {l l' : L} (hi : l'.idx = l.idx) (ht : l'.trm = l.trm) {d : Nat} {f : List E} (he : l'.es = l.es.take d ++ f) (hd : d ≤ l.es.length) (k : Nat) (hk : k ≤ d) : tat l' k = tat l k := by
  unfold tat
  rw [he, hi, ht, List.take_append_of_le_length (by rw [List.length_take]; omega), List.take_take, Nat.min_eq_left hk]
/-- Behind a Put each of the entries is there, and the place from which on they were put. -/
theorem put_has {l : L} (h : Ok l) {i t : Nat} {x : List E} (hf : fit i t x = true) (hj : joins l i t x = true) :
    (∀ e ∈ x, l.idx < e.idx → has (put l x) e.idx e.trm = true) ∧ (l.idx ≤ i → has (put l x) i t = true) ∧ (i + x.length ≤ l.idx + (put l x).es.length) ∧ (∀ d, d + l.idx ≤ i → d ≤ l.es.length → (put l x).es.take d = l.es.take d) := by
  obtain ⟨p, hx, h1, h2, h3, hp, hb, hff, h4⟩ := put_es h hf hj
  have hok := put_ok h hf hj
  have hxl := congrArg List.length hx
  rw [List.length_append] at hxl
  rcases h4 with ⟨h0, h4⟩ | ⟨h0, h4⟩
  · have hl : put l x = l := by
      have : put l x = { l with es := (put l x).es } := rfl
      rw [this, h4]
    rw [hl]
    refine ⟨fun e he hlt => ?_, fun hi => ?_, by rw [h0] at hxl; simp at hxl; omega, fun d _ _ => rfl⟩
    · have hep : e ∈ p := by rw [hx, h0, List.append_nil] at he; exact he
      have := hp e hep
      unfold lacks at this
      simp [hlt] at this; exact this
    · unfold joins at hj; rw [if_pos hi] at hj; exact hj
  · have hdl : i + p.length - l.idx ≤ l.es.length := by omega
    have hlen : (put l x).es.length = (i + p.length - l.idx) + (lacking l x).length := by rw [h4, List.length_append, List.length_take]; omega
    have hta := fun k hk => tat_es (l := l) (l' := put l x) rfl rfl h4 hdl k hk
    have old : ∀ j u, l.idx ≤ j → j ≤ i + p.length → has l j u = true → has (put l x) j u = true := fun j u a1 a2 hh => by
      obtain ⟨b1, b2, b3⟩ := (has_iff h _ _).1 hh
      refine (has_iff hok _ _).2 ⟨b1, ?_, ?_⟩
      · show j ≤ l.idx + _
        rw [hlen]; omega
      · show u = tat (put l x) (j - l.idx)
        rw [hta _ (by omega)]; exact b3
    refine ⟨fun e he hlt => ?_, fun hi => ?_, by rw [hlen]; omega, fun d hd hdn => ?_⟩
    · rw [hx] at he
      rcases List.mem_append.1 he with he | he
      · have hl := hp e he
        unfold lacks at hl
        simp [hlt] at hl
        refine old _ _ (Nat.le_of_lt hlt) ?_ hl
        have hfp : fit i t p = true := by
          have := fit_append p (lacking l x) i t
          rw [← hx, hf] at this
          simp at this; exact this.1
        obtain ⟨k, hk, _, hki⟩ := mem_at hfp he
        omega
      · obtain ⟨k, hk, hke, hki⟩ := mem_at hff he
        refine (has_iff hok _ _).2 ⟨Nat.le_of_lt hlt, ?_, ?_⟩
        · show e.idx ≤ l.idx + _
          rw [hlen]; omega
        · have hkl : (i + p.length - l.idx) + k < (put l x).es.length := by rw [hlen]; omega
          have e1 : e.idx - (put l x).idx = (i + p.length - l.idx) + k + 1 := by show e.idx - l.idx = _; omega
          rw [e1, tat_succ _ _ hkl, ← hke]
          have : (put l x).es[(i + p.length - l.idx) + k]? = some (lacking l x)[k] := by
            rw [h4, List.getElem?_append_right (by rw [List.length_take]; omega), List.length_take, Nat.min_eq_left hdl, Nat.add_sub_cancel_left, List.getElem?_eq_getElem hk]
          rw [List.getElem?_eq_getElem hkl] at this
          injection this with this
          rw [this]
    · unfold joins at hj
      rw [if_pos hi] at hj
      exact old i t hi (by omega) hj
    · rw [h4, List.take_append_of_le_length (by rw [List.length_take]; omega), List.take_take, Nat.min_eq_left (by omega)]
theorem lacking_nil {l : L} : ∀ {x : List E}, (∀ e ∈ x, lacks l e = false) → lacking l x = []
  | [], _ => rfl
  | e :: r, h => by
    unfold lacking
    rw [if_neg (by rw [h e (by simp)]; simp)]
    exact lacking_nil fun e' he' => h e' (by simp [he'])
/-- Put again, nothing is fresh. -/
theorem put_again {l : L} (h : Ok l) {i t : Nat} {x : List E} (hf : fit i t x = true) (hj : joins l i t x = true) : lacking (put l x) x = [] ∧ (l.idx ≤ i → joins (put l x) i t x = true) ∧ put (put l x) x = put l x := by
  obtain ⟨h1, h2, _⟩ := put_has h hf hj
  have h0 : lacking (put l x) x = [] := lacking_nil fun e he => by
    unfold lacks
    by_cases hlt : l.idx < e.idx
    · rw [h1 e he hlt]; simp
    · have : ¬ (put l x).idx < e.idx := hlt
      simp [this]
  refine ⟨h0, fun hi => ?_, ?_⟩
  · unfold joins
    rw [if_pos (show (put l x).idx ≤ i from hi)]
    exact h2 hi
  · show ({ put l x with es := place (put l x) (lacking (put l x) x) } : L) = _
    rw [h0]; rfl
/-- Where nothing is there all is fresh. -/
theorem put_new {i t m : Nat} {x : List E} (hf : fit i t x = true) : joins ⟨i, t, m, []⟩ i t x = true ∧ lacking ⟨i, t, m, []⟩ x = x ∧ (put ⟨i, t, m, []⟩ x).es = x := by
  have hok := nil_ok i t m
  have hl : lacking ⟨i, t, m, []⟩ x = x := by
    cases x with
    | nil => rfl
    | cons e r =>
      unfold lacking
      rw [if_pos]
      have h1 := (fit_cons.1 hf).1.1
      unfold lacks
      have : has ⟨i, t, m, []⟩ e.idx e.trm = false := by
        rw [Bool.eq_false_iff]
        intro hh
        have := (has_iff hok _ _).1 hh
        simp at this; omega
      rw [this]
      simp; omega
  refine ⟨?_, hl, ?_⟩
  · unfold joins
    simp only [Nat.le_refl, if_true]
    exact (has_iff hok _ _).2 ⟨Nat.le_refl _, by simp, by simp [tat_zero]⟩
  · unfold put
    simp only [hl]
    cases x <;> simp [place]

/-! Cut. -/
/-- A right log cut off at an index that it has. -/
def off (l : L) (i : Nat) : L := ⟨i, tat l (i - l.idx), (memA l (i - l.idx)).1, l.es.drop (i - l.idx)⟩
theorem cut_off {l : L} (h : Ok l) {i : Nat} (h1 : l.idx ≤ i) (h2 : i ≤ l.idx + l.es.length) : cut l i = (0, off l i) := by
  unfold cut
  rw [if_neg (by omega), term_ok h, if_pos ⟨h1, h2⟩]
  simp only []
  unfold bgn off
  have e : upTo l i = i - l.idx := by unfold upTo; omega
  rw [e]
theorem off_ok {l : L} (h : Ok l) {i : Nat} (h1 : l.idx ≤ i) (h2 : i ≤ l.idx + l.es.length) : Ok (off l i) := by
  unfold Ok off
  simp only []
  have := fit_drop h (i - l.idx)
  rw [fin_take h _ (by omega)] at this
  have e : l.idx + (i - l.idx) = i := by omega
  rw [e] at this
  exact this
theorem off_len (l : L) (i : Nat) : (off l i).es.length = l.es.length - (i - l.idx) := by unfold off; simp
theorem off_tat {l : L} (h : Ok l) {i : Nat} (h1 : l.idx ≤ i) (h2 : i ≤ l.idx + l.es.length) (k : Nat) (hk : i - l.idx + k ≤ l.es.length) : tat (off l i) k = tat l (i - l.idx + k) := by
  have e0 : l.es.take (i - l.idx + k) = l.es.take (i - l.idx) ++ (l.es.drop (i - l.idx)).take k := by rw [List.take_add]
  have e1 : tat l (i - l.idx + k) = (fin (fin l.idx l.trm (l.es.take (i - l.idx))).1 (fin l.idx l.trm (l.es.take (i - l.idx))).2 ((l.es.drop (i - l.idx)).take k)).2 := by
    unfold tat; rw [e0, fin_append]
  rw [e1, fin_take h _ (by omega)]
  have e2 : l.idx + (i - l.idx) = i := by omega
  rw [e2]
  rfl
theorem off_term {l : L} (h : Ok l) {i : Nat} (h1 : l.idx ≤ i) (h2 : i ≤ l.idx + l.es.length) (k : Nat) (hk : i ≤ k) : term (off l i) k = term l k := by
  rw [term_ok (off_ok h h1 h2), term_ok h, off_len]
  have e1 : (off l i).idx = i := rfl
  rw [e1]
  by_cases hc : l.idx ≤ k ∧ k ≤ l.idx + l.es.length
  · rw [if_pos (by omega), if_pos hc, off_tat h h1 h2 _ (by omega)]
    congr 2; omega
  · rw [if_neg (by omega), if_neg hc]
theorem off_mem (l : L) (i k : Nat) : (memA (off l i) k).1 = (memA l (i - l.idx + k)).1 := by
  unfold memA
  have e0 : l.es.take (i - l.idx + k) = l.es.take (i - l.idx) ++ (l.es.drop (i - l.idx)).take k := by rw [List.take_add]
  have e1 : (off l i).es = l.es.drop (i - l.idx) := rfl
  rw [e0, e1, List.reverse_append, List.find?_append]
  cases hf : ((l.es.drop (i - l.idx)).take k).reverse.find? isC with
  | some e => rfl
  | none =>
    simp only [Option.none_or]
    show (memA l (i - l.idx)).1 = _
    unfold memA
    cases (l.es.take (i - l.idx)).reverse.find? isC <;> rfl
theorem off_off {l : L} (h : Ok l) {p q : Nat} (h1 : l.idx ≤ p) (h2 : p ≤ q) (h3 : q ≤ l.idx + l.es.length) : off (off l p) q = off l q := by
  have e1 : (off l p).idx = p := rfl
  have e2 : p - l.idx + (q - p) = q - l.idx := by omega
  have e3 : off (off l p) q = ⟨q, tat (off l p) (q - p), (memA (off l p) (q - p)).1, (off l p).es.drop (q - p)⟩ := rfl
  rw [e3, off_tat h h1 (by omega) _ (by omega), off_mem, e2]
  have e4 : (off l p).es.drop (q - p) = l.es.drop (q - l.idx) := by
    show (l.es.drop (p - l.idx)).drop (q - p) = _
    rw [List.drop_drop, e2]
  rw [e4]
  rfl
theorem off_lst {l : L} (h : Ok l) {i : Nat} (h1 : l.idx ≤ i) (h2 : i ≤ l.idx + l.es.length) : lst (off l i) = lst l := by
  have e1 : lst l = fin l.idx l.trm (l.es.take (i - l.idx) ++ l.es.drop (i - l.idx)) := by rw [List.take_append_drop]; rfl
  rw [e1, fin_append, fin_take h _ (by omega)]
  have e2 : l.idx + (i - l.idx) = i := by omega
  rw [e2]
  rfl
theorem off_up {l : L} {i k : Nat} (h1 : l.idx ≤ i) (hk : i ≤ k) : (memA (off l i) (upTo (off l i) k)).1 = (memA l (upTo l k)).1 := by
  rw [off_mem]
  have e : i - l.idx + upTo (off l i) k = if i - l.idx ≤ l.es.length then upTo l k else i - l.idx := by
    unfold upTo
    rw [off_len]
    have : (off l i).idx = i := rfl
    rw [this]
    split <;> omega
  rw [e]
  split
  · rfl
  · rename_i hn
    have hu : upTo l k = l.es.length := by unfold upTo; omega
    unfold memA
    rw [hu, List.take_of_length_le (Nat.le_refl _), List.take_of_length_le (by omega)]
end Lg
end Go.Proofs.Ytlnohjboldenpaa
