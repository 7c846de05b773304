/-
  What a leader knows of another node: plain mathematics.
-/
import Derived.Test.YtlnohjboldenpaaREnA
set_option linter.unusedSimpArgs false
set_option linter.unusedVariables false
namespace Go.Proofs.Ytlnohjboldenpaa
namespace Pg
/-- A peer: match, next, round, snapshot, section. -/
structure P where
  m : Nat
  n : Nat
  r : Nat
  s : Nat
  c : Nat
deriving DecidableEq
/-- The bound of indexes. -/
def lim : Nat := 4611686018427387904
def new (last : Nat) : P := ⟨0, last + 1, 0, 0, 0⟩
def matched (p : P) (i : Nat) : P :=
  { p with m := max p.m i, n := max p.n (max p.m i + 1), s := if p.s ≤ max p.m i then 0 else p.s, c := if p.s ≤ max p.m i then 0 else p.c }
def refused (p : P) (i : Nat) : P := { p with n := max (min p.n (i + 1)) (p.m + 1) }
def told (p : P) (ok : Bool) (i t : Nat) : P := if ok then matched { p with r := max p.r t } i else refused { p with r := max p.r t } i
def send (p : P) (s : Nat) : P := if p.s = s then p else { p with s := s, c := 0 }
def sect (p : P) (s k : Nat) : P := if s ≠ 0 ∧ p.s = s ∧ k < 5 then { p with c := k } else p
def Sound (p : P) : Prop := p.m < p.n ∧ p.c < 5 ∧ (0 < p.s ∨ p.c = 0)
/-- Numbers that fit. -/
structure Fits (p : P) : Prop where
  m : p.m < lim
  n : p.n ≤ lim
  r : p.r < Nm.top
  s : p.s < lim
  c : p.c < 256
theorem new_fits (last : Nat) (h : last < lim) : Fits (new last) := ⟨by simp [new, lim], h, by simp [new, Nm.top], by simp [new, lim], by simp [new]⟩
theorem new_sound (last : Nat) : Sound (new last) := ⟨by simp [new], by simp [new], .inr rfl⟩
theorem told_fits {p : P} (h : Fits p) (ok : Bool) {i t : Nat} (hi : i < lim) (ht : t < Nm.top) : Fits (told p ok i t) := by
  have h1 := h.m
  have h2 := h.n
  have h3 := h.r
  have h4 := h.s
  have h5 := h.c
  cases ok with
  | true =>
    refine ⟨?_, ?_, ?_, ?_, ?_⟩ <;> simp only [told, matched, if_true]
    · exact Nat.max_lt.2 ⟨h1, hi⟩
    · exact Nat.max_le.2 ⟨h2, Nat.max_lt.2 ⟨h1, hi⟩⟩
    · exact Nat.max_lt.2 ⟨h3, ht⟩
    · split <;> omega
    · split <;> omega
  | false =>
    refine ⟨?_, ?_, ?_, ?_, ?_⟩ <;> simp only [told, refused, Bool.false_eq_true, if_false]
    · exact h1
    · exact Nat.max_le.2 ⟨Nat.le_trans (Nat.min_le_left _ _) h2, h1⟩
    · exact Nat.max_lt.2 ⟨h3, ht⟩
    · exact h4
    · exact h5
theorem send_fits {p : P} (h : Fits p) {s : Nat} (hs : s < lim) : Fits (send p s) := by
  unfold send
  split
  · exact h
  · exact ⟨h.m, h.n, h.r, hs, by simp⟩
theorem sect_fits {p : P} (h : Fits p) (s : Nat) {k : Nat} (hk : k < 256) : Fits (sect p s k) := by
  unfold sect
  split
  · exact ⟨h.m, h.n, h.r, h.s, hk⟩
  · exact h
theorem told_sound {p : P} (h : Sound p) (ok : Bool) (i t : Nat) : Sound (told p ok i t) := by
  obtain ⟨h1, h2, h3⟩ := h
  cases ok with
  | true =>
    refine ⟨?_, ?_, ?_⟩ <;> simp only [told, matched, if_true]
    · omega
    · split <;> omega
    · split <;> omega
  | false =>
    refine ⟨?_, ?_, ?_⟩ <;> simp only [told, refused, Bool.false_eq_true, if_false]
    · omega
    · exact h2
    · exact h3
theorem send_sound {p : P} (h : Sound p) (s : Nat) : Sound (send p s) := by
  unfold send
  split
  · exact h
  · exact ⟨h.1, by simp, .inr rfl⟩
theorem sect_sound {p : P} (h : Sound p) (s k : Nat) : Sound (sect p s k) := by
  unfold sect
  split
  next g => exact ⟨h.1, g.2.2, .inl (by show 0 < p.s; have := g.1; have := g.2.1; omega)⟩
  next => exact h
/-- An act. -/
structure A where
  op : Nat
  ok : Bool
  a : Nat
  b : Nat
  c : Nat
def does (p : P) (x : A) : P := if x.op = 0 then told p x.ok x.a x.b else if x.op = 1 then send p x.a else if x.op = 2 then sect p x.a x.c else p
structure AFit (x : A) : Prop where
  op : x.op < 256
  a : x.a < Nm.top
  b : x.b < Nm.top
  c : x.c < 256
theorem does_fits {p : P} (h : Fits p) {x : A} (hx : AFit x) (ha : x.a < lim) : Fits (does p x) := by
  unfold does
  split
  · exact told_fits h _ ha hx.b
  split
  · exact send_fits h ha
  split
  · exact sect_fits h _ hx.c
  · exact h
theorem does_sound {p : P} (h : Sound p) (x : A) : Sound (does p x) := by
  unfold does
  split
  · exact told_sound h _ _ _
  split
  · exact send_sound h _
  split
  · exact sect_sound h _ _
  · exact h
theorem does_m (p : P) (x : A) : p.m ≤ (does p x).m := by
  unfold does told matched refused send sect
  (repeat' split) <;> simp
  all_goals exact Nat.le_max_left _ _
theorem does_r (p : P) (x : A) : p.r ≤ (does p x).r := by
  unfold does told matched refused send sect
  (repeat' split) <;> simp
  all_goals exact Nat.le_max_left _ _
theorem does_n (p : P) (x : A) (h : ¬ (x.op = 0 ∧ x.ok = false)) : p.n ≤ (does p x).n := by
  unfold does told matched refused send sect
  (repeat' split) <;> simp_all
  all_goals exact Nat.le_max_left _ _
/-! What was told in any row comes to the same. -/
/-- The peer behind the first k of these, told ok. -/
def run (last : Nat) (f : Nat → Nat × Nat) : Nat → P
  | 0 => new last
  | k + 1 => told (run last f k) true (f k).1 (f k).2
theorem run_all (last : Nat) (f : Nat → Nat × Nat) (k : Nat) :
    (run last f k).s = 0 ∧ (run last f k).c = 0 ∧ (∀ x, (run last f k).m ≤ x ↔ ∀ j, j < k → (f j).1 ≤ x) ∧ (∀ x, (run last f k).r ≤ x ↔ ∀ j, j < k → (f j).2 ≤ x) ∧ (run last f k).n = max (last + 1) ((run last f k).m + 1) := by
  induction k with
  | zero => exact ⟨rfl, rfl, fun x => ⟨fun _ j hj => absurd hj (Nat.not_lt_zero j), fun _ => Nat.zero_le x⟩, fun x => ⟨fun _ j hj => absurd hj (Nat.not_lt_zero j), fun _ => Nat.zero_le x⟩, by simp [run, new]⟩
  | succ k ih =>
    obtain ⟨h1, h2, h3, h4, h5⟩ := ih
    have e : run last f (k + 1) = told (run last f k) true (f k).1 (f k).2 := rfl
    rw [e]
    generalize run last f k = p at *
    simp only [told, matched, if_true]
    refine ⟨by simp [h1], by simp [h1, h2], fun x => ?_, fun x => ?_, by omega⟩
    · rw [Nat.max_le, h3]
      refine ⟨fun ⟨a, b⟩ j hj => ?_, fun h => ⟨fun j hj => h j (by omega), h k (by omega)⟩⟩
      rcases Nat.lt_succ_iff_lt_or_eq.1 hj with hj | rfl
      · exact a j hj
      · exact b
    · rw [Nat.max_le, h4]
      refine ⟨fun ⟨a, b⟩ j hj => ?_, fun h => ⟨fun j hj => h j (by omega), h k (by omega)⟩⟩
      rcases Nat.lt_succ_iff_lt_or_eq.1 hj with hj | rfl
      · exact a j hj
      · exact b
theorem run_turn (last : Nat) (f : Nat → Nat × Nat) (n t : Nat) : run last f n = run last (fun j => f ((j + t) % n)) n := by
  obtain ⟨a1, a2, a3, a4, a5⟩ := run_all last f n
  obtain ⟨b1, b2, b3, b4, b5⟩ := run_all last (fun j => f ((j + t) % n)) n
  have key : ∀ g : Nat → Nat, ∀ x, (∀ j, j < n → g j ≤ x) ↔ (∀ j, j < n → g ((j + t) % n) ≤ x) := by
    intro g x
    refine ⟨fun h j hj => h _ (Nat.mod_lt _ (by omega)), fun h j hj => ?_⟩
    have hn : 0 < n := by omega
    have ht := Nat.mod_lt t hn
    have := h ((j + (n - t % n)) % n) (Nat.mod_lt _ hn)
    have e : ((j + (n - t % n)) % n + t) % n = j := by
      rw [Nat.add_mod, Nat.mod_mod, ← Nat.add_mod, Nat.add_mod, ← Nat.add_mod]
      have e2 : j + (n - t % n) + t = j + n * (1 + t / n) := by
        have := Nat.div_add_mod t n
        rw [Nat.mul_add, Nat.mul_one]; omega
      rw [e2, Nat.add_mul_mod_self_left, Nat.mod_eq_of_lt hj]
    rw [e] at this
    exact this
  have hm : (run last f n).m = (run last (fun j => f ((j + t) % n)) n).m := Nat.le_antisymm ((a3 _).2 ((key (fun j => (f j).1) _).2 ((b3 _).1 (Nat.le_refl _)))) ((b3 _).2 ((key (fun j => (f j).1) _).1 ((a3 _).1 (Nat.le_refl _))))
  have hr : (run last f n).r = (run last (fun j => f ((j + t) % n)) n).r := Nat.le_antisymm ((a4 _).2 ((key (fun j => (f j).2) _).2 ((b4 _).1 (Nat.le_refl _)))) ((b4 _).2 ((key (fun j => (f j).2) _).1 ((a4 _).1 (Nat.le_refl _))))
  have hn : (run last f n).n = (run last (fun j => f ((j + t) % n)) n).n := by rw [a5, b5, hm]
  have hs := a1.trans b1.symm
  have hc := a2.trans b2.symm
  clear a1 a2 a3 a4 a5 b1 b2 b3 b4 b5 key
  generalize run last f n = p at *
  generalize run last (fun j => f ((j + t) % n)) n = q at *
  obtain ⟨p1, p2, p3, p4, p5⟩ := p
  obtain ⟨q1, q2, q3, q4, q5⟩ := q
  obtain rfl : p1 = q1 := hm
  obtain rfl : p2 = q2 := hn
  obtain rfl : p3 = q3 := hr
  obtain rfl : p4 = q4 := hs
  obtain rfl : p5 = q5 := hc
  rfl
/-! Sections. -/
/-- The section that is due behind the first k told. -/
def due (l : List Nat) : Nat → Nat
  | 0 => 0
  | k + 1 => if l.getD k 0 < 5 then l.getD k 0 else due l k
theorem due_lt (l : List Nat) (k : Nat) : due l k < 5 := by
  induction k with
  | zero => simp [due]
  | succ k ih => unfold due; split <;> assumption
end Pg
end Go.Proofs.Ytlnohjboldenpaa
