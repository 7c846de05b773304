/-
  Memberships as bit sets: the plain mathematics of layer 10.
-/
import Derived.Test.YtdodpocckjcomaaProg
set_option linter.unusedSimpArgs false
set_option linter.unusedVariables false
namespace Go.Proofs.Ytdodpocckjcomaa
namespace Cf
/-- A node's bit. -/
def bit (n : Nat) : Nat := if 1 ≤ n ∧ n ≤ 5 then 2 ^ (n - 1) else 0
def has (m n : Nat) : Bool := decide (1 ≤ n ∧ n ≤ 5) && m.testBit (n - 1)
def five : List Nat := [1, 2, 3, 4, 5]
def mem (m : Nat) : List Nat := five.filter (has m)
def count (m : Nat) : Nat := (mem m).length
def won (m v : Nat) : Bool := decide (count m < 2 * count (m &&& v))
def near (a b : Nat) : Bool := decide (count (a ^^^ b) ≤ 1)
def of (l : List Nat) : Nat := l.foldl (fun a n => a ||| bit n) 0
def add (m n : Nat) : Nat × Nat := if 1 ≤ n ∧ n ≤ 5 then (if has m n then (0, 5) else ((m &&& 31) ||| bit n, 0)) else (0, 1)
def out (m n : Nat) : Nat × Nat := if 1 ≤ n ∧ n ≤ 5 then (if has m n then ((m &&& 31) - bit n, 0) else (0, 4)) else (0, 1)
theorem bit_lt (n : Nat) : bit n < 32 := by
  unfold bit
  split
  · have : n - 1 ≤ 4 := by omega
    exact Nat.lt_of_le_of_lt (Nat.pow_le_pow_right (by decide) this) (by decide)
  · decide
theorem fives {P : Nat → Prop} (h1 : P 1) (h2 : P 2) (h3 : P 3) (h4 : P 4) (h5 : P 5) : ∀ n, 1 ≤ n → n ≤ 5 → P n
  | 1, _, _ => h1
  | 2, _, _ => h2
  | 3, _, _ => h3
  | 4, _, _ => h4
  | 5, _, _ => h5
  | 0, h, _ => absurd h (by decide)
  | n + 6, _, h => by omega
theorem bit_test : ∀ m : Fin 256, ∀ n : Fin 6, 1 ≤ n.val → decide (m.val &&& 2 ^ (n.val - 1) = 0) = !m.val.testBit (n.val - 1) := by decide +kernel
theorem has_eq (m n : Nat) (hm : m < 256) : has m n = !decide (m &&& bit n = 0) := by
  unfold has bit
  by_cases h : 1 ≤ n ∧ n ≤ 5
  · rw [if_pos h, decide_eq_true h, Bool.true_and, bit_test ⟨m, hm⟩ ⟨n, by omega⟩ h.1, Bool.not_not]
  · rw [if_neg h, decide_eq_false h, Bool.false_and, Nat.and_zero]; rfl
theorem count_tab : ∀ m : Fin 256, ∀ h : m.val &&& 31 < 256, count m.val ≤ 5 := by decide +kernel
theorem count_le (m : Nat) : count m ≤ 5 := List.length_filter_le _ five
theorem mem_le (m n : Nat) (h : n ∈ mem m) : 1 ≤ n ∧ n ≤ 5 ∧ has m n = true := by
  obtain ⟨h1, h2⟩ := List.mem_filter.1 h
  refine ⟨?_, ?_, h2⟩ <;> (unfold five at h1; simp at h1; omega)
theorem mem_iff (m n : Nat) : n ∈ mem m ↔ has m n = true := by
  refine ⟨fun h => (mem_le m n h).2.2, fun h => List.mem_filter.2 ⟨?_, h⟩⟩
  unfold has at h
  have : 1 ≤ n ∧ n ≤ 5 := by simpa using (Bool.and_eq_true_iff.1 h).1
  unfold five
  simp; omega
theorem mem_nodup (m : Nat) : (mem m).Nodup := List.Pairwise.filter _ (by decide)
theorem has_and (a b n : Nat) : has (a &&& b) n = (has a n && has b n) := by
  unfold has; rw [Nat.testBit_and]
  cases decide (1 ≤ n ∧ n ≤ 5) <;> cases a.testBit (n - 1) <;> cases b.testBit (n - 1) <;> rfl
theorem has_or (a b n : Nat) : has (a ||| b) n = (has a n || has b n) := by
  unfold has; rw [Nat.testBit_or]
  cases decide (1 ≤ n ∧ n ≤ 5) <;> cases a.testBit (n - 1) <;> cases b.testBit (n - 1) <;> rfl
theorem has_xor (a b n : Nat) : has (a ^^^ b) n = (has a n != has b n) := by
  unfold has; rw [Nat.testBit_xor]
  cases decide (1 ≤ n ∧ n ≤ 5) <;> cases a.testBit (n - 1) <;> cases b.testBit (n - 1) <;> rfl
theorem has_zero (n : Nat) : has 0 n = false := by unfold has; simp
theorem has_31 (m n : Nat) : has (m &&& 31) n = has m n := by
  rw [has_and]
  by_cases h : 1 ≤ n ∧ n ≤ 5
  · have : has 31 n = true := fives (P := fun n => has 31 n = true) (by decide) (by decide) (by decide) (by decide) (by decide) n h.1 h.2
    rw [this, Bool.and_true]
  · unfold has; rw [decide_eq_false h]; rfl
theorem has_bit (n k : Nat) : has (bit n) k = (decide (k = n) && decide (1 ≤ n ∧ n ≤ 5)) := by
  by_cases h : 1 ≤ n ∧ n ≤ 5
  · by_cases hk : 1 ≤ k ∧ k ≤ 5
    · have key : ∀ a : Fin 6, ∀ b : Fin 6, 1 ≤ a.val → 1 ≤ b.val → has (bit a.val) b.val = decide (b.val = a.val) := by decide +kernel
      have := key ⟨n, by omega⟩ ⟨k, by omega⟩ h.1 hk.1
      simp only at this
      rw [this, decide_eq_true h, Bool.and_true]
    · have : k ≠ n := by omega
      unfold has
      rw [decide_eq_false hk, decide_eq_false this]; rfl
  · unfold bit; rw [if_neg h, decide_eq_false h, has_zero, Bool.and_false]
theorem mem_and (a b : Nat) : mem (a &&& b) = (mem a).filter (has b) := by
  unfold mem
  rw [List.filter_filter]
  congr 1
  funext n
  rw [has_and, Bool.and_comm]
theorem mem_31 (m : Nat) : mem (m &&& 31) = mem m := by
  unfold mem; congr 1; funext n; exact has_31 m n
theorem count_31 (m : Nat) : count (m &&& 31) = count m := by unfold count; rw [mem_31]
theorem count_and (a b : Nat) : count (a &&& b) = (mem a).countP (has b) := by unfold count; rw [mem_and, List.countP_eq_length_filter]
theorem won_eq (m v : Nat) : won m v = decide (count m < 2 * (mem m).countP (has v)) := by unfold won; rw [count_and]
theorem won_31 (m v : Nat) : won (m &&& 31) v = won m v := by rw [won_eq, won_eq, count_31, mem_31]
theorem won_more {m v : Nat} (x : Nat) (h : won m v = true) : won m (v ||| x) = true := by
  rw [won_eq, decide_eq_true_iff] at h ⊢
  refine Nat.lt_of_lt_of_le h (Nat.mul_le_mul_left 2 (List.countP_mono_left fun n _ hn => ?_))
  rw [has_or, hn]; rfl
theorem won_zero (m : Nat) : won m 0 = false := by
  rw [won_eq, decide_eq_false_iff_not]
  have : (mem m).countP (has 0) = 0 := by rw [List.countP_eq_zero]; intro n _; rw [has_zero]; decide
  omega
theorem won_all (m : Nat) : won m m = decide (m &&& 31 ≠ 0) := by
  have key : ∀ k : Fin 32, decide (count k.val < 2 * count k.val) = decide (k.val ≠ 0) := by decide +kernel
  rw [← won_31]
  have e : won (m &&& 31) m = decide (count (m &&& 31) < 2 * count (m &&& 31)) := by
    rw [won_eq]
    congr 2
    unfold count
    rw [List.countP_eq_length.2]
    intro n hn
    rw [mem_31] at hn
    exact (mem_le m n hn).2.2
  rw [e]
  exact key ⟨m &&& 31, Nat.lt_of_le_of_lt Nat.and_le_right (by decide)⟩
/-- A list's bits, one by one. -/
def ofR (l : List Nat) : Nat := (if 1 ∈ l then 1 else 0) + (if 2 ∈ l then 2 else 0) + (if 3 ∈ l then 4 else 0) + (if 4 ∈ l then 8 else 0) + (if 5 ∈ l then 16 else 0)
def sum5 (a b c d e : Bool) : Nat := (if a then 1 else 0) + (if b then 2 else 0) + (if c then 4 else 0) + (if d then 8 else 0) + (if e then 16 else 0)
theorem ofR_eq (l : List Nat) : ofR l = sum5 (decide (1 ∈ l)) (decide (2 ∈ l)) (decide (3 ∈ l)) (decide (4 ∈ l)) (decide (5 ∈ l)) := by unfold ofR sum5; simp only [decide_eq_true_eq]
theorem sum5_or : ∀ a b c d e : Bool, sum5 true b c d e = sum5 a b c d e ||| 1 ∧ sum5 a true c d e = sum5 a b c d e ||| 2 ∧ sum5 a b true d e = sum5 a b c d e ||| 4 ∧ sum5 a b c true e = sum5 a b c d e ||| 8 ∧ sum5 a b c d true = sum5 a b c d e ||| 16 := by decide +kernel
theorem ofR_snoc (l : List Nat) (n : Nat) : ofR (l ++ [n]) = ofR l ||| bit n := by
  rw [ofR_eq, ofR_eq]
  have hd : ∀ k : Nat, decide (k ∈ l ++ [n]) = (decide (k ∈ l) || decide (k = n)) := fun k => by
    rw [Bool.eq_iff_iff]; simp
  simp only [hd]
  by_cases h : 1 ≤ n ∧ n ≤ 5
  · obtain ⟨h1, h2⟩ := h
    have S := sum5_or (decide (1 ∈ l)) (decide (2 ∈ l)) (decide (3 ∈ l)) (decide (4 ∈ l)) (decide (5 ∈ l))
    rcases (show n = 1 ∨ n = 2 ∨ n = 3 ∨ n = 4 ∨ n = 5 by omega) with rfl | rfl | rfl | rfl | rfl
    · simpa [bit] using S.1
    · simpa [bit] using S.2.1
    · simpa [bit] using S.2.2.1
    · simpa [bit] using S.2.2.2.1
    · simpa [bit] using S.2.2.2.2
  · have e : bit n = 0 := by unfold bit; rw [if_neg h]
    rw [e, Nat.or_zero]
    have hk : ∀ k, 1 ≤ k → k ≤ 5 → decide (k = n) = false := fun k a b => decide_eq_false (by omega)
    simp only [hk 1 (by decide) (by decide), hk 2 (by decide) (by decide), hk 3 (by decide) (by decide), hk 4 (by decide) (by decide), hk 5 (by decide) (by decide), Bool.or_false]
theorem of_snoc (l : List Nat) (n : Nat) : of (l ++ [n]) = of l ||| bit n := by unfold of; rw [List.foldl_append]; rfl
theorem of_eq (l : List Nat) : ofR l = of l := by
  have key : ∀ r : List Nat, ofR r.reverse = of r.reverse := by
    intro r
    induction r with
    | nil => rfl
    | cons n r ih => rw [List.reverse_cons, ofR_snoc, of_snoc, ih]
  have := key l.reverse
  rwa [List.reverse_reverse] at this
theorem of_lt (l : List Nat) : of l < 32 := by
  rw [← of_eq]; unfold ofR
  repeat' split
  all_goals omega
theorem of_mem : ∀ m : Fin 256, of (mem m.val) = m.val &&& 31 := by decide +kernel
theorem add_ref : ∀ m n, m < 256 → 1 ≤ n → n ≤ 5 → has m n = false → of (mem m ++ [n]) = (add m n).1 := by
  intro m n hm h1 h2 hh
  unfold add
  rw [if_pos ⟨h1, h2⟩, hh, of_snoc, of_mem ⟨m, hm⟩]
  rfl
theorem out_ref : ∀ m : Fin 256, ∀ n : Fin 6, 1 ≤ n.val → has m.val n.val = true → of ((mem m.val).filter (fun k => decide (k ≠ n.val))) = (m.val &&& 31) - bit n.val := by decide +kernel
theorem out_not : ∀ m : Fin 32, ∀ n : Fin 6, 1 ≤ n.val → has m.val n.val = true → m.val &&& (255 - bit n.val) = m.val - bit n.val := by decide +kernel
theorem steps_add : ∀ m : Fin 256, ∀ n : Fin 6, (add m.val n.val).2 = 0 → near m.val (add m.val n.val).1 = true ∧ has (add m.val n.val).1 n.val = true ∧ (add m.val n.val).1 < 256 ∧ out (add m.val n.val).1 n.val = (m.val &&& 31, 0) := by decide +kernel
theorem steps_out : ∀ m : Fin 256, ∀ n : Fin 6, (out m.val n.val).2 = 0 → near m.val (out m.val n.val).1 = true ∧ has (out m.val n.val).1 n.val = false ∧ (out m.val n.val).1 < 256 ∧ add (out m.val n.val).1 n.val = (m.val &&& 31, 0) := by decide +kernel
theorem add_no {m n : Nat} (h : (add m n).2 = 0) : n < 6 := by
  unfold add at h
  by_cases h1 : 1 ≤ n ∧ n ≤ 5
  · omega
  · rw [if_neg h1] at h; cases h
theorem out_no {m n : Nat} (h : (out m n).2 = 0) : n < 6 := by
  unfold out at h
  by_cases h1 : 1 ≤ n ∧ n ≤ 5
  · omega
  · rw [if_neg h1] at h; cases h
theorem add_lt (m n : Nat) : (add m n).1 < 32 := by
  unfold add
  split
  · split
    · decide
    · exact Nat.or_lt_two_pow (n := 5) (Nat.lt_of_le_of_lt Nat.and_le_right (by decide)) (bit_lt n)
  · decide
theorem out_lt (m n : Nat) : (out m n).1 < 32 := by
  unfold out
  split
  · split
    · exact Nat.lt_of_le_of_lt (Nat.sub_le _ _) (Nat.lt_of_le_of_lt Nat.and_le_right (by decide))
    · decide
  · decide
/-- Majorities of what is near meet. -/
theorem meet_tab : ∀ a : Fin 32, ∀ b : Fin 32, near a.val b.val = true → ∀ u : Fin 32, u.val &&& a.val = u.val → count a.val < 2 * count u.val → ∀ v : Fin 32, v.val &&& b.val = v.val → count b.val < 2 * count v.val → five.any (fun n => has u.val n && has v.val n) = true := by decide +kernel
theorem and31_lt (m : Nat) : m &&& 31 < 32 := Nat.lt_of_le_of_lt Nat.and_le_right (by decide)
theorem count_congr {a b : Nat} (h : ∀ n, has a n = has b n) : count a = count b := by
  unfold count mem; congr 2; funext n; exact h n
theorem meets {a b x y : Nat} (hn : near a b = true) (ha : won a x = true) (hb : won b y = true) : ∃ n, 1 ≤ n ∧ n ≤ 5 ∧ has a n = true ∧ has b n = true ∧ has x n = true ∧ has y n = true := by
  have h := meet_tab ⟨a &&& 31, and31_lt a⟩ ⟨b &&& 31, and31_lt b⟩ (by
    unfold near at hn ⊢
    rw [count_congr (b := a ^^^ b)]
    · exact hn
    · intro n; rw [has_xor, has_xor, has_31, has_31]) ⟨(a &&& x) &&& 31, and31_lt _⟩ (by
      show ((a &&& x) &&& 31) &&& (a &&& 31) = (a &&& x) &&& 31
      apply Nat.eq_of_testBit_eq
      intro i
      simp only [Nat.testBit_and]
      cases a.testBit i <;> cases x.testBit i <;> cases Nat.testBit 31 i <;> rfl) (by
      show count (a &&& 31) < 2 * count ((a &&& x) &&& 31)
      rw [count_31, count_31]
      unfold won at ha
      exact of_decide_eq_true ha) ⟨(b &&& y) &&& 31, and31_lt _⟩ (by
      show ((b &&& y) &&& 31) &&& (b &&& 31) = (b &&& y) &&& 31
      apply Nat.eq_of_testBit_eq
      intro i
      simp only [Nat.testBit_and]
      cases b.testBit i <;> cases y.testBit i <;> cases Nat.testBit 31 i <;> rfl) (by
      show count (b &&& 31) < 2 * count ((b &&& y) &&& 31)
      rw [count_31, count_31]
      unfold won at hb
      exact of_decide_eq_true hb)
  obtain ⟨n, hn1, hn2⟩ := List.any_eq_true.1 h
  simp only [has_31, has_and, Bool.and_eq_true] at hn2
  have : 1 ≤ n ∧ n ≤ 5 := by unfold five at hn1; simp at hn1; omega
  exact ⟨n, this.1, this.2, hn2.1.1.1, hn2.2.1.1, hn2.1.1.2, hn2.2.1.2⟩
/-- What a level is among some numbers. -/
structure Lvl (L : List Nat) (v : Nat) : Prop where
  mem : v ∈ L
  won : L.length < 2 * L.countP (fun y => decide (v ≤ y))
  not : 2 * L.countP (fun y => decide (v < y)) ≤ L.length
theorem Lvl.unique {L : List Nat} {v u : Nat} (h : Lvl L v) (k : Lvl L u) : v = u := by
  have key : ∀ {a b : Nat}, Lvl L a → Lvl L b → ¬ a < b := fun {a b} ha hb hab => by
    have := List.countP_mono_left (l := L) (p := fun y => decide (b ≤ y)) (q := fun y => decide (a < y)) (fun y _ hy => by simp at hy ⊢; omega)
    have := hb.won
    have := ha.not
    omega
  have := key h k
  have := key k h
  omega
theorem Lvl.of_sorted {L s : List Nat} (hp : s.Perm L) (hs : s.Pairwise (· ≤ ·)) (h0 : (s.length - 1) / 2 < s.length) : Lvl L (s[(s.length - 1) / 2]) := by
  obtain ⟨j, hj⟩ : ∃ j, j = (s.length - 1) / 2 := ⟨_, rfl⟩
  have hjl : j < s.length := by omega
  have e : s[(s.length - 1) / 2] = s[j] := by congr 1; exact hj.symm
  rw [e]
  have hge : ∀ y ∈ s.drop j, s[j] ≤ y := by
    intro y hy
    rw [List.drop_eq_getElem_cons hjl] at hy
    rcases List.mem_cons.1 hy with rfl | hy
    · exact Nat.le_refl _
    · obtain ⟨i, hi, rfl⟩ := List.mem_iff_getElem.1 hy
      rw [List.getElem_drop]
      have := (List.pairwise_iff_getElem.1 hs) j (j + 1 + i) hjl (by rw [List.length_drop] at hi; omega) (by omega)
      exact this
  have hle : ∀ y ∈ s.take (j + 1), y ≤ s[j] := by
    intro y hy
    obtain ⟨i, hi, rfl⟩ := List.mem_iff_getElem.1 hy
    rw [List.getElem_take]
    rw [List.length_take] at hi
    by_cases h : i = j
    · subst h; exact Nat.le_refl _
    · exact (List.pairwise_iff_getElem.1 hs) i j (by omega) hjl (by omega)
  refine ⟨hp.mem_iff.1 (List.getElem_mem hjl), ?_, ?_⟩
  · rw [← hp.length_eq, ← hp.countP_eq]
    have h1 : (s.drop j).countP (fun y => decide (s[j] ≤ y)) = (s.drop j).length := List.countP_eq_length.2 fun y hy => by simpa using hge y hy
    have h2 := List.countP_append (l₁ := s.take j) (l₂ := s.drop j) (p := fun y => decide (s[j] ≤ y))
    rw [List.take_append_drop] at h2
    rw [h2, h1, List.length_drop]
    omega
  · rw [← hp.length_eq, ← hp.countP_eq]
    have h1 : (s.take (j + 1)).countP (fun y => decide (s[j] < y)) = 0 := List.countP_eq_zero.2 fun y hy => by have := hle y hy; simp; omega
    have h2 := List.countP_append (l₁ := s.take (j + 1)) (l₂ := s.drop (j + 1)) (p := fun y => decide (s[j] < y))
    rw [List.take_append_drop] at h2
    have h3 := List.countP_le_length (l := s.drop (j + 1)) (p := fun y => decide (s[j] < y))
    rw [List.length_drop] at h3
    omega
theorem Lvl.mono {l : List Nat} {x y : Nat → Nat} {v u : Nat} (h : Lvl (l.map x) v) (k : Lvl (l.map y) u) (hxy : ∀ n ∈ l, x n ≤ y n) : v ≤ u := by
  rcases Nat.lt_or_ge u v with hlt | hge
  · exfalso
    have h1 := h.won
    have h2 := k.not
    rw [List.countP_map, List.length_map] at h1 h2
    have h3 := List.countP_mono_left (l := l) (p := (fun z => decide (v ≤ z)) ∘ x) (q := (fun z => decide (u < z)) ∘ y) (fun n hn hy => by have := hxy n hn; simp at hy ⊢; omega)
    omega
  · exact hge
/-- The level of a membership, by its marks. -/
def IsLevel (m : Nat) (x : Nat → Nat) (v : Nat) : Prop := (mem m = [] ∧ v = 0) ∨ Lvl ((mem m).map x) v
theorem IsLevel.unique {m v u : Nat} {x : Nat → Nat} (h : IsLevel m x v) (k : IsLevel m x u) : v = u := by
  rcases h with ⟨h0, rfl⟩ | h
  · rcases k with ⟨_, rfl⟩ | k
    · rfl
    · have := k.mem; rw [h0] at this; simp at this
  · rcases k with ⟨h0, _⟩ | k
    · have := h.mem; rw [h0] at this; simp at this
    · exact h.unique k
end Cf
end Go.Proofs.Ytdodpocckjcomaa
