/-
  The plain mathematics of layer 1 (num): groups of a number, their reading, numbers of a width. No program is named here.
  Small words for all walks: worlds one behind the other, slices that lie in memory.
  A byte as an element.
  Small words for the walks of layer 1: a row of bytes that a call owns, a slice that lies in memory.
  Words of layer 1 that name none of its functions: groups of numbers, rows of strings, what readers answer.
-/
import Derived.Test.YtlnohjboldenpaaProg
import Derived.WalkKit
import Derived.WalkSpells
import Derived.WalkLawsBesides
import Derived.Lib.Hide
import Derived.Lib.Strings
import Derived.Deep.QuietTactic
import Derived.BigQuiet
import Derived.Laws.Rows
import Derived.Lib.AppendStr
import Derived.Laws.BytesArg
import Derived.Laws.IdiomStrings
set_option linter.unusedSimpArgs false
set_option linter.unusedVariables false
namespace Go.Proofs.Ytlnohjboldenpaa
namespace Nm

def b8 (n : Nat) : UInt8 := UInt8.ofNat n

theorem b8_toNat (n : Nat) (h : n < 256) : (b8 n).toNat = n := by
  unfold b8; simp [UInt8.toNat_ofNat']; omega
theorem b8_of (c : UInt8) (n : Nat) (h : c.toNat = n) : b8 n = c := by
  subst h; simp [b8]

/-- The marked digits of n above the last one: k of them. -/
def hi : Nat → Nat → List UInt8
  | 0, _ => []
  | k + 1, n => b8 (n / 128 ^ (k + 1) % 128 + 128) :: hi k n

/-- How many digits stand above the last one (with fuel f). -/
def cntF : Nat → Nat → Nat
  | 0, _ => 0
  | f + 1, n => if n < 128 then 0 else cntF f (n / 128) + 1
def cnt (n : Nat) : Nat := cntF 10 n

def grp (n : Nat) : List UInt8 := hi (cnt n) n ++ [b8 (n % 128)]

theorem hi_length : ∀ k n, (hi k n).length = k
  | 0, _ => rfl
  | k + 1, n => by simp [hi, hi_length k n]

theorem grp_length (n : Nat) : (grp n).length = cnt n + 1 := by simp [grp, hi_length]

theorem hi_snoc : ∀ k n, hi (k + 1) n = hi k (n / 128) ++ [b8 (n / 128 % 128 + 128)]
  | 0, n => by simp [hi]
  | k + 1, n => by
    rw [hi, hi_snoc k n, hi, Nat.div_div_eq_div_mul, List.cons_append, Nat.pow_succ' (n := k + 1)]

theorem cntF_spec : ∀ f n, n < 128 ^ f → 0 < f → n < 128 ^ (cntF f n + 1) ∧ (cntF f n = 0 ∨ 128 ^ cntF f n ≤ n) ∧ cntF f n < f
  | 0, _, _, h => absurd h (by omega)
  | f + 1, n, h, _ => by
    unfold cntF
    by_cases hn : n < 128
    · rw [if_pos hn]; simp; exact hn
    · rw [if_neg hn]
      have hf : 0 < f := by
        rcases Nat.eq_zero_or_pos f with h0 | h0
        · subst h0; simp at h; omega
        · exact h0
      have hd : n / 128 < 128 ^ f := by
        rw [Nat.div_lt_iff_lt_mul (by omega)]; rw [Nat.pow_succ] at h; exact h
      obtain ⟨h1, h2, h3⟩ := cntF_spec f (n / 128) hd hf
      refine ⟨?_, .inr ?_, by omega⟩
      · rw [Nat.pow_succ, ← Nat.div_lt_iff_lt_mul (by omega)]; exact h1
      · rcases h2 with h2 | h2
        · rw [h2]; simp; omega
        · rw [Nat.pow_succ, ← Nat.le_div_iff_mul_le (by omega)]; exact h2

def top : Nat := 18446744073709551616
theorem top_lt : top ≤ 128 ^ 10 := by unfold top; decide

theorem cnt_spec (n : Nat) (h : n < top) : n < 128 ^ (cnt n + 1) ∧ (cnt n = 0 ∨ 128 ^ cnt n ≤ n) ∧ cnt n ≤ 9 := by
  have := cntF_spec 10 n (Nat.lt_of_lt_of_le h top_lt) (by omega)
  exact ⟨this.1, this.2.1, by have := this.2.2; unfold cnt; omega⟩

theorem pow_le {a c : Nat} (h : a ≤ c) : 128 ^ a ≤ 128 ^ c := Nat.pow_le_pow_right (by omega) h

theorem cnt_eq (n k : Nat) (h : n < top) (h1 : n < 128 ^ (k + 1)) (h2 : k = 0 ∨ 128 ^ k ≤ n) : cnt n = k := by
  obtain ⟨a, c, _⟩ := cnt_spec n h
  rcases Nat.lt_trichotomy (cnt n) k with hlt | he | hgt
  · rcases h2 with h2 | h2
    · omega
    · have := pow_le (show cnt n + 1 ≤ k by omega); omega
  · exact he
  · rcases c with c | c
    · omega
    · have := pow_le (show k + 1 ≤ cnt n by omega); omega

/-- The loop's test: is the number, shifted by k digits, above one digit? -/
theorem cnt_test (n k : Nat) (h : n < top) : (127 < n / 128 ^ k) ↔ k < cnt n := by
  obtain ⟨a, c, _⟩ := cnt_spec n h
  have hp : 0 < 128 ^ k := Nat.pow_pos (by omega)
  constructor
  · intro hk
    have : 128 * 128 ^ k ≤ n := (Nat.le_div_iff_mul_le hp).1 (show 128 ≤ n / 128 ^ k by omega)
    rw [Nat.mul_comm, ← Nat.pow_succ] at this
    rcases Nat.lt_or_ge k (cnt n) with g | g
    · exact g
    · have := pow_le (show cnt n + 1 ≤ k + 1 by omega); omega
  · intro hk
    rcases c with c | c
    · omega
    · have h3 := pow_le (show k + 1 ≤ cnt n by omega)
      rw [Nat.pow_succ] at h3
      have : 128 ≤ n / 128 ^ k := (Nat.le_div_iff_mul_le hp).2 (by rw [Nat.mul_comm]; omega)
      omega

/-! Reading. -/
def rd : List UInt8 → Nat → Nat → Option (Nat × Nat)
  | [], _, _ => none
  | c :: r, acc, i => if 144115188075855871 < acc then none else if c.toNat < 128 then some (acc * 128 + c.toNat % 128, i + 1) else rd r (acc * 128 + c.toNat % 128) (i + 1)

def readV (l : List UInt8) : Option (Nat × Nat) := if l.head? = some 128 then none else rd l 0 0

def val (l : List UInt8) : Nat := l.foldl (fun a c => a * 128 + c.toNat % 128) 0
theorem val_snoc (l : List UInt8) (c : UInt8) : val (l ++ [c]) = val l * 128 + c.toNat % 128 := by simp [val]

theorem digit_hi (m : Nat) : (b8 (m % 128 + 128)).toNat = m % 128 + 128 := b8_toNat _ (by omega)
theorem digit_lo (m : Nat) : (b8 (m % 128)).toNat = m % 128 := b8_toNat _ (by omega)

/-- Reading all of a number's digits above the last, from acc, whatever follows. -/
theorem rd_hi : ∀ (k n acc i : Nat) (r : List UInt8), acc * 128 ^ k + n / 128 % 128 ^ k ≤ 144115188075855871 →
    rd (hi k n ++ r) acc i = rd r (acc * 128 ^ k + n / 128 % 128 ^ k) (i + k)
  | 0, n, acc, i, r, _ => by simp [hi, Nat.mod_one]
  | k + 1, n, acc, i, r, h => by
    have hp : 0 < 128 ^ k := Nat.pow_pos (by omega)
    have e : n / 128 % 128 ^ (k + 1) = n / 128 % 128 ^ k + 128 ^ k * (n / 128 ^ (k + 1) % 128) := by
      rw [Nat.pow_succ, Nat.mod_mul, Nat.div_div_eq_div_mul, Nat.mul_comm 128 (128 ^ k)]
    have e2 : acc * 128 ^ (k + 1) + n / 128 % 128 ^ (k + 1) = (acc * 128 + n / 128 ^ (k + 1) % 128) * 128 ^ k + n / 128 % 128 ^ k := by
      rw [e, Nat.add_mul, Nat.pow_succ, Nat.mul_comm (128 ^ k) 128, Nat.mul_assoc, Nat.mul_comm (128 ^ k) (_ % 128)]; omega
    have hacc : acc ≤ 144115188075855871 := by
      have : acc * 1 ≤ acc * 128 ^ (k + 1) := Nat.mul_le_mul_left _ (Nat.pow_pos (by omega))
      omega
    have hlt : ¬ (n / 128 ^ (k + 1) % 128 + 128 < 128) := by omega
    have hm : (n / 128 ^ (k + 1) % 128 + 128) % 128 = n / 128 ^ (k + 1) % 128 := by omega
    rw [hi, List.cons_append, rd, if_neg (by omega), digit_hi, if_neg hlt, hm, rd_hi k n _ _ r (by rw [← e2]; exact h), e2]
    congr 1; omega

theorem hi_head (k n : Nat) (h : 128 ^ (k + 1) ≤ n) (h1 : n < 128 ^ (k + 2)) : (hi (k + 1) n).head? ≠ some 128 := by
  have hp : 0 < 128 ^ (k + 1) := Nat.pow_pos (by omega)
  have : 1 ≤ n / 128 ^ (k + 1) := (Nat.le_div_iff_mul_le hp).2 (by omega)
  have h2 : n / 128 ^ (k + 1) < 128 := (Nat.div_lt_iff_lt_mul hp).2 (by rw [Nat.mul_comm, ← Nat.pow_succ]; exact h1)
  intro he
  have e : b8 (n / 128 ^ (k + 1) % 128 + 128) = 128 := by simpa [hi] using he
  have := digit_hi (n / 128 ^ (k + 1))
  rw [e] at this
  have h128 : (128 : UInt8).toNat = 128 := rfl
  omega

/-- What is put is read again, whatever follows. -/
theorem readV_grp (n : Nat) (h : n < top) (r : List UInt8) : readV (grp n ++ r) = some (n, (grp n).length) := by
  obtain ⟨a, c, _⟩ := cnt_spec n h
  have hhead : (grp n ++ r).head? ≠ some 128 := by
    rcases hk : cnt n with _ | k
    · unfold grp; rw [hk]
      intro he
      have e : b8 (n % 128) = 128 := by simpa [hi] using he
      have := digit_lo n
      rw [e] at this
      have h128 : (128 : UInt8).toNat = 128 := rfl
      omega
    · rw [hk] at a c
      rcases c with c | c
      · omega
      · have := hi_head k n c a
        unfold grp; rw [hk]
        intro he; apply this
        have : (hi (k + 1) n ++ [b8 (n % 128)] ++ r).head? = (hi (k + 1) n).head? := by simp [hi]
        rw [← this]; exact he
  have hq : n / 128 < 128 ^ cnt n := (Nat.div_lt_iff_lt_mul (by omega)).2 (by rw [← Nat.pow_succ]; exact a)
  have hb : n / 128 ≤ 144115188075855871 := by unfold top at h; omega
  have hr : rd (hi (cnt n) n ++ ([b8 (n % 128)] ++ r)) 0 0 = rd ([b8 (n % 128)] ++ r) (0 * 128 ^ cnt n + n / 128 % 128 ^ cnt n) (0 + cnt n) :=
    rd_hi _ _ _ _ _ (by rw [Nat.mod_eq_of_lt hq]; omega)
  unfold readV
  rw [if_neg hhead, grp_length]
  unfold grp
  rw [List.append_assoc, hr, Nat.mod_eq_of_lt hq, List.cons_append, rd, if_neg (by omega), digit_lo, if_pos (by omega)]
  congr 2 <;> omega

/-- The digits of a row of marked bytes. -/
theorem hi_of : ∀ (p : List UInt8) (c : Nat), c < 128 → (∀ x ∈ p, 128 ≤ x.toNat) → hi p.length (val p * 128 + c) = p := by
  intro p
  induction h : p.length generalizing p with
  | zero => intro c _ _; have : p = [] := List.eq_nil_of_length_eq_zero h; subst this; rfl
  | succ k ih =>
    intro c hc hp
    obtain ⟨q, d, rfl⟩ : ∃ q d, p = q ++ [d] := by
      refine ⟨p.dropLast, p.getLast (by intro e; subst e; simp at h), ?_⟩
      exact (List.dropLast_concat_getLast _).symm
    have hl : q.length = k := by simpa using h
    have e1 : (val (q ++ [d]) * 128 + c) / 128 = val (q ++ [d]) := by omega
    have hd : 128 ≤ d.toNat := hp d (by simp)
    have hd2 := d.toNat_lt
    rw [hi_snoc, e1, val_snoc, ih q hl (d.toNat % 128) (by omega) (fun x hx => hp x (by simp [hx]))]
    congr 2
    exact b8_of _ _ (by omega)

theorem val_lt : ∀ (p : List UInt8), val p < 128 ^ p.length := by
  intro p
  induction h : p.length generalizing p with
  | zero => have : p = [] := List.eq_nil_of_length_eq_zero h; subst this; simp [val]
  | succ k ih =>
    obtain ⟨q, d, rfl⟩ : ∃ q d, p = q ++ [d] := by
      refine ⟨p.dropLast, p.getLast (by intro e; subst e; simp at h), ?_⟩
      exact (List.dropLast_concat_getLast _).symm
    have hl : q.length = k := by simpa using h
    have := ih q hl
    rw [val_snoc, Nat.pow_succ]; omega

theorem val_ge : ∀ (p : List UInt8), (∀ x, p.head? = some x → 1 ≤ x.toNat % 128) → p ≠ [] → 128 ^ (p.length - 1) ≤ val p := by
  intro p
  induction h : p.length generalizing p with
  | zero => intro _ hne; exact absurd (List.eq_nil_of_length_eq_zero h) hne
  | succ k ih =>
    intro hh hne
    obtain ⟨q, d, rfl⟩ : ∃ q d, p = q ++ [d] := by
      refine ⟨p.dropLast, p.getLast hne, ?_⟩
      exact (List.dropLast_concat_getLast _).symm
    have hl : q.length = k := by simpa using h
    rw [val_snoc]
    rcases q with _ | ⟨x, q⟩
    · have := hh d (by simp)
      simp at hl; subst hl; simp [val]; omega
    · have := ih (x :: q) hl (fun y hy => hh y (by simpa using hy)) (by simp)
      have hk : k = (k - 1) + 1 := by simp at hl; omega
      have hpw : 128 ^ k = 128 ^ (k - 1) * 128 := by conv => lhs; rw [hk, Nat.pow_succ]
      simp only [Nat.add_sub_cancel]
      omega

theorem rd_some : ∀ (r p : List UInt8) (n k : Nat), (∀ x ∈ p, 128 ≤ x.toNat) → (∀ x, (p ++ r).head? = some x → x ≠ 128) → rd r (val p) p.length = some (n, k) →
    n < top ∧ ∃ r', p ++ r = grp n ++ r' ∧ k = (grp n).length
  | [], p, n, k, _, _, h => by simp [rd] at h
  | c :: r, p, n, k, hp, hh, h => by
    unfold rd at h
    by_cases h1 : 144115188075855871 < val p
    · rw [if_pos h1] at h; cases h
    · rw [if_neg h1] at h
      have hc := c.toNat_lt
      by_cases h2 : c.toNat < 128
      · rw [if_pos h2] at h
        have hnk : n = val p * 128 + c.toNat % 128 ∧ k = p.length + 1 := by
          injection h with h; injection h with ha hb; exact ⟨ha.symm, hb.symm⟩
        obtain ⟨rfl, rfl⟩ := hnk
        have hm : c.toNat % 128 = c.toNat := by omega
        have ht : val p * 128 + c.toNat % 128 < top := by unfold top; omega
        have hcnt : cnt (val p * 128 + c.toNat % 128) = p.length := by
          refine cnt_eq _ _ ht ?_ ?_
          · have := val_lt p; rw [Nat.pow_succ]; omega
          · rcases p with _ | ⟨x, p⟩
            · exact .inl rfl
            · right
              have hx := hh x (by simp)
              have hx1 := hp x (by simp)
              have hx2 := x.toNat_lt
              have hx3 : x.toNat ≠ 128 := fun e => hx (UInt8.toNat_inj.1 e)
              have := val_ge (x :: p) (fun y hy => by simp at hy; subst hy; omega) (by simp)
              simp only [List.length_cons, Nat.add_sub_cancel] at this ⊢
              rw [Nat.pow_succ]; omega
        have hg : grp (val p * 128 + c.toNat % 128) = p ++ [c] := by
          unfold grp
          rw [hcnt, hi_of p _ (by omega) hp]
          congr 2
          exact b8_of _ _ (by omega)
        refine ⟨ht, r, by rw [hg]; simp, by rw [hg]; simp⟩
      · rw [if_neg h2] at h
        have e : val p * 128 + c.toNat % 128 = val (p ++ [c]) := (val_snoc p c).symm
        rw [e, show p.length + 1 = (p ++ [c]).length by simp] at h
        have := rd_some r (p ++ [c]) n k (fun x hx => by
          rcases List.mem_append.1 hx with hx | hx
          · exact hp x hx
          · simp at hx; subst hx; omega) (fun x hx => hh x (by simpa using hx)) h
        simpa using this

theorem readV_iff (l : List UInt8) (n k : Nat) : readV l = some (n, k) ↔ n < top ∧ ∃ r, l = grp n ++ r ∧ k = (grp n).length := by
  constructor
  · intro h
    unfold readV at h
    by_cases h1 : l.head? = some 128
    · rw [if_pos h1] at h; cases h
    · rw [if_neg h1] at h
      have := rd_some l [] n k (by simp) (fun x hx e => h1 (by subst e; simpa using hx)) (by simpa [val] using h)
      simpa using this
  · rintro ⟨hn, r, rfl, rfl⟩
    exact readV_grp n hn r

theorem foldl_hi : ∀ (k n acc : Nat), (hi k n).foldl (fun a c => a * 128 + c.toNat % 128) acc = acc * 128 ^ k + n / 128 % 128 ^ k
  | 0, n, acc => by simp [hi, Nat.mod_one]
  | k + 1, n, acc => by
    have e : n / 128 % 128 ^ (k + 1) = n / 128 % 128 ^ k + 128 ^ k * (n / 128 ^ (k + 1) % 128) := by
      rw [Nat.pow_succ, Nat.mod_mul, Nat.div_div_eq_div_mul, Nat.mul_comm 128 (128 ^ k)]
    have hm : (n / 128 ^ (k + 1) % 128 + 128) % 128 = n / 128 ^ (k + 1) % 128 := by omega
    rw [hi, List.foldl_cons, foldl_hi k n, digit_hi, hm, e, Nat.add_mul, Nat.pow_succ, Nat.mul_comm (128 ^ k) 128, Nat.mul_assoc, Nat.mul_comm (128 ^ k) (_ % 128)]
    omega
theorem val_grp (n : Nat) (h : n < top) : val (grp n) = n := by
  obtain ⟨a, _, _⟩ := cnt_spec n h
  have hq : n / 128 < 128 ^ cnt n := (Nat.div_lt_iff_lt_mul (by omega)).2 (by rw [← Nat.pow_succ]; exact a)
  unfold grp
  rw [val_snoc, digit_lo]
  unfold val
  rw [foldl_hi, Nat.mod_eq_of_lt hq]
  omega
theorem hi_marked : ∀ (k n : Nat), ∀ x ∈ hi k n, 128 ≤ x.toNat
  | 0, _, x, hx => by simp [hi] at hx
  | k + 1, n, x, hx => by
    rw [hi, List.mem_cons] at hx
    rcases hx with rfl | hx
    · rw [digit_hi]; omega
    · exact hi_marked k n x hx

/-- The form of what is read: marked bytes, then one that is not. -/
theorem readV_shape {l : List UInt8} {n k : Nat} (h : readV l = some (n, k)) :
    ∃ c, l[k - 1]? = some c ∧ c.toNat < 128 ∧ (∀ x ∈ l.take (k - 1), 128 ≤ x.toNat) ∧ l.take k = grp n ∧ val (l.take k) = n := by
  obtain ⟨hn, r, rfl, rfl⟩ := (readV_iff l n k).1 h
  have hl := grp_length n
  have hk : (grp n).length - 1 = cnt n := by omega
  have ht : (grp n ++ r).take (grp n).length = grp n := List.take_left' rfl
  refine ⟨b8 (n % 128), ?_, by rw [digit_lo]; omega, ?_, ht, by rw [ht]; exact val_grp n hn⟩
  · rw [hk, List.getElem?_append_left (by omega)]
    unfold grp
    rw [List.getElem?_append_right (by rw [hi_length]; exact Nat.le_refl _), hi_length, Nat.sub_self]
    rfl
  · rw [hk, List.take_append_of_le_length (by omega)]
    unfold grp
    rw [List.take_left' (hi_length _ _)]
    exact hi_marked _ _

/-- A row of marked bytes, then one that is not: what is read, if anything. -/
theorem readV_none_of {l : List UInt8} {k : Nat} {c : UInt8} (hm : ∀ x ∈ l.take k, 128 ≤ x.toNat) (hc : l[k]? = some c) (hlt : c.toNat < 128) (hne : grp (val (l.take (k + 1)) % top) ≠ l.take (k + 1)) : readV l = none := by
  rcases hr : readV l with _ | ⟨n, j⟩
  · rfl
  · exfalso
    obtain ⟨d, h1, h2, h3, h4, h5⟩ := readV_shape hr
    obtain ⟨hn, hj, hjl, _⟩ := (show n < top ∧ 1 ≤ j ∧ j ≤ l.length ∧ True from by
      obtain ⟨hn, r, e, rfl⟩ := (readV_iff l n j).1 hr
      refine ⟨hn, by rw [grp_length]; omega, by rw [e]; simp, trivial⟩)
    have hjk : j - 1 = k := by
      rcases Nat.lt_trichotomy (j - 1) k with g | g | g
      · have : d ∈ l.take k := by
          rw [List.mem_iff_getElem?]
          exact ⟨j - 1, by rw [List.getElem?_take_of_lt g]; exact h1⟩
        have := hm d this; omega
      · exact g
      · have : c ∈ l.take (j - 1) := by
          rw [List.mem_iff_getElem?]
          exact ⟨k, by rw [List.getElem?_take_of_lt g]; exact hc⟩
        have := h3 c this; omega
    have hj1 : k + 1 = j := by omega
    rw [hj1, h5, Nat.mod_eq_of_lt hn] at hne
    exact hne h4.symm
theorem readV_none_marked {l : List UInt8} {k : Nat} (hm : ∀ x ∈ l.take k, 128 ≤ x.toNat) (hk : k = l.length ∨ k = 10) : readV l = none := by
  rcases hr : readV l with _ | ⟨n, j⟩
  · rfl
  · exfalso
    obtain ⟨d, h1, h2, h3, h4, h5⟩ := readV_shape hr
    obtain ⟨hn, r, e, rfl⟩ := (readV_iff l n j).1 hr
    have hc := (cnt_spec n hn).2.2
    rw [grp_length, Nat.add_sub_cancel] at h1
    have hlen : cnt n < l.length := (List.getElem?_eq_some_iff.1 h1).1
    have : d ∈ l.take k := by
      rw [List.mem_iff_getElem?]
      exact ⟨cnt n, by rw [List.getElem?_take_of_lt (by omega)]; exact h1⟩
    have := hm d this; omega
theorem readV_some_of {l : List UInt8} {k n : Nat} (hk : k ≤ l.length) (hn : n < top) (he : grp n = l.take k) : readV l = some (n, k) := by
  refine (readV_iff l n k).2 ⟨hn, l.drop k, ?_, ?_⟩
  · rw [he, List.take_append_drop]
  · rw [he, List.length_take]; omega

def readS (l : List UInt8) : Option (List UInt8 × Nat) := match readV l with
  | some (n, k) => if n ≤ l.length - k then some ((l.drop k).take n, k + n) else none
  | none => none

theorem readV_le {l : List UInt8} {n k : Nat} (h : readV l = some (n, k)) : n < top ∧ 1 ≤ k ∧ k ≤ l.length ∧ k ≤ 10 := by
  obtain ⟨hn, r, rfl, rfl⟩ := (readV_iff l n k).1 h
  have := (cnt_spec n hn).2.2
  refine ⟨hn, ?_, ?_, ?_⟩ <;> simp [grp_length] <;> omega

/-! Numbers of a width. -/
def wid : Nat → Nat → List UInt8
  | 0, _ => []
  | k + 1, n => b8 (n / 256 ^ k % 256) :: wid k n
theorem wid_length : ∀ k n, (wid k n).length = k
  | 0, _ => rfl
  | k + 1, n => by simp [wid, wid_length k n]

def val8 (l : List UInt8) : Nat := l.foldl (fun a c => a * 256 + c.toNat) 0
theorem val8_snoc (l : List UInt8) (c : UInt8) : val8 (l ++ [c]) = val8 l * 256 + c.toNat := by simp [val8]
theorem val8_lt : ∀ (p : List UInt8), val8 p < 256 ^ p.length := by
  intro p
  induction h : p.length generalizing p with
  | zero => have : p = [] := List.eq_nil_of_length_eq_zero h; subst this; simp [val8]
  | succ k ih =>
    obtain ⟨q, d, rfl⟩ : ∃ q d, p = q ++ [d] := by
      refine ⟨p.dropLast, p.getLast (by intro e; subst e; simp at h), ?_⟩
      exact (List.dropLast_concat_getLast _).symm
    have hl : q.length = k := by simpa using h
    have := ih q hl
    have hd := d.toNat_lt
    rw [val8_snoc, Nat.pow_succ]; omega

theorem foldl_wid : ∀ (k n acc : Nat), (wid k n).foldl (fun a c => a * 256 + c.toNat) acc = acc * 256 ^ k + n % 256 ^ k
  | 0, n, acc => by simp [wid, Nat.mod_one]
  | k + 1, n, acc => by
    have e : n % 256 ^ (k + 1) = n % 256 ^ k + 256 ^ k * (n / 256 ^ k % 256) := by rw [Nat.pow_succ, Nat.mod_mul]
    rw [wid, List.foldl_cons, foldl_wid k n, b8_toNat _ (by omega), e, Nat.add_mul, Nat.pow_succ, Nat.mul_comm (256 ^ k) 256, Nat.mul_assoc, Nat.mul_comm (256 ^ k) (_ % 256)]
    omega
theorem val8_wid (k n : Nat) : val8 (wid k n) = n % 256 ^ k := by
  unfold val8; rw [foldl_wid]; omega

end Nm
end Go.Proofs.Ytlnohjboldenpaa
namespace Go.Proofs.Ytlnohjboldenpaa
open Go.RowKit

theorem bnext {w b c : World} (h : Below w.heap.size w b) (k : Below b.heap.size b c) : Below w.heap.size w c := h.trans (k.mono h.size)
theorem bnew {w b : World} (h : Below w.heap.size w b) (o : Obj) : Below w.heap.size w (b.alloc o) := h.alloc h.size o

/-- A slice with these cells; it may be nil where there are none. -/
def Lies (w : World) (A : Option Addr) (vs : List Value) : Prop := vs = [] ∨ ∃ b off, A = some ⟨b, off, none⟩ ∧ b < w.heap.size ∧ ∀ i u, vs[i]? = some u → w.cell? ⟨b, off + i, none⟩ = some u
theorem Lies.below {w w' : World} {A : Option Addr} {vs : List Value} (h : Lies w A vs) (hb : Below w.heap.size w w') : Lies w' A vs := by
  rcases h with h | ⟨b, off, rfl, hlt, hc⟩
  · exact .inl h
  · exact .inr ⟨b, off, rfl, Nat.lt_of_lt_of_le hlt hb.size, fun i u hu => (hb.cell (p := ⟨b, off + i, none⟩) hlt).trans (hc i u hu)⟩

theorem Lies.new (w : World) (vs : List Value) (t : TypeId) : Lies (w.alloc (.cells vs.toArray t)) (some ⟨w.heap.size, 0, none⟩) vs := by
  refine .inr ⟨w.heap.size, 0, rfl, by simp, fun i u hu => ?_⟩
  rw [Nat.zero_add, cell_of_row _ w.heap.size i vs.toArray t (0, 0) (heap_alloc_new w _)]
  simpa using hu

theorem Lies.at_ (w : World) (vs : List Value) (t : TypeId) (g : Nat) (h : g = w.heap.size) : Lies (w.alloc (.cells vs.toArray t)) (some ⟨g, 0, none⟩) vs := by
  subst h; exact Lies.new w vs t

/-- Strings as cells. -/
def sc (ss : List ByteArray) : List Value := ss.map fun s => Value.string s
/-- Numbers as cells. -/
def uc (ns : List Nat) : List Value := ns.map fun (n : Nat) => Value.int .u64 (n : Int)
theorem quietLeft {P : Program} {f : FuncId} {args : Array Value} {w : World} {n : Nat} {v : Value}
    (h : Calls P f args (w.drewN n) fun e w' => e = .returned v ∧ w.drewN n = w') : Calls P f args (w.drewN n) fun e w'' => e = .returned v ∧ ∃ m, w'' = w.drewN m :=
  h.mono fun _ _ ⟨he, hw⟩ => ⟨he, n, hw.symm⟩
theorem below_drewN {B : Nat} {a w : World} (h : Below B a w) (n : Nat) : Below B a (w.drewN n) := ⟨h.os, h.tape, h.output, h.size, h.block⟩

/-- Two results, one of them a struct that lies in a row. -/
theorem results_tc {P : Program} {fn : Func} {u p : Tmp} {ty : TypeId} (h : fn.results = #[.tmp u, .cell p ty]) (tmps : Array Value) (w : World) (g : Nat) (t : TypeId) (cs : Array Value) (fr : Nat × Nat) (d : TypeDesc)
    (hp : tmps.getD p undef = .pointer (some ⟨g, 0, none⟩)) (hg : w.heap[g]? = some (.cells cs t fr))
    (hu : P.underlying ty = some d) (hd : (match d with | .struct _ | .array _ _ => true | _ => false) = true) (hi : (P.info? ty).map (·.size) = some cs.size) :
    (results fn tmps).run P w = .ok (.tuple #[tmps.getD u undef, .agg cs]) w := by
  have hp' : tmps[p]?.getD undef = .pointer (some ⟨g, 0, none⟩) := by simpa using hp
  simp [results, h, hp', asAddr, run_loadVar_row w g t ty cs fr d hg hu hd hi]
theorem results_ct {P : Program} {fn : Func} {u p : Tmp} {ty : TypeId} (h : fn.results = #[.cell p ty, .tmp u]) (tmps : Array Value) (w : World) (g : Nat) (t : TypeId) (cs : Array Value) (fr : Nat × Nat) (d : TypeDesc)
    (hp : tmps.getD p undef = .pointer (some ⟨g, 0, none⟩)) (hg : w.heap[g]? = some (.cells cs t fr))
    (hu : P.underlying ty = some d) (hd : (match d with | .struct _ | .array _ _ => true | _ => false) = true) (hi : (P.info? ty).map (·.size) = some cs.size) :
    (results fn tmps).run P w = .ok (.tuple #[.agg cs, tmps.getD u undef]) w := by
  have hp' : tmps[p]?.getD undef = .pointer (some ⟨g, 0, none⟩) := by simpa using hp
  simp [results, h, hp', asAddr, run_loadVar_row w g t ty cs fr d hg hu hd hi]
theorem below_drew {B : Nat} {a w : World} (h : Below B a w) : Below B a w.drew := ⟨h.os, h.tape, h.output, h.size, h.block⟩
theorem row_drew {W : World} {g : Nat} {o : Obj} (h : W.heap[g]? = some o) : W.drew.heap[g]? = some o := h
theorem later {w wx : World} {a : Addr} {v : Value} (hb : Below w.heap.size w wx) (h : w.cell? a = some v) : wx.cell? a = some v := (hb.cell (World.block_lt_of_cell? _ _ h)).trans h
/-- Of the world that the walk has come to only this is kept. -/
theorem forget {P : Program} {code : Code} {Q : Exit → Act → World → Prop} {a : Act} {w : World} (F : World → Prop) (hF : F w) (h : ∀ W, F W → code.wp P Q a W) : code.wp P Q a w := h w hF
end Go.Proofs.Ytlnohjboldenpaa
namespace Go.Proofs.Ytlnohjboldenpaa
open Go.RowKit
theorem Try.infoByte : (Try.prog.info? 5).map (fun i => (i.zero, i.size, i.bytes)) = some (some (.int .u8 0), 1, 1) := by kernel_rfl
end Go.Proofs.Ytlnohjboldenpaa
namespace Go.Proofs.Ytlnohjboldenpaa
open Go.RowKit

/-- Bytes as cells. -/
def bc (l : List UInt8) : List Value := l.map fun x => Value.int .u8 (x.toNat : Int)
theorem bc_length (l : List UInt8) : (bc l).length = l.length := by simp [bc]
theorem bc_append (l m : List UInt8) : bc (l ++ m) = bc l ++ bc m := by simp [bc]
theorem bc_one (l : List UInt8) : ∀ u ∈ bc l, u.oneCell' = true := by
  intro u hu
  simp only [bc, List.mem_map] at hu
  obtain ⟨x, _, rfl⟩ := hu
  rfl

/-- The value v is a slice of bytes that holds l, and lies from block 'base' on. -/
def OwnB (w : World) (base : Nat) (v : Value) (l : List UInt8) : Prop := w.ownsRow base 5 1 v l.length (bc l)

/-- A contract's end: a slice of bytes of the call's own, which holds l. -/
def RetB (base : Nat) (l : List UInt8) (w : World) (e : Ending) (w' : World) : Prop := ∃ v, e = .returned v ∧ OwnB w' base v l ∧ Below base w w'

/-- A contract's end: a string; what was there is as it was. -/
def RetS (l : List UInt8) (w : World) (e : Ending) (w' : World) : Prop := e = .returned (.string ⟨l.toArray⟩) ∧ Below w.heap.size w w'


theorem OwnB.drew {w : World} {base : Nat} {v : Value} {l : List UInt8} (h : OwnB w base v l) : OwnB w.drew base v l := h
theorem OwnB.nil (w : World) (base : Nat) : OwnB w base (.slice none 0 0) [] := World.ownsRow_nil _ _ _ _

/-- One byte is appended: what is owned then. -/
theorem own_step {w wr w1 : World} {base : Nat} {v v' : Value} {l : List UInt8} {x : UInt8} {z : Int} {o : Obj} (hz : z = (x.toNat : Int)) (ho : OwnB wr base v l) (hb : Below base w wr) (hB : base ≤ wr.heap.size)
    (ho1 : w1.ownsRow base 5 1 v' (l.length + 1) (bc l ++ [.int .u8 z])) (hg : (wr.alloc o).grownBy w1 v.ownBlock) : OwnB w1 base v' (l ++ [x]) ∧ Below base w w1 := by
  subst hz
  refine ⟨?_, (hb.alloc hB o).grown hg (by simp; omega) (fun k hk => (World.ownsRow.lt ho k hk).1)⟩
  unfold OwnB
  rw [bc_append, List.length_append]
  exact ho1

/-- A slice of bytes of the call's own, as a string. -/
theorem run_string_own {w : World} {base : Nat} {v : Value} {l : List UInt8} (h : OwnB w base v l) : (convert 44 9 v).run Try.prog w = .ok (.string ⟨l.toArray⟩) w := by
  rcases h.2 with ⟨rfl, hn⟩ | ⟨g, cap, cur, rfl, _, hg, _, _, _, htake⟩
  · have : l = [] := List.eq_nil_of_length_eq_zero hn
    subst this
    exact run_convert_bytes_nil _ _ _ Try.underlying44 Try.underlying5 _ _ _ Try.underlying9
  · refine run_convert_bytes_back w 44 9 5 ⟨g, 0, none⟩ cap l Try.underlying44 Try.underlying5 Try.underlying9 (fun j hj => ?_)
    exact World.ownsRow.cells h (g := g) rfl j _ (by simp [bc, hj])

end Go.Proofs.Ytlnohjboldenpaa
namespace Go.Proofs.Ytlnohjboldenpaa
open Go.RowKit

/-- The groups of many numbers. -/
def vs (ns : List Nat) : List UInt8 := (ns.map Nm.grp).flatten
theorem vs_take (ns : List Nat) (k : Nat) (hk : k < ns.length) : vs (ns.take (k + 1)) = vs (ns.take k) ++ Nm.grp ns[k] := by
  unfold vs
  rw [List.take_succ_eq_append_getElem hk, List.map_append, List.flatten_append, List.map_singleton, List.flatten_singleton]
theorem grp_len (n : Nat) (h : n < Nm.top) : (Nm.grp n).length ≤ 10 := by
  have := (Nm.cnt_spec n h).2.2
  rw [Nm.grp_length]; omega
theorem vs_len : ∀ (ns : List Nat), (∀ n ∈ ns, n < Nm.top) → (vs ns).length ≤ 10 * ns.length
  | [], _ => by simp [vs]
  | n :: ns, h => by
    have h1 := vs_len ns (fun x hx => h x (by simp [hx]))
    have h2 := grp_len n (h n (by simp))
    unfold vs at *
    simp at *; omega
/-- A string's row; the rows of strings. -/
def row (l : List UInt8) : List UInt8 := Nm.grp l.length ++ l
def sr (ss : List ByteArray) : List UInt8 := (ss.map fun s => row s.data.toList).flatten
theorem sr_take (ss : List ByteArray) (k : Nat) (hk : k < ss.length) : sr (ss.take (k + 1)) = sr (ss.take k) ++ Nm.grp ss[k].size ++ ss[k].data.toList := by
  unfold sr
  rw [List.take_succ_eq_append_getElem hk, List.map_append, List.flatten_append, List.map_singleton, List.flatten_singleton, row, ← List.append_assoc]
  rfl
theorem sr_take_le (ss : List ByteArray) (k : Nat) : (sr (ss.take k)).length ≤ (sr ss).length := by
  have e : sr ss = sr (ss.take k) ++ sr (ss.drop k) := by
    unfold sr
    rw [← List.flatten_append, ← List.map_append, List.take_append_drop]
  rw [e, List.length_append]; omega
theorem byte_of (n : Nat) : ((Nm.b8 (n % 256)).toNat : Int) = (n : Int) % 256 := by
  rw [Nm.b8_toNat _ (by omega)]; omega
theorem div_pow (n k : Nat) : n / 256 ^ k / 256 = n / 256 ^ (k + 1) := by rw [Nat.div_div_eq_div_mul, Nat.pow_succ]
theorem wrap_u64_nat (x : Nat) (h : x < Nm.top) : IntKind.u64.wrap (x : Int) = (x : Int) := by
  unfold Nm.top at h
  have e : IntKind.u64.wrap (x : Int) = (x : Int) % 18446744073709551616 := by simp [IntKind.wrap, IntKind.bits, IntKind.signed]
  rw [e]; omega
theorem take_snoc (s : ByteArray) (k : Nat) (h : k < s.size) : s.data.toList.take (k + 1) = s.data.toList.take k ++ [s[k]] := by
  rw [List.take_succ_eq_append_getElem (by simpa using h)]; rfl
/-- What ReadV answers. -/
def rv (o : Option (Nat × Nat)) : Value := match o with
  | some (n, k) => .tuple #[.int .u64 (n : Int), .int .i64 (k : Int), .bool true]
  | none => .tuple #[.int .u64 0, .int .i64 0, .bool false]

theorem drop_cons (s : ByteArray) (k : Nat) (h : k < s.size) : s.data.toList.drop k = s[k] :: s.data.toList.drop (k + 1) := by
  rw [List.drop_eq_getElem_cons (by simpa using h)]; rfl
theorem ret_uv {a b c d : Int} {t : Bool} (h : a = b) (h2 : c = d) : Ending.returned (.tuple #[.int .u64 a, .int .i64 c, .bool t]) = .returned (.tuple #[.int .u64 b, .int .i64 d, .bool t]) := by rw [h, h2]
/-- What ReadS answers. -/
def rs (o : Option (List UInt8 × Nat)) : Value := match o with
  | some (l, k) => .tuple #[.string ⟨l.toArray⟩, .int .i64 (k : Int), .bool true]
  | none => .tuple #[.string ⟨#[]⟩, .int .i64 0, .bool false]
end Go.Proofs.Ytlnohjboldenpaa
