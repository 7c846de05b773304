/-
  The order of groups and of numbers of a width; numbers that differ, and what they are read as. No program is named here.
-/
import Derived.Test.YtnfghgkdedmphaaNumMath
import GoSem.Op.String
namespace Go.Proofs.Ytnfghgkdedmphaa
namespace Nm

theorem less_cons (a b : UInt8) (l m : List UInt8) : Op.bytesLess (a :: l) (b :: m) = (decide (a.toNat < b.toNat) || (decide (a.toNat = b.toNat) && Op.bytesLess l m)) := by
  rw [Op.bytesLess]
  congr 1
  congr 1
  rw [Bool.eq_iff_iff, beq_iff_eq, decide_eq_true_iff]
  exact UInt8.toNat_inj.symm

theorem digits_less (P p q x y : Nat) (hx : x < P) (hy : y < P) : (x + P * p < y + P * q) ↔ (p < q ∨ (p = q ∧ x < y)) := by
  rcases Nat.lt_trichotomy p q with h | h | h
  · have : P * (p + 1) ≤ P * q := Nat.mul_le_mul_left _ h
    rw [Nat.mul_add] at this
    constructor <;> intro _ <;> omega
  · subst h; constructor <;> intro _ <;> omega
  · have : P * (q + 1) ≤ P * p := Nat.mul_le_mul_left _ h
    rw [Nat.mul_add] at this
    constructor <;> intro _ <;> omega

theorem wid_less : ∀ (k a b : Nat), Op.bytesLess (wid k a) (wid k b) = decide (a % 256 ^ k < b % 256 ^ k)
  | 0, a, b => by simp [wid, Op.bytesLess, Nat.mod_one]
  | k + 1, a, b => by
    have hp : 0 < 256 ^ k := Nat.pow_pos (by omega)
    have e : ∀ n, n % 256 ^ (k + 1) = n % 256 ^ k + 256 ^ k * (n / 256 ^ k % 256) := fun n => by rw [Nat.pow_succ, Nat.mod_mul]
    rw [wid, wid, less_cons, wid_less k a b, b8_toNat _ (by omega), b8_toNat _ (by omega), e a, e b, Bool.eq_iff_iff]
    simp only [Bool.or_eq_true, Bool.and_eq_true, decide_eq_true_iff]
    rw [digits_less _ _ _ _ _ (Nat.mod_lt _ hp) (Nat.mod_lt _ hp)]

theorem hi_less : ∀ (k a b : Nat), Op.bytesLess (hi k a ++ [b8 (a % 128)]) (hi k b ++ [b8 (b % 128)]) = decide (a % 128 ^ (k + 1) < b % 128 ^ (k + 1))
  | 0, a, b => by
    rw [hi, hi, List.nil_append, List.nil_append, less_cons, digit_lo, digit_lo]
    simp [Op.bytesLess]
  | k + 1, a, b => by
    have hp : 0 < 128 ^ (k + 1) := Nat.pow_pos (by omega)
    have e : ∀ n, n % 128 ^ (k + 2) = n % 128 ^ (k + 1) + 128 ^ (k + 1) * (n / 128 ^ (k + 1) % 128) := fun n => by rw [show k + 2 = (k + 1) + 1 from rfl, Nat.pow_succ, Nat.mod_mul]
    rw [hi, hi, List.cons_append, List.cons_append, less_cons, hi_less k a b, digit_hi, digit_hi, e a, e b, Bool.eq_iff_iff]
    simp only [Bool.or_eq_true, Bool.and_eq_true, decide_eq_true_iff]
    rw [digits_less _ _ _ _ _ (Nat.mod_lt _ hp) (Nat.mod_lt _ hp)]
    omega

theorem grp_less (a b : Nat) (ha : a < top) (hb : b < top) (h : (grp a).length = (grp b).length) : Op.bytesLess (grp a) (grp b) = decide (a < b) := by
  rw [grp_length, grp_length] at h
  have e : cnt a = cnt b := by omega
  have h1 := (cnt_spec a ha).1
  have h2 := (cnt_spec b hb).1
  unfold grp
  rw [e, hi_less, Nat.mod_eq_of_lt (by rw [← e]; exact h1), Nat.mod_eq_of_lt h2]

theorem grp_inj {a b : Nat} (ha : a < top) (hb : b < top) (h : grp a = grp b) : a = b := by
  have h1 := readV_grp a ha []
  have h2 := readV_grp b hb []
  rw [h, h2] at h1
  injection h1 with h1; injection h1 with h1 _; exact h1.symm

theorem grp_apart {a b : Nat} (ha : a < top) (hb : b < top) (r : List UInt8) (h : grp b = grp a ++ r) : a = b := by
  have h1 := readV_grp a ha r
  have h2 := readV_grp b hb []
  rw [List.append_nil, h, h1] at h2
  injection h2 with h2; injection h2 with h2 _

theorem grp_len_lt {a b : Nat} (ha : a < top) (hb : b < top) (h : (grp a).length < (grp b).length) : a < b := by
  rw [grp_length, grp_length] at h
  have h1 := (cnt_spec a ha).1
  rcases (cnt_spec b hb).2.1 with h2 | h2
  · omega
  · have := pow_le (show cnt a + 1 ≤ cnt b by omega); omega
end Nm
end Go.Proofs.Ytnfghgkdedmphaa
