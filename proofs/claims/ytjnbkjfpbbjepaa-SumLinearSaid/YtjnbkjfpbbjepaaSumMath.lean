/-
  The plain mathematics of layer 2 (sum): the reflected division by 0x82f63b78, bit by bit and byte by byte; that it is linear and loses nothing; texts that differ in at most four bytes side by side. No program is named here.
-/
namespace Go.Proofs.Ytjnbkjfpbbjepaa
namespace Cr

def poly : Nat := 2197175160

/-- One bit. -/
def bit (r : Nat) : Nat := if r % 2 = 1 then (r / 2) ^^^ poly else r / 2
/-- k bits. -/
def bits : Nat → Nat → Nat
  | 0, r => r
  | k + 1, r => bits k (bit r)
/-- One byte: r takes c in. -/
def byte (r : Nat) (c : UInt8) : Nat := bits 8 (r ^^^ c.toNat)
def run (r : Nat) (l : List UInt8) : Nat := l.foldl byte r
def ones : Nat := 4294967295
/-- The sum of a text. -/
def crc (l : List UInt8) : Nat := run ones l ^^^ ones
/-- The table's number of a byte. -/
def tab (c : Nat) : Nat := bits 8 c

theorem xor_mod (a b : Nat) : (a ^^^ b) % 2 = (a % 2 + b % 2) % 2 := by
  have h : (a ^^^ b) % 2 ^ 1 = (a % 2 ^ 1) ^^^ (b % 2 ^ 1) := Nat.xor_mod_two_pow
  rw [Nat.pow_one] at h
  rw [h]
  rcases Nat.mod_two_eq_zero_or_one a with ha | ha <;> rcases Nat.mod_two_eq_zero_or_one b with hb | hb <;> rw [ha, hb] <;> rfl
theorem xor_div (a b : Nat) : (a ^^^ b) / 2 = (a / 2) ^^^ (b / 2) := by
  apply Nat.eq_of_testBit_eq
  intro i
  simp only [Nat.testBit_div_two, Nat.testBit_xor]

theorem bit_xor (a b : Nat) : bit (a ^^^ b) = bit a ^^^ bit b := by
  have hm := xor_mod a b
  unfold bit
  rw [xor_div]
  rcases Nat.mod_two_eq_zero_or_one a with ha | ha <;> rcases Nat.mod_two_eq_zero_or_one b with hb | hb <;> rw [ha, hb] at hm <;> simp only [ha, hb, hm]
  · simp
  · simp [Nat.xor_assoc]
  · simp only [if_true, if_false, Nat.zero_ne_one]
    rw [Nat.xor_assoc, Nat.xor_comm (b / 2) poly, ← Nat.xor_assoc]
  · have e : a / 2 ^^^ poly ^^^ (b / 2 ^^^ poly) = a / 2 ^^^ b / 2 := by
      rw [Nat.xor_comm (b / 2) poly, ← Nat.xor_assoc, Nat.xor_assoc (a / 2) poly poly, Nat.xor_self, Nat.xor_zero]
    simp [e]
theorem bits_xor : ∀ (k a b : Nat), bits k (a ^^^ b) = bits k a ^^^ bits k b
  | 0, _, _ => rfl
  | k + 1, a, b => by rw [bits, bits, bits, bit_xor, bits_xor k]

theorem bit_lt {r : Nat} (h : r < 4294967296) : bit r < 4294967296 := by
  unfold bit
  split
  · exact Nat.xor_lt_two_pow (n := 32) (by omega) (by unfold poly; omega)
  · omega
theorem bits_lt : ∀ (k : Nat) {r : Nat}, r < 4294967296 → bits k r < 4294967296
  | 0, _, h => h
  | k + 1, _, h => bits_lt k (bit_lt h)

theorem bit_zero {x : Nat} (h : x < 4294967296) (hz : bit x = 0) : x = 0 := by
  unfold bit at hz
  split at hz
  · have : x / 2 = poly := by
      have := congrArg (fun y => y ^^^ poly) hz
      simp only [Nat.xor_assoc, Nat.xor_self, Nat.xor_zero, Nat.zero_xor] at this
      exact this
    unfold poly at this; omega
  · omega
theorem bits_zero : ∀ (k : Nat) {x : Nat}, x < 4294967296 → bits k x = 0 → x = 0
  | 0, _, _, h => h
  | k + 1, _, hx, h => bit_zero hx (bits_zero k (bit_lt hx) h)
theorem xor_eq_zero {a b : Nat} (h : a ^^^ b = 0) : a = b := by
  have := congrArg (fun y => y ^^^ b) h
  simpa [Nat.xor_assoc] using this
theorem bits_inj (k : Nat) {a b : Nat} (ha : a < 4294967296) (hb : b < 4294967296) (h : bits k a = bits k b) : a = b := by
  apply xor_eq_zero
  refine bits_zero k (Nat.xor_lt_two_pow (n := 32) ha hb) ?_
  rw [bits_xor, h, Nat.xor_self]

theorem byte_lt {r : Nat} (h : r < 4294967296) (c : UInt8) : byte r c < 4294967296 :=
  bits_lt 8 (Nat.xor_lt_two_pow (n := 32) h (by have := c.toNat_lt; omega))
theorem run_lt : ∀ (l : List UInt8) {r : Nat}, r < 4294967296 → run r l < 4294967296
  | [], _, h => h
  | c :: l, _, h => run_lt l (byte_lt h c)
theorem run_append (r : Nat) (l m : List UInt8) : run r (l ++ m) = run (run r l) m := by simp [run]

theorem byte_inj {a b : Nat} (ha : a < 4294967296) (hb : b < 4294967296) (c : UInt8) (h : byte a c = byte b c) : a = b := by
  have hc := c.toNat_lt
  have h1 := bits_inj 8 (Nat.xor_lt_two_pow (n := 32) ha (by omega)) (Nat.xor_lt_two_pow (n := 32) hb (by omega)) h
  have := congrArg (fun y => y ^^^ c.toNat) h1
  simpa [Nat.xor_assoc] using this
theorem run_inj : ∀ (l : List UInt8) {a b : Nat}, a < 4294967296 → b < 4294967296 → run a l = run b l → a = b
  | [], _, _, _, _, h => h
  | c :: l, _, _, ha, hb, h => byte_inj ha hb c (run_inj l (byte_lt ha c) (byte_lt hb c) h)

/-- Bits that lie above k are only shifted. -/
theorem bit_shift (y k : Nat) : bit (y * 2 ^ (k + 1)) = y * 2 ^ k := by
  have e : y * 2 ^ (k + 1) = 2 * (y * 2 ^ k) := by rw [Nat.pow_succ, ← Nat.mul_assoc, Nat.mul_comm]
  unfold bit
  rw [e, if_neg (by omega)]; omega
theorem bits_shift : ∀ (k m y : Nat), bits k (y * 2 ^ (k + m)) = y * 2 ^ m
  | 0, m, y => by simp [bits]
  | k + 1, m, y => by rw [bits, show k + 1 + m = (k + m) + 1 by omega, bit_shift, bits_shift k m y]
theorem bits_add : ∀ (j k r : Nat), bits (j + k) r = bits k (bits j r)
  | 0, k, r => by simp [bits]
  | j + 1, k, r => by rw [show j + 1 + k = (j + k) + 1 by omega, bits, bits, bits_add j k]

/-- The bytes as one number, the first lowest. -/
def word : List UInt8 → Nat
  | [] => 0
  | c :: l => c.toNat ^^^ (word l * 256)
theorem word_lt : ∀ (l : List UInt8), word l < 256 ^ l.length
  | [] => by simp [word]
  | c :: l => by
    have h1 := word_lt l
    have hc := c.toNat_lt
    have e : (256 : Nat) ^ (l.length + 1) = 2 ^ (8 * (l.length + 1)) := by rw [show (256 : Nat) = 2 ^ 8 from rfl, ← Nat.pow_mul]
    rw [word, List.length_cons, e]
    have h2 : 2 ^ 8 ≤ 2 ^ (8 * (l.length + 1)) := Nat.pow_le_pow_right (by omega) (by omega)
    refine Nat.xor_lt_two_pow (by omega) ?_
    rw [← e, Nat.pow_succ]; omega
theorem word_inj : ∀ (l m : List UInt8), l.length = m.length → word l = word m → l = m
  | [], [], _, _ => rfl
  | [], _ :: _, h, _ => by simp at h
  | _ :: _, [], h, _ => by simp at h
  | c :: l, d :: m, h, hw => by
    have hc := c.toNat_lt
    have hd := d.toNat_lt
    simp only [word] at hw
    have hmod : ∀ (x y : Nat), x < 256 → (x ^^^ (y * 256)) % 256 = x := by
      intro x y hx
      have : (x ^^^ (y * 256)) % 2 ^ 8 = (x % 2 ^ 8) ^^^ ((y * 256) % 2 ^ 8) := Nat.xor_mod_two_pow
      rw [show (2 : Nat) ^ 8 = 256 from rfl] at this
      rw [this, Nat.mul_mod_left, Nat.xor_zero]; omega
    have hdiv : ∀ (x y : Nat), x < 256 → (x ^^^ (y * 256)) / 256 = y := by
      intro x y hx
      have : (x ^^^ (y * 256)) / 2 ^ 8 = (x / 2 ^ 8) ^^^ ((y * 256) / 2 ^ 8) := Nat.xor_div_two_pow
      rw [show (2 : Nat) ^ 8 = 256 from rfl] at this
      rw [this, Nat.mul_div_cancel _ (by omega), Nat.div_eq_of_lt hx, Nat.zero_xor]
    have h1 : c.toNat = d.toNat := by
      have := congrArg (· % 256) hw
      simp only [hmod _ _ hc, hmod _ _ hd] at this; exact this
    have h2 : word l = word m := by
      have := congrArg (· / 256) hw
      simp only [hdiv _ _ hc, hdiv _ _ hd] at this; exact this
    rw [UInt8.toNat_inj.1 h1, word_inj l m (by simpa using h) h2]

/-- Bytes taken in are bits of r xored with their number. -/
theorem run_word : ∀ (l : List UInt8) (r : Nat), run r l = bits (8 * l.length) (r ^^^ word l)
  | [], r => by simp [run, word, bits]
  | c :: l, r => by
    have e : run r (c :: l) = run (byte r c) l := rfl
    have hs := bits_shift 8 0 (word l)
    simp only [Nat.add_zero, Nat.pow_zero, Nat.mul_one] at hs
    rw [e, run_word l, byte, List.length_cons, show 8 * (l.length + 1) = 8 + 8 * l.length by omega, bits_add, word, ← Nat.xor_assoc, bits_xor 8 (r ^^^ c.toNat), show (256 : Nat) = 2 ^ 8 from rfl, hs]

/-- At most four bytes, as many in both: the same sum only if they are the same. -/
theorem run_four {l m : List UInt8} {r : Nat} (hr : r < 4294967296) (hl : l.length = m.length) (h4 : l.length ≤ 4) (h : run r l = run r m) : l = m := by
  rw [run_word, run_word, hl] at h
  have hw : ∀ x : List UInt8, x.length ≤ 4 → word x < 4294967296 := fun x hx => by
    have := word_lt x
    have h2 : (256 : Nat) ^ x.length ≤ 256 ^ 4 := Nat.pow_le_pow_right (by omega) hx
    omega
  have h1 := bits_inj _ (Nat.xor_lt_two_pow (n := 32) hr (hw l h4)) (Nat.xor_lt_two_pow (n := 32) hr (hw m (by omega))) h
  refine word_inj l m hl ?_
  have := congrArg (fun y => r ^^^ y) h1
  simpa [← Nat.xor_assoc] using this
theorem crc_burst (p l m q : List UInt8) (hl : l.length = m.length) (h4 : l.length ≤ 4) : crc (p ++ l ++ q) = crc (p ++ m ++ q) ↔ l = m := by
  constructor
  · intro h
    unfold crc at h
    have h := congrArg (fun y => y ^^^ ones) h
    simp only [Nat.xor_assoc, Nat.xor_self, Nat.xor_zero] at h
    rw [run_append, run_append, run_append, run_append] at h
    have hp : run ones p < 4294967296 := run_lt p (by unfold ones; omega)
    exact run_four hp hl h4 (run_inj q (run_lt _ hp) (run_lt _ hp) h)
  · rintro rfl; rfl

/-- The step by a table. -/
theorem byte_tab (r : Nat) (c : UInt8) : byte r c = tab ((r ^^^ c.toNat) % 256) ^^^ (r / 256) := by
  have hc := c.toNat_lt
  have hdiv : (r ^^^ c.toNat) / 256 = r / 256 := by
    have : (r ^^^ c.toNat) / 2 ^ 8 = (r / 2 ^ 8) ^^^ (c.toNat / 2 ^ 8) := Nat.xor_div_two_pow
    rw [show (2 : Nat) ^ 8 = 256 from rfl] at this
    rw [this, Nat.div_eq_of_lt hc, Nat.xor_zero]
  have hj : r ^^^ c.toNat = ((r ^^^ c.toNat) % 256) ^^^ ((r / 256) * 256) := by
    apply Nat.eq_of_testBit_eq
    intro i
    have h1 : ((r ^^^ c.toNat) % 2 ^ 8).testBit i = (decide (i < 8) && (r ^^^ c.toNat).testBit i) := Nat.testBit_mod_two_pow _ _ _
    have h2 : ((r / 256) * 2 ^ 8).testBit i = (decide (8 ≤ i) && (r / 256).testBit (i - 8)) := by
      rw [← Nat.shiftLeft_eq, Nat.testBit_shiftLeft]
    rw [show (2 : Nat) ^ 8 = 256 from rfl] at h1 h2
    rw [Nat.testBit_xor (x := (r ^^^ c.toNat) % 256), h1, h2, ← hdiv]
    have h3 : ((r ^^^ c.toNat) / 2 ^ 8).testBit (i - 8) = (r ^^^ c.toNat).testBit (i - 8 + 8) := by rw [Nat.testBit_div_two_pow]
    rw [show (2 : Nat) ^ 8 = 256 from rfl] at h3
    rw [h3]
    by_cases h : i < 8
    · have : ¬ 8 ≤ i := by omega
      simp [h, this]
    · have h8 : 8 ≤ i := by omega
      rw [show i - 8 + 8 = i by omega]
      simp [h, h8]
  have hs := bits_shift 8 0 (r / 256)
  simp only [Nat.add_zero, Nat.pow_zero, Nat.mul_one] at hs
  rw [show (2 : Nat) ^ 8 = 256 from rfl] at hs
  unfold byte tab
  generalize (r ^^^ c.toNat) % 256 = x at hj ⊢
  rw [hj, bits_xor, hs]

theorem tab_xor (a b : Nat) : tab (a ^^^ b) = tab a ^^^ tab b := bits_xor 8 a b
theorem tab_inj {a b : Nat} (ha : a < 256) (hb : b < 256) : tab a = tab b ↔ a = b :=
  ⟨fun h => bits_inj 8 (by omega) (by omega) h, fun h => by rw [h]⟩
theorem tab_lt (c : Nat) (h : c < 256) : tab c < 4294967296 := bits_lt 8 (by omega)
theorem crc_lt (l : List UInt8) : crc l < 4294967296 := Nat.xor_lt_two_pow (n := 32) (run_lt l (by unfold ones; omega)) (by unfold ones; omega)

end Cr
end Go.Proofs.Ytjnbkjfpbbjepaa
