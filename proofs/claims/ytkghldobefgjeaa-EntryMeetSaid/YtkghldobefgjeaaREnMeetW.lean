/-
  EntryMeet walked. WRITTEN BY wip/tools/gen_enmeet.py.
-/
import Derived.Test.YtkghldobefgjeaaREnAwake
import Derived.Test.YtkghldobefgjeaaROpen
import Derived.Laws.BitsAllLaws
set_option linter.unusedSimpArgs false
set_option linter.unusedVariables false
namespace Go.Proofs.Ytkghldobefgjeaa
open Go.RowKit
namespace En
/-- One bit of a number. -/
def bit (m k : Nat) : Nat := m / 2 ^ k % 2
theorem bit_le (m k : Nat) : bit m k ≤ 1 := by unfold bit; omega
theorem mmk_succ (m k : Nat) : (mmk m (k + 1)).length = (mmk m k).length + bit m k := by
  by_cases h : m / 2 ^ k % 2 = 1
  · rw [mmk_yes m k h]; unfold bit; rw [h]; simp
  · rw [mmk_no m k h]; unfold bit; omega
theorem len_bits (m : Nat) : (mem5 m).length = bit m 0 + bit m 1 + bit m 2 + bit m 3 + bit m 4 := by
  unfold mem5
  rw [mmk_succ, mmk_succ, mmk_succ, mmk_succ, mmk_succ]
  simp [mmk]
theorem bit_test (m k : Nat) : bit m k = (m.testBit k).toNat := by
  unfold bit
  rw [Nat.testBit_eq_decide_div_mod_eq]
  have := bit_le m k
  unfold bit at this
  by_cases h : m / 2 ^ k % 2 = 1
  · simp [h]
  · simp [h]; omega
theorem bit_and (a b k : Nat) : bit (a &&& b) k = if bit a k = 1 ∧ bit b k = 1 then 1 else 0 := by
  rw [bit_test, bit_test, bit_test, Nat.testBit_and]
  cases a.testBit k <;> cases b.testBit k <;> rfl
theorem bit_flip (m d k : Nat) : bit (m ^^^ 2 ^ d) k = if k = d then 1 - bit m k else bit m k := by
  rw [bit_test, bit_test, Nat.testBit_xor, Nat.testBit_two_pow]
  by_cases h : k = d
  · subst h; cases m.testBit k <;> simp
  · have : ¬ d = k := fun e => h e.symm
    cases m.testBit k <;> simp [h, this]
/-- Two majorities of members that differ in one node meet. -/
theorem meets (m d a b : Nat) (hd : d < 5) (h1 : (mem5 m).length / 2 + 1 ≤ (mem5 (a &&& m)).length) (h2 : (mem5 (m ^^^ 2 ^ d)).length / 2 + 1 ≤ (mem5 (b &&& (m ^^^ 2 ^ d))).length) : (mem5 (a &&& m &&& b &&& (m ^^^ 2 ^ d))).length ≠ 0 := by
  intro h0
  simp only [len_bits, bit_and, bit_flip] at h0 h1 h2
  have am : ∀ k, bit m k ≤ 1 := bit_le m
  have aa : ∀ k, bit a k ≤ 1 := bit_le a
  have ab : ∀ k, bit b k ≤ 1 := bit_le b
  have q0 := am 0; have q1 := am 1; have q2 := am 2; have q3 := am 3; have q4 := am 4
  have r0 := aa 0; have r1 := aa 1; have r2 := aa 2; have r3 := aa 3; have r4 := aa 4
  have s0 := ab 0; have s1 := ab 1; have s2 := ab 2; have s3 := ab 3; have s4 := ab 4
  generalize bit m 0 = m0 at *; generalize bit m 1 = m1 at *; generalize bit m 2 = m2 at *; generalize bit m 3 = m3 at *; generalize bit m 4 = m4 at *
  generalize bit a 0 = a0 at *; generalize bit a 1 = a1 at *; generalize bit a 2 = a2 at *; generalize bit a 3 = a3 at *; generalize bit a 4 = a4 at *
  generalize bit b 0 = b0 at *; generalize bit b 1 = b1 at *; generalize bit b 2 = b2 at *; generalize bit b 3 = b3 at *; generalize bit b 4 = b4 at *
  clear am aa ab
  have key : ∀ m a b : Nat, m ≤ 1 → a ≤ 1 → b ≤ 1 → ∃ x y, (if a = 1 ∧ m = 1 then 1 else 0) = x ∧ (if b = 1 ∧ m = 1 then 1 else 0) = y ∧ x ≤ m ∧ y ≤ m ∧ ((if (if (if a = 1 ∧ m = 1 then 1 else 0) = 1 ∧ b = 1 then 1 else 0) = 1 ∧ m = 1 then 1 else 0) = 0 → x + y ≤ m) := by
    intro m a b hm ha hb
    refine ⟨_, _, rfl, rfl, ?_, ?_, ?_⟩
    · split <;> omega
    · split <;> omega
    · have : m = 0 ∨ m = 1 := by omega
      have : a = 0 ∨ a = 1 := by omega
      have : b = 0 ∨ b = 1 := by omega
      rcases ‹m = 0 ∨ m = 1› with rfl | rfl <;> rcases ‹a = 0 ∨ a = 1› with rfl | rfl <;> rcases ‹b = 0 ∨ b = 1› with rfl | rfl <;> simp
  have key2 : ∀ m a b : Nat, m ≤ 1 → a ≤ 1 → b ≤ 1 → ∃ x y, (if a = 1 ∧ m = 1 then 1 else 0) = x ∧ (if b = 1 ∧ 1 - m = 1 then 1 else 0) = y ∧ x ≤ m ∧ y ≤ 1 - m := by
    intro m a b hm ha hb
    refine ⟨_, _, rfl, rfl, ?_, ?_⟩
    · split <;> omega
    · split <;> omega
  have hd5 : d = 0 ∨ d = 1 ∨ d = 2 ∨ d = 3 ∨ d = 4 := by omega
  rcases hd5 with rfl | rfl | rfl | rfl | rfl
  · simp only [if_true, if_false, show ((1 : Nat) = 0) = False from by simp, show ((2 : Nat) = 0) = False from by simp, show ((3 : Nat) = 0) = False from by simp, show ((4 : Nat) = 0) = False from by simp] at h0 h1 h2
    obtain ⟨x0, y0, e0, f0, u0, v0⟩ := key2 m0 a0 b0 q0 r0 s0
    obtain ⟨x1, y1, e1, f1, u1, v1, g1⟩ := key m1 a1 b1 q1 r1 s1
    obtain ⟨x2, y2, e2, f2, u2, v2, g2⟩ := key m2 a2 b2 q2 r2 s2
    obtain ⟨x3, y3, e3, f3, u3, v3, g3⟩ := key m3 a3 b3 q3 r3 s3
    obtain ⟨x4, y4, e4, f4, u4, v4, g4⟩ := key m4 a4 b4 q4 r4 s4
    rw [e0, e1, e2, e3, e4] at h1
    rw [f0, f1, f2, f3, f4] at h2
    have w1 := g1 (by omega)
    have w2 := g2 (by omega)
    have w3 := g3 (by omega)
    have w4 := g4 (by omega)
    omega
  · simp only [if_true, if_false, show ((0 : Nat) = 1) = False from by simp, show ((2 : Nat) = 1) = False from by simp, show ((3 : Nat) = 1) = False from by simp, show ((4 : Nat) = 1) = False from by simp] at h0 h1 h2
    obtain ⟨x0, y0, e0, f0, u0, v0, g0⟩ := key m0 a0 b0 q0 r0 s0
    obtain ⟨x1, y1, e1, f1, u1, v1⟩ := key2 m1 a1 b1 q1 r1 s1
    obtain ⟨x2, y2, e2, f2, u2, v2, g2⟩ := key m2 a2 b2 q2 r2 s2
    obtain ⟨x3, y3, e3, f3, u3, v3, g3⟩ := key m3 a3 b3 q3 r3 s3
    obtain ⟨x4, y4, e4, f4, u4, v4, g4⟩ := key m4 a4 b4 q4 r4 s4
    rw [e0, e1, e2, e3, e4] at h1
    rw [f0, f1, f2, f3, f4] at h2
    have w0 := g0 (by omega)
    have w2 := g2 (by omega)
    have w3 := g3 (by omega)
    have w4 := g4 (by omega)
    omega
  · simp only [if_true, if_false, show ((0 : Nat) = 2) = False from by simp, show ((1 : Nat) = 2) = False from by simp, show ((3 : Nat) = 2) = False from by simp, show ((4 : Nat) = 2) = False from by simp] at h0 h1 h2
    obtain ⟨x0, y0, e0, f0, u0, v0, g0⟩ := key m0 a0 b0 q0 r0 s0
    obtain ⟨x1, y1, e1, f1, u1, v1, g1⟩ := key m1 a1 b1 q1 r1 s1
    obtain ⟨x2, y2, e2, f2, u2, v2⟩ := key2 m2 a2 b2 q2 r2 s2
    obtain ⟨x3, y3, e3, f3, u3, v3, g3⟩ := key m3 a3 b3 q3 r3 s3
    obtain ⟨x4, y4, e4, f4, u4, v4, g4⟩ := key m4 a4 b4 q4 r4 s4
    rw [e0, e1, e2, e3, e4] at h1
    rw [f0, f1, f2, f3, f4] at h2
    have w0 := g0 (by omega)
    have w1 := g1 (by omega)
    have w3 := g3 (by omega)
    have w4 := g4 (by omega)
    omega
  · simp only [if_true, if_false, show ((0 : Nat) = 3) = False from by simp, show ((1 : Nat) = 3) = False from by simp, show ((2 : Nat) = 3) = False from by simp, show ((4 : Nat) = 3) = False from by simp] at h0 h1 h2
    obtain ⟨x0, y0, e0, f0, u0, v0, g0⟩ := key m0 a0 b0 q0 r0 s0
    obtain ⟨x1, y1, e1, f1, u1, v1, g1⟩ := key m1 a1 b1 q1 r1 s1
    obtain ⟨x2, y2, e2, f2, u2, v2, g2⟩ := key m2 a2 b2 q2 r2 s2
    obtain ⟨x3, y3, e3, f3, u3, v3⟩ := key2 m3 a3 b3 q3 r3 s3
    obtain ⟨x4, y4, e4, f4, u4, v4, g4⟩ := key m4 a4 b4 q4 r4 s4
    rw [e0, e1, e2, e3, e4] at h1
    rw [f0, f1, f2, f3, f4] at h2
    have w0 := g0 (by omega)
    have w1 := g1 (by omega)
    have w2 := g2 (by omega)
    have w4 := g4 (by omega)
    omega
  · simp only [if_true, if_false, show ((0 : Nat) = 4) = False from by simp, show ((1 : Nat) = 4) = False from by simp, show ((2 : Nat) = 4) = False from by simp, show ((3 : Nat) = 4) = False from by simp] at h0 h1 h2
    obtain ⟨x0, y0, e0, f0, u0, v0, g0⟩ := key m0 a0 b0 q0 r0 s0
    obtain ⟨x1, y1, e1, f1, u1, v1, g1⟩ := key m1 a1 b1 q1 r1 s1
    obtain ⟨x2, y2, e2, f2, u2, v2, g2⟩ := key m2 a2 b2 q2 r2 s2
    obtain ⟨x3, y3, e3, f3, u3, v3, g3⟩ := key m3 a3 b3 q3 r3 s3
    obtain ⟨x4, y4, e4, f4, u4, v4⟩ := key2 m4 a4 b4 q4 r4 s4
    rw [e0, e1, e2, e3, e4] at h1
    rw [f0, f1, f2, f3, f4] at h2
    have w0 := g0 (by omega)
    have w1 := g1 (by omega)
    have w2 := g2 (by omega)
    have w3 := g3 (by omega)
    omega
theorem meets_same (m a b : Nat) (h1 : (mem5 m).length / 2 + 1 ≤ (mem5 (a &&& m)).length) (h2 : (mem5 m).length / 2 + 1 ≤ (mem5 (b &&& m)).length) : (mem5 (a &&& m &&& b)).length ≠ 0 := by
  intro h0
  simp only [len_bits, bit_and] at h0 h1 h2
  have key : ∀ k, ∃ x y, (if bit a k = 1 ∧ bit m k = 1 then 1 else 0) = x ∧ (if bit b k = 1 ∧ bit m k = 1 then 1 else 0) = y ∧ ((if (if bit a k = 1 ∧ bit m k = 1 then 1 else 0) = 1 ∧ bit b k = 1 then 1 else 0) = 0 → x + y ≤ bit m k) := by
    intro k
    have hm := bit_le m k; have ha := bit_le a k; have hb := bit_le b k
    generalize bit m k = m at *; generalize bit a k = a at *; generalize bit b k = b at *
    refine ⟨_, _, rfl, rfl, ?_⟩
    have : m = 0 ∨ m = 1 := by omega
    have : a = 0 ∨ a = 1 := by omega
    have : b = 0 ∨ b = 1 := by omega
    rcases ‹m = 0 ∨ m = 1› with rfl | rfl <;> rcases ‹a = 0 ∨ a = 1› with rfl | rfl <;> rcases ‹b = 0 ∨ b = 1› with rfl | rfl <;> simp
  obtain ⟨x0, y0, e0, f0, g0⟩ := key 0
  obtain ⟨x1, y1, e1, f1, g1⟩ := key 1
  obtain ⟨x2, y2, e2, f2, g2⟩ := key 2
  obtain ⟨x3, y3, e3, f3, g3⟩ := key 3
  obtain ⟨x4, y4, e4, f4, g4⟩ := key 4
  rw [e0, e1, e2, e3, e4] at h1
  rw [f0, f1, f2, f3, f4] at h2
  have w0 := g0 (by omega)
  have w1 := g1 (by omega)
  have w2 := g2 (by omega)
  have w3 := g3 (by omega)
  have w4 := g4 (by omega)
  omega
end En
set_option maxRecDepth 100000 in
theorem meetCount_any (s o : Nat) (hs : s < 256) (ho : o < 256) (w : World) : Calls Try.prog 47 #[.int .u8 (s : Int), .int .u8 (o : Int)] w fun e w' => e = .returned (.int .i64 ((En.mem5 (s &&& o)).length : Int)) ∧ Below w.heap.size w w' := by
  have hb := u8_and_nat s o hs ho
  have hlt : s &&& o < 256 := Nat.lt_of_le_of_lt Nat.and_le_left hs
  have hM := members_any (s &&& o) hlt w
  obtain ⟨x, hx⟩ : ∃ x, x = s &&& o := ⟨_, rfl⟩
  rw [← hx] at hb hM ⊢
  unfold RetM at hM
  have HM := Lib.hid hM
  clear hM hx hlt
  go_enter Try.func47, Try.ntmps47
  go_wp2_with fail
  refine HM.out.mono ?_
  rintro r w1 ⟨A, cap, rfl, _, hb1⟩
  have HB := Lib.hid hb1
  clear hb1
  go_wp2_with fail
  go_ret
  exact ⟨rfl, HB.out⟩
set_option maxRecDepth 100000 in
set_option maxHeartbeats 4000000 in
theorem entryMeet_walk (i0 : Int) (wf0 : (Lit.int .u8 i0).wf = true) (i1 : Int) (wf1 : (Lit.int .u8 i1).wf = true) (i2 : Int) (wf2 : (Lit.int .u8 i2).wf = true) (i3 : Int) (wf3 : (Lit.int .u8 i3).wf = true) (w : World) :
    Calls Try.prog 15 #[.int .u8 i0, .int .u8 i1, .int .u8 i2, .int .u8 i3] w fun r w' => r = .returned (.bool true) ∧ Below w.heap.size w w' := by
  obtain ⟨m, rfl, hm⟩ := u8_nat wf0
  obtain ⟨d, rfl, hd⟩ := u8_nat wf1
  obtain ⟨a, rfl, ha⟩ := u8_nat wf2
  obtain ⟨b, rfl, hb⟩ := u8_nat wf3
  clear wf0 wf1 wf2 wf3
  have HA := Lib.hid entAwake_any
  have hd5 : d % 5 < 5 := by omega
  have p5 : 2 ^ (d % 5) < 256 := by
    have := Nat.pow_le_pow_right (n := 2) (by omega) (show d % 5 ≤ 4 by omega)
    omega
  have pI : ((2 : Int) ^ (d % 5)) % 256 = ((2 ^ (d % 5) : Nat) : Int) := by
    have : ((2 : Int) ^ (d % 5)) = ((2 ^ (d % 5) : Nat) : Int) := by simp
    rw [this]
    clear this
    generalize 2 ^ (d % 5) = p at p5 ⊢
    omega
  have b1 : bits .xor .u8 (m : Int) ((2 : Int) ^ (d % 5) % 256) = ((m ^^^ 2 ^ (d % 5) : Nat) : Int) := by rw [pI]; exact u8_xor_nat _ _ hm p5
  have hN : m ^^^ 2 ^ (d % 5) < 256 := Nat.xor_lt_two_pow (n := 8) hm p5
  have mt : ∀ a b : Nat, (En.mem5 m).length / 2 + 1 ≤ (En.mem5 (a &&& m)).length → (En.mem5 (m ^^^ 2 ^ (d % 5))).length / 2 + 1 ≤ (En.mem5 (b &&& (m ^^^ 2 ^ (d % 5)))).length → (En.mem5 (a &&& m &&& b &&& (m ^^^ 2 ^ (d % 5)))).length ≠ 0 := fun a b h1 h2 => En.meets m (d % 5) a b hd5 h1 h2
  obtain ⟨N, hNN⟩ : ∃ N, N = m ^^^ 2 ^ (d % 5) := ⟨_, rfl⟩
  rw [← hNN] at b1 hN mt
  clear hNN pI p5 hd5
  have hAM : a &&& m < 256 := Nat.lt_of_le_of_lt Nat.and_le_left ha
  have hAB : a &&& m &&& b < 256 := Nat.lt_of_le_of_lt Nat.and_le_left hAM
  have hABN : a &&& m &&& b &&& N < 256 := Nat.lt_of_le_of_lt Nat.and_le_left hAB
  have m1 := mt a b
  have m2 := En.meets_same m a b
  have b2 := u8_and_nat a m ha hm
  have b3 := u8_and_nat (a &&& m) b hAM hb
  have b4 := u8_and_nat (a &&& m &&& b) N hAB hN
  have M1 := fun W => members_any m hm W
  have M2 := fun W => members_any N hN W
  have M3 := fun W => members_any (a &&& m &&& b &&& N) hABN W
  have M4 := fun W => members_any (a &&& m &&& b) hAB W
  have J1 := fun W => majority_any m hm W
  have J2 := fun W => majority_any N hN W
  have C1 := fun W => meetCount_any a m ha hm W
  have C2 := fun W => meetCount_any b N hb hN W
  have C3 := fun W => meetCount_any b m hb hm W
  unfold En.maj at J1 J2
  unfold RetM at M1 M2 M3 M4
  generalize a &&& m &&& b &&& N = ABN at *
  generalize a &&& m &&& b = AB at *
  generalize (En.mem5 (a &&& m)).length = cAM at *
  generalize (En.mem5 (b &&& N)).length = cBN at *
  generalize (En.mem5 (b &&& m)).length = cBM at *
  generalize a &&& m = AM at *
  have l1 : (En.mem5 m).length ≤ 5 := En.mmk_len m 5
  have l2 : (En.mem5 N).length ≤ 5 := En.mmk_len N 5
  generalize (En.mem5 m).length = lm at *
  generalize (En.mem5 N).length = lN at *
  generalize (En.mem5 ABN).length = cABN at *
  generalize (En.mem5 AB).length = cAB at *
  have jm : ∃ x : Nat, x = lm / 2 + 1 := ⟨_, rfl⟩
  obtain ⟨jm, hjm⟩ := jm
  obtain ⟨jN, hjN⟩ : ∃ x : Nat, x = lN / 2 + 1 := ⟨_, rfl⟩
  rw [← hjm] at J1 m1 m2
  rw [← hjN] at J2 m1
  have M1 := Lib.hid M1
  have M2 := Lib.hid M2
  have M3 := Lib.hid M3
  have M4 := Lib.hid M4
  have J1 := Lib.hid J1
  have J2 := Lib.hid J2
  have C1 := Lib.hid C1
  have C2 := Lib.hid C2
  have C3 := Lib.hid C3
  clear mt hm hd ha hb hN hAM hAB hABN hjm hjN l1 l2
  by_cases z1 : lm = 0
  · have g1 : ((lm : Int) == 0) = true := by simp; omega
    clear m1 m2 z1
    go_enter Try.func15, Try.ntmps15
    go_wp2_with fail
    refine (M1.out _).mono ?_
    rintro r w1 ⟨A1, cap1, rfl, _, hb1⟩
    have HB1 := Lib.hid (hb1)
    clear hb1
    go_wp2_with fail
    refine (HA.out _).mono ?_
    rintro r w2 ⟨rfl, hb2⟩
    have HB2 := Lib.hid (bnext HB1.out hb2)
    clear hb2 HB1
    go_wp2_with fail
    go_ret
    exact ⟨rfl, HB2.out⟩
  have g1 : ((lm : Int) == 0) = false := by simp; omega
  by_cases z2 : lN = 0
  · have g2 : ((lN : Int) == 0) = true := by simp; omega
    clear m1 m2 z1 z2
    go_enter Try.func15, Try.ntmps15
    go_wp2_with fail
    refine (M1.out _).mono ?_
    rintro r w1 ⟨A1, cap1, rfl, _, hb1⟩
    have HB1 := Lib.hid (hb1)
    clear hb1
    go_wp2_with fail
    refine (M2.out _).mono ?_
    rintro r w2 ⟨A2, cap2, rfl, _, hb2⟩
    have HB2 := Lib.hid (bnext HB1.out hb2)
    clear hb2 HB1
    go_wp2_with fail
    refine (HA.out _).mono ?_
    rintro r w3 ⟨rfl, hb3⟩
    have HB3 := Lib.hid (bnext HB2.out hb3)
    clear hb3 HB2
    go_wp2_with fail
    go_ret
    exact ⟨rfl, HB3.out⟩
  have g2 : ((lN : Int) == 0) = false := by simp; omega
  clear z1 z2
  by_cases z3 : jm ≤ cAM
  · skip
    have g3 : decide ((jm : Int) ≤ (cAM : Int)) = true := by simp; omega
    have g3p : ((jm : Int) ≤ (cAM : Int)) = True := by simp; omega
    by_cases z4 : jN ≤ cBN
    · skip
      have g4 : decide ((jN : Int) ≤ (cBN : Int)) = true := by simp; omega
      have g4p : ((jN : Int) ≤ (cBN : Int)) = True := by simp; omega
      by_cases z5 : jm ≤ cBM
      · skip
        have g5 : decide ((jm : Int) ≤ (cBM : Int)) = true := by simp; omega
        have g5p : ((jm : Int) ≤ (cBM : Int)) = True := by simp; omega
        have g6 : ((cABN : Int) == 0) = false := by have := m1 z3 z4; simp; omega
        have g7 : ((cAB : Int) == 0) = false := by have := m2 z3 z5; simp; omega
        clear m1 m2 z3 z4 z5
        go_enter Try.func15, Try.ntmps15
        go_wp2_with fail
        refine (M1.out _).mono ?_
        rintro r w1 ⟨A1, cap1, rfl, _, hb1⟩
        have HB1 := Lib.hid (hb1)
        clear hb1
        go_wp2_with fail
        refine (M2.out _).mono ?_
        rintro r w2 ⟨A2, cap2, rfl, _, hb2⟩
        have HB2 := Lib.hid (bnext HB1.out hb2)
        clear hb2 HB1
        go_wp2_with fail
        refine (C1.out _).mono ?_
        rintro r w3 ⟨rfl, hb3⟩
        have HB3 := Lib.hid (bnext HB2.out hb3)
        clear hb3 HB2
        go_wp2_with fail
        refine (J1.out _).mono ?_
        rintro r w4 ⟨rfl, hb4⟩
        have HB4 := Lib.hid (bnext HB3.out hb4)
        clear hb4 HB3
        go_wp2_with fail
        refine (C2.out _).mono ?_
        rintro r w5 ⟨rfl, hb5⟩
        have HB5 := Lib.hid (bnext HB4.out hb5)
        clear hb5 HB4
        go_wp2_with fail
        refine (J2.out _).mono ?_
        rintro r w6 ⟨rfl, hb6⟩
        have HB6 := Lib.hid (bnext HB5.out hb6)
        clear hb6 HB5
        go_wp2_with fail
        refine (C3.out _).mono ?_
        rintro r w7 ⟨rfl, hb7⟩
        have HB7 := Lib.hid (bnext HB6.out hb7)
        clear hb7 HB6
        go_wp2_with fail
        refine (J1.out _).mono ?_
        rintro r w8 ⟨rfl, hb8⟩
        have HB8 := Lib.hid (bnext HB7.out hb8)
        clear hb8 HB7
        go_wp2_with fail
        refine (M3.out _).mono ?_
        rintro r w9 ⟨A9, cap9, rfl, _, hb9⟩
        have HB9 := Lib.hid (bnext HB8.out hb9)
        clear hb9 HB8
        go_wp2_with fail
        refine (M4.out _).mono ?_
        rintro r w10 ⟨A10, cap10, rfl, _, hb10⟩
        have HB10 := Lib.hid (bnext HB9.out hb10)
        clear hb10 HB9
        go_wp2_with fail
        refine (HA.out _).mono ?_
        rintro r w11 ⟨rfl, hb11⟩
        have HB11 := Lib.hid (bnext HB10.out hb11)
        clear hb11 HB10
        go_wp2_with fail
        go_ret
        exact ⟨rfl, HB11.out⟩
      · skip
        have g5 : decide ((jm : Int) ≤ (cBM : Int)) = false := by simp; omega
        have g5p : ((jm : Int) ≤ (cBM : Int)) = False := by simp; omega
        have g6 : ((cABN : Int) == 0) = false := by have := m1 z3 z4; simp; omega
        clear m1 m2 z3 z4 z5
        go_enter Try.func15, Try.ntmps15
        go_wp2_with fail
        refine (M1.out _).mono ?_
        rintro r w1 ⟨A1, cap1, rfl, _, hb1⟩
        have HB1 := Lib.hid (hb1)
        clear hb1
        go_wp2_with fail
        refine (M2.out _).mono ?_
        rintro r w2 ⟨A2, cap2, rfl, _, hb2⟩
        have HB2 := Lib.hid (bnext HB1.out hb2)
        clear hb2 HB1
        go_wp2_with fail
        refine (C1.out _).mono ?_
        rintro r w3 ⟨rfl, hb3⟩
        have HB3 := Lib.hid (bnext HB2.out hb3)
        clear hb3 HB2
        go_wp2_with fail
        refine (J1.out _).mono ?_
        rintro r w4 ⟨rfl, hb4⟩
        have HB4 := Lib.hid (bnext HB3.out hb4)
        clear hb4 HB3
        go_wp2_with fail
        refine (C2.out _).mono ?_
        rintro r w5 ⟨rfl, hb5⟩
        have HB5 := Lib.hid (bnext HB4.out hb5)
        clear hb5 HB4
        go_wp2_with fail
        refine (J2.out _).mono ?_
        rintro r w6 ⟨rfl, hb6⟩
        have HB6 := Lib.hid (bnext HB5.out hb6)
        clear hb6 HB5
        go_wp2_with fail
        refine (C3.out _).mono ?_
        rintro r w7 ⟨rfl, hb7⟩
        have HB7 := Lib.hid (bnext HB6.out hb7)
        clear hb7 HB6
        go_wp2_with fail
        refine (J1.out _).mono ?_
        rintro r w8 ⟨rfl, hb8⟩
        have HB8 := Lib.hid (bnext HB7.out hb8)
        clear hb8 HB7
        go_wp2_with fail
        refine (M3.out _).mono ?_
        rintro r w9 ⟨A9, cap9, rfl, _, hb9⟩
        have HB9 := Lib.hid (bnext HB8.out hb9)
        clear hb9 HB8
        go_wp2_with fail
        refine (HA.out _).mono ?_
        rintro r w10 ⟨rfl, hb10⟩
        have HB10 := Lib.hid (bnext HB9.out hb10)
        clear hb10 HB9
        go_wp2_with fail
        go_ret
        exact ⟨rfl, HB10.out⟩
    · skip
      have g4 : decide ((jN : Int) ≤ (cBN : Int)) = false := by simp; omega
      have g4p : ((jN : Int) ≤ (cBN : Int)) = False := by simp; omega
      by_cases z5 : jm ≤ cBM
      · skip
        have g5 : decide ((jm : Int) ≤ (cBM : Int)) = true := by simp; omega
        have g5p : ((jm : Int) ≤ (cBM : Int)) = True := by simp; omega
        have g7 : ((cAB : Int) == 0) = false := by have := m2 z3 z5; simp; omega
        clear m1 m2 z3 z4 z5
        go_enter Try.func15, Try.ntmps15
        go_wp2_with fail
        refine (M1.out _).mono ?_
        rintro r w1 ⟨A1, cap1, rfl, _, hb1⟩
        have HB1 := Lib.hid (hb1)
        clear hb1
        go_wp2_with fail
        refine (M2.out _).mono ?_
        rintro r w2 ⟨A2, cap2, rfl, _, hb2⟩
        have HB2 := Lib.hid (bnext HB1.out hb2)
        clear hb2 HB1
        go_wp2_with fail
        refine (C1.out _).mono ?_
        rintro r w3 ⟨rfl, hb3⟩
        have HB3 := Lib.hid (bnext HB2.out hb3)
        clear hb3 HB2
        go_wp2_with fail
        refine (J1.out _).mono ?_
        rintro r w4 ⟨rfl, hb4⟩
        have HB4 := Lib.hid (bnext HB3.out hb4)
        clear hb4 HB3
        go_wp2_with fail
        refine (C2.out _).mono ?_
        rintro r w5 ⟨rfl, hb5⟩
        have HB5 := Lib.hid (bnext HB4.out hb5)
        clear hb5 HB4
        go_wp2_with fail
        refine (J2.out _).mono ?_
        rintro r w6 ⟨rfl, hb6⟩
        have HB6 := Lib.hid (bnext HB5.out hb6)
        clear hb6 HB5
        go_wp2_with fail
        refine (C3.out _).mono ?_
        rintro r w7 ⟨rfl, hb7⟩
        have HB7 := Lib.hid (bnext HB6.out hb7)
        clear hb7 HB6
        go_wp2_with fail
        refine (J1.out _).mono ?_
        rintro r w8 ⟨rfl, hb8⟩
        have HB8 := Lib.hid (bnext HB7.out hb8)
        clear hb8 HB7
        go_wp2_with fail
        refine (M4.out _).mono ?_
        rintro r w9 ⟨A9, cap9, rfl, _, hb9⟩
        have HB9 := Lib.hid (bnext HB8.out hb9)
        clear hb9 HB8
        go_wp2_with fail
        refine (HA.out _).mono ?_
        rintro r w10 ⟨rfl, hb10⟩
        have HB10 := Lib.hid (bnext HB9.out hb10)
        clear hb10 HB9
        go_wp2_with fail
        go_ret
        exact ⟨rfl, HB10.out⟩
      · skip
        have g5 : decide ((jm : Int) ≤ (cBM : Int)) = false := by simp; omega
        have g5p : ((jm : Int) ≤ (cBM : Int)) = False := by simp; omega
        clear m1 m2 z3 z4 z5
        go_enter Try.func15, Try.ntmps15
        go_wp2_with fail
        refine (M1.out _).mono ?_
        rintro r w1 ⟨A1, cap1, rfl, _, hb1⟩
        have HB1 := Lib.hid (hb1)
        clear hb1
        go_wp2_with fail
        refine (M2.out _).mono ?_
        rintro r w2 ⟨A2, cap2, rfl, _, hb2⟩
        have HB2 := Lib.hid (bnext HB1.out hb2)
        clear hb2 HB1
        go_wp2_with fail
        refine (C1.out _).mono ?_
        rintro r w3 ⟨rfl, hb3⟩
        have HB3 := Lib.hid (bnext HB2.out hb3)
        clear hb3 HB2
        go_wp2_with fail
        refine (J1.out _).mono ?_
        rintro r w4 ⟨rfl, hb4⟩
        have HB4 := Lib.hid (bnext HB3.out hb4)
        clear hb4 HB3
        go_wp2_with fail
        refine (C2.out _).mono ?_
        rintro r w5 ⟨rfl, hb5⟩
        have HB5 := Lib.hid (bnext HB4.out hb5)
        clear hb5 HB4
        go_wp2_with fail
        refine (J2.out _).mono ?_
        rintro r w6 ⟨rfl, hb6⟩
        have HB6 := Lib.hid (bnext HB5.out hb6)
        clear hb6 HB5
        go_wp2_with fail
        refine (C3.out _).mono ?_
        rintro r w7 ⟨rfl, hb7⟩
        have HB7 := Lib.hid (bnext HB6.out hb7)
        clear hb7 HB6
        go_wp2_with fail
        refine (J1.out _).mono ?_
        rintro r w8 ⟨rfl, hb8⟩
        have HB8 := Lib.hid (bnext HB7.out hb8)
        clear hb8 HB7
        go_wp2_with fail
        refine (HA.out _).mono ?_
        rintro r w9 ⟨rfl, hb9⟩
        have HB9 := Lib.hid (bnext HB8.out hb9)
        clear hb9 HB8
        go_wp2_with fail
        go_ret
        exact ⟨rfl, HB9.out⟩
  · skip
    have g3 : decide ((jm : Int) ≤ (cAM : Int)) = false := by simp; omega
    have g3p : ((jm : Int) ≤ (cAM : Int)) = False := by simp; omega
    clear m1 m2 z3
    go_enter Try.func15, Try.ntmps15
    go_wp2_with fail
    refine (M1.out _).mono ?_
    rintro r w1 ⟨A1, cap1, rfl, _, hb1⟩
    have HB1 := Lib.hid (hb1)
    clear hb1
    go_wp2_with fail
    refine (M2.out _).mono ?_
    rintro r w2 ⟨A2, cap2, rfl, _, hb2⟩
    have HB2 := Lib.hid (bnext HB1.out hb2)
    clear hb2 HB1
    go_wp2_with fail
    refine (C1.out _).mono ?_
    rintro r w3 ⟨rfl, hb3⟩
    have HB3 := Lib.hid (bnext HB2.out hb3)
    clear hb3 HB2
    go_wp2_with fail
    refine (J1.out _).mono ?_
    rintro r w4 ⟨rfl, hb4⟩
    have HB4 := Lib.hid (bnext HB3.out hb4)
    clear hb4 HB3
    go_wp2_with fail
    refine (HA.out _).mono ?_
    rintro r w5 ⟨rfl, hb5⟩
    have HB5 := Lib.hid (bnext HB4.out hb5)
    clear hb5 HB4
    go_wp2_with fail
    go_ret
    exact ⟨rfl, HB5.out⟩
end Go.Proofs.Ytkghldobefgjeaa
