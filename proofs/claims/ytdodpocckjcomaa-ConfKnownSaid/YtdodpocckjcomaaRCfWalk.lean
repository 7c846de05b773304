/-
  conf's functions walked: those that hang on bits alone.
-/
import Derived.Test.YtdodpocckjcomaaRCfMath
import Derived.Test.YtdodpocckjcomaaRWords
set_option linter.unusedSimpArgs false
set_option linter.unusedVariables false
namespace Go.Proofs.Ytdodpocckjcomaa
open Go.RowKit
/-- Small numbers as cells. -/
def nc (l : List Nat) : List Value := l.map fun (n : Nat) => Value.int .u8 (n : Int)
theorem node_any (n : Nat) (hn : n < 256) (w : World) : Calls Try.prog 27 #[.int .u8 (n : Int)] w fun e w' => e = .returned (.bool (decide (1 ≤ n ∧ n ≤ 5))) ∧ w = w' := by
  by_cases h1 : 1 ≤ n
  · have a1 : decide (1 ≤ n) = true := by simpa using h1
    have a2 : ((1 : Int) ≤ (n : Int)) = True := by simp; omega
    by_cases h2 : n ≤ 5
    · have b1 : decide (n ≤ 5) = true := by simpa using h2
      have b2 : ((n : Int) ≤ 5) = True := by simp; omega
      go_enter Try.func27, Try.ntmps27
      go_wp2
      go_ret
      exact ⟨by simp [h1, h2], rfl⟩
    · have b1 : decide (n ≤ 5) = false := by simpa using h2
      have b2 : ((n : Int) ≤ 5) = False := by simp; omega
      go_enter Try.func27, Try.ntmps27
      go_wp2
      go_ret
      exact ⟨by simp [h2], rfl⟩
  · have a1 : decide (1 ≤ n) = false := by simpa using h1
    have a2 : ((1 : Int) ≤ (n : Int)) = False := by simp; omega
    go_enter Try.func27, Try.ntmps27
    go_wp2
    go_ret
    exact ⟨by simp; omega, rfl⟩
theorem bitOf_any (n : Nat) (hn : n < 256) (w : World) : Calls Try.prog 25 #[.int .u8 (n : Int)] w fun e w' => e = .returned (.int .u8 (Cf.bit n : Int)) ∧ w = w' := by
  have HN := Lib.hid (fun w => node_any n hn w)
  by_cases h : 1 ≤ n ∧ n ≤ 5
  · have E : Hid (Cf.bit n = 2 ^ (n - 1)) := Lib.hid (by unfold Cf.bit; rw [if_pos h])
    rw [decide_eq_true h] at HN
    obtain ⟨h1, h2⟩ := h
    rcases (show n = 1 ∨ n = 2 ∨ n = 3 ∨ n = 4 ∨ n = 5 by omega) with rfl | rfl | rfl | rfl | rfl
    all_goals
      go_enter Try.func25, Try.ntmps25
      go_wp2_with (go_at_call 27; refine (HN.out _).mono ?_; rintro e w1 ⟨rfl, rfl⟩)
      go_ret
      exact ⟨by rw [E.out]; rfl, rfl⟩
  · have E : Hid (Cf.bit n = 0) := Lib.hid (by unfold Cf.bit; rw [if_neg h])
    rw [decide_eq_false h] at HN
    clear h
    go_enter Try.func25, Try.ntmps25
    go_wp2_with (go_at_call 27; refine (HN.out _).mono ?_; rintro e w1 ⟨rfl, rfl⟩)
    go_ret
    exact ⟨by rw [E.out]; rfl, rfl⟩
theorem has_any (m n : Nat) (hm : m < 256) (hn : n < 256) (w : World) : Calls Try.prog 13 #[.int .u8 (m : Int), .int .u8 (n : Int)] w fun e w' => e = .returned (.bool (Cf.has m n)) ∧ w = w' := by
  have HB := Lib.hid (fun w => bitOf_any n hn w)
  have e1 : bits .and .u8 (m : Int) (Cf.bit n : Int) = ((m &&& Cf.bit n : Nat) : Int) := u8_and_nat m _ hm (Nat.lt_trans (Cf.bit_lt n) (by decide))
  have E := Lib.hid (Cf.has_eq m n hm)
  obtain ⟨x, hx⟩ : ∃ x, x = m &&& Cf.bit n := ⟨_, rfl⟩
  rw [← hx] at e1 E
  obtain ⟨b, hb⟩ : ∃ b, b = Cf.bit n := ⟨_, rfl⟩
  rw [← hb] at e1 HB
  clear hx hb
  go_enter Try.func13, Try.ntmps13
  go_wp2_with (go_at_call 25; refine (HB.out _).mono ?_; rintro e w1 ⟨rfl, rfl⟩)
  go_ret
  refine ⟨?_, rfl⟩
  rw [E.out]
  congr 2
  by_cases h : x = 0
  · subst h; rfl
  · simp [h]
set_option maxRecDepth 100000 in
theorem ones_any (m : Nat) (hm : m < 32) (w : World) : Calls Try.prog 30 #[.int .u8 (m : Int)] w fun e w' => e = .returned (.int .i64 (Cf.count m : Int)) ∧ w = w' := by
  have hc : m = 0 ∨ m = 1 ∨ m = 2 ∨ m = 3 ∨ m = 4 ∨ m = 5 ∨ m = 6 ∨ m = 7 ∨ m = 8 ∨ m = 9 ∨ m = 10 ∨ m = 11 ∨ m = 12 ∨ m = 13 ∨ m = 14 ∨ m = 15 ∨ m = 16 ∨ m = 17 ∨ m = 18 ∨ m = 19 ∨ m = 20 ∨ m = 21 ∨ m = 22 ∨ m = 23 ∨ m = 24 ∨ m = 25 ∨ m = 26 ∨ m = 27 ∨ m = 28 ∨ m = 29 ∨ m = 30 ∨ m = 31 := by omega
  rcases hc with rfl | rfl | rfl | rfl | rfl | rfl | rfl | rfl | rfl | rfl | rfl | rfl | rfl | rfl | rfl | rfl | rfl | rfl | rfl | rfl | rfl | rfl | rfl | rfl | rfl | rfl | rfl | rfl | rfl | rfl | rfl | rfl
  all_goals
    go_enter Try.func30, Try.ntmps30
    go_wp2
    go_ret
    exact ⟨by kernel_rfl, rfl⟩
theorem count_any (m : Nat) (hm : m < 256) (w : World) : Calls Try.prog 28 #[.int .u8 (m : Int)] w fun e w' => e = .returned (.int .i64 (Cf.count m : Int)) ∧ w = w' := by
  have HO := Lib.hid (fun w => ones_any (m &&& 31) (Cf.and31_lt m) w)
  rw [Cf.count_31] at HO
  have e1 : bits .and .u8 (m : Int) 31 = ((m &&& 31 : Nat) : Int) := u8_and_nat m 31 hm (by decide)
  obtain ⟨x, hx⟩ : ∃ x, x = m &&& 31 := ⟨_, rfl⟩
  rw [← hx] at e1 HO
  clear hx
  go_enter Try.func28, Try.ntmps28
  go_wp2_with (go_at_call 30; refine (HO.out _).mono ?_; rintro e w1 ⟨rfl, rfl⟩)
  go_ret
  exact ⟨rfl, rfl⟩
theorem won_any (m v : Nat) (hm : m < 256) (hv : v < 256) (w : World) : Calls Try.prog 19 #[.int .u8 (m : Int), .int .u8 (v : Int)] w fun e w' => e = .returned (.bool (Cf.won m v)) ∧ w = w' := by
  have hx256 : m &&& v < 256 := Nat.lt_of_le_of_lt Nat.and_le_left hm
  have e1 : bits .and .u8 (m : Int) (v : Int) = ((m &&& v : Nat) : Int) := u8_and_nat m v hm hv
  have HC := Lib.hid (fun w => count_any m hm w)
  have HX := Lib.hid (fun w => count_any (m &&& v) hx256 w)
  have E : Hid (Cf.won m v = decide (Cf.count m < 2 * Cf.count (m &&& v))) := Lib.hid rfl
  have l1 := Cf.count_le m
  have l2 := Cf.count_le (m &&& v)
  obtain ⟨x, hx⟩ : ∃ x, x = m &&& v := ⟨_, rfl⟩
  rw [← hx] at e1 HX E l2
  obtain ⟨c, hc⟩ : ∃ c, c = Cf.count m := ⟨_, rfl⟩
  obtain ⟨d, hd⟩ : ∃ d, d = Cf.count x := ⟨_, rfl⟩
  rw [← hc] at HC E l1
  rw [← hd] at HX E l2
  clear hx hc hd hx256
  go_enter Try.func19, Try.ntmps19
  go_wp2_with fail
  refine (HX.out _).mono ?_
  rintro e w1 ⟨rfl, rfl⟩
  go_wp2_with fail
  refine (HC.out _).mono ?_
  rintro e w1 ⟨rfl, rfl⟩
  go_wp2_with fail
  go_ret
  refine ⟨?_, rfl⟩
  rw [E.out]
  show Ending.returned (Value.bool _) = Ending.returned (Value.bool _)
  congr 2
  rw [decide_eq_decide]
  omega
theorem near_any (a b : Nat) (ha : a < 256) (hb : b < 256) (w : World) : Calls Try.prog 23 #[.int .u8 (a : Int), .int .u8 (b : Int)] w fun e w' => e = .returned (.bool (Cf.near a b)) ∧ w = w' := by
  have hx256 : a ^^^ b < 256 := Nat.xor_lt_two_pow (n := 8) ha hb
  have e1 : bits .xor .u8 (a : Int) (b : Int) = ((a ^^^ b : Nat) : Int) := by simpa using u8_xor (a : Int) (b : Int) (by omega) (by omega) (by omega) (by omega)
  have HX := Lib.hid (fun w => count_any (a ^^^ b) hx256 w)
  have E : Hid (Cf.near a b = decide (Cf.count (a ^^^ b) ≤ 1)) := Lib.hid rfl
  obtain ⟨x, hx⟩ : ∃ x, x = a ^^^ b := ⟨_, rfl⟩
  rw [← hx] at e1 HX E
  obtain ⟨d, hd⟩ : ∃ d, d = Cf.count x := ⟨_, rfl⟩
  rw [← hd] at HX E
  clear hx hd hx256
  go_enter Try.func23, Try.ntmps23
  go_wp2_with fail
  refine (HX.out _).mono ?_
  rintro e w1 ⟨rfl, rfl⟩
  go_wp2_with fail
  go_ret
  refine ⟨?_, rfl⟩
  rw [E.out]
  show Ending.returned (Value.bool _) = Ending.returned (Value.bool _)
  congr 2
  rw [decide_eq_decide]
  omega
/-- What Add and Out answer. -/
def ax (p : Nat × Nat) : Value := .tuple #[.int .u8 (p.1 : Int), .int .i64 (p.2 : Int)]
theorem add_any10 (m n : Nat) (hm : m < 256) (hn : n < 256) (w : World) : Calls Try.prog 15 #[.int .u8 (m : Int), .int .u8 (n : Int)] w fun e w' => e = .returned (ax (Cf.add m n)) ∧ w = w' := by
  have HN := Lib.hid (fun w => node_any n hn w)
  have HH := Lib.hid (fun w => has_any m n hm hn w)
  have HB := Lib.hid (fun w => bitOf_any n hn w)
  have e1 : bits .and .u8 (m : Int) 31 = ((m &&& 31 : Nat) : Int) := u8_and_nat m 31 hm (by decide)
  have e2 : bits .or .u8 ((m &&& 31 : Nat) : Int) (Cf.bit n : Int) = (((m &&& 31) ||| Cf.bit n : Nat) : Int) := u8_or_nat _ _ (Nat.lt_trans (Cf.and31_lt m) (by decide)) (Nat.lt_trans (Cf.bit_lt n) (by decide))
  by_cases h : 1 ≤ n ∧ n ≤ 5
  · rw [decide_eq_true h] at HN
    by_cases h2 : Cf.has m n = true
    · rw [h2] at HH
      have E : Hid (Cf.add m n = (0, 5)) := Lib.hid (by unfold Cf.add; rw [if_pos h, if_pos h2])
      clear h h2 e1 e2
      go_enter Try.func15, Try.ntmps15
      go_wp2_with (first | (go_at_call 27; refine (HN.out _).mono ?_; rintro e w1 ⟨rfl, rfl⟩) | (go_at_call 13; refine (HH.out _).mono ?_; rintro e w1 ⟨rfl, rfl⟩))
      go_ret2
      exact ⟨by rw [E.out]; rfl, rfl⟩
    · rw [Bool.not_eq_true] at h2
      rw [h2] at HH
      have E : Hid (Cf.add m n = ((m &&& 31) ||| Cf.bit n, 0)) := Lib.hid (by unfold Cf.add; rw [if_pos h, h2]; rfl)
      clear h h2
      obtain ⟨x, hx⟩ : ∃ x, x = m &&& 31 := ⟨_, rfl⟩
      rw [← hx] at e1 e2 E
      obtain ⟨b, hb⟩ : ∃ b, b = Cf.bit n := ⟨_, rfl⟩
      rw [← hb] at e2 HB E
      obtain ⟨y, hy⟩ : ∃ y, y = x ||| b := ⟨_, rfl⟩
      rw [← hy] at e2 E
      clear hx hb hy
      go_enter Try.func15, Try.ntmps15
      go_wp2_with (first | (go_at_call 27; refine (HN.out _).mono ?_; rintro e w1 ⟨rfl, rfl⟩) | (go_at_call 13; refine (HH.out _).mono ?_; rintro e w1 ⟨rfl, rfl⟩) | (go_at_call 25; refine (HB.out _).mono ?_; rintro e w1 ⟨rfl, rfl⟩))
      go_ret2
      exact ⟨by rw [E.out]; rfl, rfl⟩
  · rw [decide_eq_false h] at HN
    have E : Hid (Cf.add m n = (0, 1)) := Lib.hid (by unfold Cf.add; rw [if_neg h])
    clear h e1 e2
    go_enter Try.func15, Try.ntmps15
    go_wp2_with (first | (go_at_call 27; refine (HN.out _).mono ?_; rintro e w1 ⟨rfl, rfl⟩))
    go_ret2
    exact ⟨by rw [E.out]; rfl, rfl⟩
theorem out_any10 (m n : Nat) (hm : m < 256) (hn : n < 256) (w : World) : Calls Try.prog 17 #[.int .u8 (m : Int), .int .u8 (n : Int)] w fun e w' => e = .returned (ax (Cf.out m n)) ∧ w = w' := by
  have HN := Lib.hid (fun w => node_any n hn w)
  have HH := Lib.hid (fun w => has_any m n hm hn w)
  have HB := Lib.hid (fun w => bitOf_any n hn w)
  have e1 : bits .and .u8 (m : Int) 31 = ((m &&& 31 : Nat) : Int) := u8_and_nat m 31 hm (by decide)
  by_cases h : 1 ≤ n ∧ n ≤ 5
  · rw [decide_eq_true h] at HN
    by_cases h2 : Cf.has m n = true
    · have e2 : bits .andNot .u8 ((m &&& 31 : Nat) : Int) (Cf.bit n : Int) = (((m &&& 31) - Cf.bit n : Nat) : Int) := by
        have hb : Cf.bit n < 256 := Nat.lt_trans (Cf.bit_lt n) (by decide)
        have hx : m &&& 31 < 256 := Nat.lt_trans (Cf.and31_lt m) (by decide)
        rw [u8_andNot _ _ (by omega) (by omega) (by omega) (by omega)]
        have := Cf.out_not ⟨m &&& 31, Cf.and31_lt m⟩ ⟨n, by omega⟩ h.1 (by rw [Cf.has_31]; exact h2)
        simp only at this
        simpa using congrArg (fun k : Nat => (k : Int)) this
      rw [h2] at HH
      have E : Hid (Cf.out m n = ((m &&& 31) - Cf.bit n, 0)) := Lib.hid (by unfold Cf.out; rw [if_pos h, if_pos h2])
      clear h h2
      obtain ⟨x, hx⟩ : ∃ x, x = m &&& 31 := ⟨_, rfl⟩
      rw [← hx] at e1 e2 E
      obtain ⟨b, hb⟩ : ∃ b, b = Cf.bit n := ⟨_, rfl⟩
      rw [← hb] at e2 HB E
      obtain ⟨y, hy⟩ : ∃ y, y = x - b := ⟨_, rfl⟩
      rw [← hy] at e2 E
      clear hx hb hy
      go_enter Try.func17, Try.ntmps17
      go_wp2_with (first | (go_at_call 27; refine (HN.out _).mono ?_; rintro e w1 ⟨rfl, rfl⟩) | (go_at_call 13; refine (HH.out _).mono ?_; rintro e w1 ⟨rfl, rfl⟩) | (go_at_call 25; refine (HB.out _).mono ?_; rintro e w1 ⟨rfl, rfl⟩))
      go_ret2
      exact ⟨by rw [E.out]; rfl, rfl⟩
    · rw [Bool.not_eq_true] at h2
      rw [h2] at HH
      have E : Hid (Cf.out m n = (0, 4)) := Lib.hid (by unfold Cf.out; rw [if_pos h, h2]; rfl)
      clear h h2 e1
      go_enter Try.func17, Try.ntmps17
      go_wp2_with (first | (go_at_call 27; refine (HN.out _).mono ?_; rintro e w1 ⟨rfl, rfl⟩) | (go_at_call 13; refine (HH.out _).mono ?_; rintro e w1 ⟨rfl, rfl⟩))
      go_ret2
      exact ⟨by rw [E.out]; rfl, rfl⟩
  · rw [decide_eq_false h] at HN
    have E : Hid (Cf.out m n = (0, 1)) := Lib.hid (by unfold Cf.out; rw [if_neg h])
    clear h e1
    go_enter Try.func17, Try.ntmps17
    go_wp2_with (first | (go_at_call 27; refine (HN.out _).mono ?_; rintro e w1 ⟨rfl, rfl⟩))
    go_ret2
    exact ⟨by rw [E.out]; rfl, rfl⟩
end Go.Proofs.Ytdodpocckjcomaa
