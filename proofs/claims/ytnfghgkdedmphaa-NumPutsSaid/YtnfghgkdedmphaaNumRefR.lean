/-
  wapentakeref01.U, ReadU, ReadV and ReadS walked.
-/
import Derived.Test.YtnfghgkdedmphaaNumRef
namespace Go.Proofs.Ytnfghgkdedmphaa
open Go.RowKit

/-! U. -/
theorem refU_no (n width : Int) (w : World) (h : width < 1 ∨ 8 < width) : Calls Try.prog 19 #[.int .u64 n, .int .i64 width] w fun e w' => e = .returned (.string ⟨#[]⟩) ∧ w = w' := by
  by_cases h1 : (0 : Int) < width
  · have h2 : ¬ width ≤ 8 := by omega
    have d1 : decide ((0 : Int) < width) = true := by simpa using h1
    have d2 : decide (width ≤ 8) = false := by simpa using h2
    go_enter Try.func19, Try.ntmps19
    go_wp2
    refine wp_loop_rounds 1 ?_
    rw [rounds_succ]
    go_wp2
    go_ret
    exact ⟨rfl, rfl⟩
  · have d1 : decide ((0 : Int) < width) = false := by simpa using h1
    go_enter Try.func19, Try.ntmps19
    go_wp2
    refine wp_loop_rounds 1 ?_
    rw [rounds_succ]
    go_wp2
    go_ret
    exact ⟨rfl, rfl⟩

def widS (j n : Nat) : ByteArray := ⟨(Nm.wid j n).toArray⟩
theorem widS_size (j n : Nat) : (widS j n).size = j := by rw [Lib.size_eq]; simp [widS, Nm.wid_length]
theorem widS_step (j n : Nat) : (⟨#[Nm.b8 (n / 256 ^ j % 256)]⟩ : ByteArray) ++ widS j n = widS (j + 1) n := by
  apply ByteArray.ext
  simp [widS, ByteArray.data_append, Nm.wid]

set_option maxRecDepth 100000 in
set_option maxHeartbeats 400000 in
theorem refU_any (n m : Nat) (hn : n < Nm.top) (w : World) (h1 : 1 ≤ m) (h2 : m ≤ 8) : Calls Try.prog 19 #[.int .u64 (n : Int), .int .i64 (m : Int)] w (RetS (Nm.wid m n) w) := by
  have Hn := Lib.hid hn
  clear hn
  go_enter Try.func19, Try.ntmps19
  go_wp2
  go_loopw [0, 5, 6] (fun x v i wr => ∃ (j : Nat) (s : ByteArray), j ≤ m ∧ x = .int .u64 ((n / 256 ^ j : Nat) : Int) ∧ v = .string s ∧ i = .int .i64 (j : Int) ∧ s = widS j n ∧ Below w.heap.size w wr) (fun _ _ i _ => m - (intOf i).toNat)
  case atStart => exact ⟨0, _, Nat.zero_le _, by simp, rfl, rfl, rfl, Below.refl _ _⟩
  case round =>
    obtain ⟨j, s, hj, rfl, rfl, rfl, hs, hb⟩ := hrel
    have hsz : s.size ≤ 8 := by rw [hs, widS_size]; omega
    have Hs := Lib.hid hs
    have Hd := Lib.hid (div_pow n j)
    clear hs
    obtain ⟨q, hq⟩ : ∃ q, q = n / 256 ^ j := ⟨_, rfl⟩
    have hq2 : q ≤ 18446744073709551615 := by
      have h1 := Hn.out
      unfold Nm.top at h1
      have := Nat.div_le_self n (256 ^ j)
      omega
    rw [← hq] at Hd ⊢
    by_cases hlt : j < m
    · have hc := str1 wr ((q : Int) % 256) (Nm.b8 (n / 256 ^ j % 256)) (by rw [← hq, byte_of])
      have hz : (ByteArray.mk #[Nm.b8 (n / 256 ^ j % 256)]).size = 1 := rfl
      obtain ⟨c, hcc⟩ : ∃ c : ByteArray, c = ByteArray.mk #[Nm.b8 (n / 256 ^ j % 256)] := ⟨_, rfl⟩
      rw [← hcc] at hc hz
      have Hc := Lib.hid hcc
      clear hcc hq
      go_wp2
      go_roundw
      case rel =>
        exact ⟨j + 1, c ++ s, by omega, by rw [← Hd.out]; go_num, rfl, by go_num, by rw [Hc.out, Hs.out, widS_step], bnew hb _⟩
      case measure => simp [intOf]; omega
    · obtain rfl : j = m := by omega
      clear hq
      go_wp2
      go_ret
      exact ⟨by rw [Hs.out]; rfl, hb⟩

/-! ReadU. -/
set_option maxHeartbeats 400000 in
theorem refReadU_no (s : ByteArray) (width : Int) (w : World) (h : width < 1 ∨ 8 < width ∨ (s.size : Int) < width) :
    Calls Try.prog 20 #[.string s, .int .i64 width] w fun e w' => e = .returned (.tuple #[.int .u64 0, .bool false]) ∧ w = w' := by
  by_cases h1 : width < 1
  · have d1 : decide (width < 1) = true := by simpa using h1
    go_enter Try.func20, Try.ntmps20
    go_wp2
    go_ret2
    exact ⟨rfl, rfl⟩
  · have d1 : decide (width < 1) = false := by simpa using h1
    by_cases h2 : 8 < width
    · have d2 : decide (8 < width) = true := by simpa using h2
      go_enter Try.func20, Try.ntmps20
      go_wp2
      go_ret2
      exact ⟨rfl, rfl⟩
    · have d2 : decide (8 < width) = false := by simpa using h2
      have d3 : decide ((s.size : Int) < width) = true := by simp; omega
      go_enter Try.func20, Try.ntmps20
      go_wp2
      go_ret2
      exact ⟨rfl, rfl⟩

set_option maxRecDepth 100000 in
set_option maxHeartbeats 400000 in
theorem refReadU_any (s : ByteArray) (m : Nat) (w : World) (hs : s.size ≤ 9223372036854775807) (h1 : 1 ≤ m) (h2 : m ≤ 8) (hm : m ≤ s.size) :
    Calls Try.prog 20 #[.string s, .int .i64 (m : Int)] w fun e w' => e = .returned (.tuple #[.int .u64 (Nm.val8 (s.data.toList.take m) : Nat), .bool true]) ∧ w = w' := by
  have d1 : decide ((m : Int) < 1) = false := by simp; omega
  have d2 : decide (8 < (m : Int)) = false := by simp; omega
  have d3 : decide ((s.size : Int) < (m : Int)) = false := by simp; omega
  go_enter Try.func20, Try.ntmps20
  go_wp2
  go_loop [6, 7] (fun x i => ∃ k : Nat, k ≤ m ∧ i = .int .i64 k ∧ x = .int .u64 (Nm.val8 (s.data.toList.take k) : Nat)) (fun _ i => m - (intOf i).toNat)
  case atStart => exact ⟨0, Nat.zero_le _, rfl, rfl⟩
  case round =>
    obtain ⟨k, hk, rfl, rfl⟩ := hrel
    by_cases hlt : k < m
    · have hks : k < s.size := by omega
      have hj : Nm.val8 (s.data.toList.take k) * 256 + s[k].toNat ≤ 18446744073709551615 := by
        have h3 := Nm.val8_lt (s.data.toList.take (k + 1))
        rw [take_snoc s k hks, Nm.val8_snoc] at h3
        have h4 : (s.data.toList.take k ++ [s[k]]).length ≤ 8 := by simp; omega
        have h5 := Nat.pow_le_pow_right (n := 256) (by omega) h4
        omega
      have Hts := Lib.hid (take_snoc s k hks)
      obtain ⟨q, hq⟩ : ∃ q, q = Nm.val8 (s.data.toList.take k) := ⟨_, rfl⟩
      rw [← hq] at hj ⊢
      have Hq := Lib.hid hq
      clear hq
      go_wp2
      go_round
      case rel => exact ⟨k + 1, by omega, by go_num, by rw [Hts.out, Nm.val8_snoc, ← Hq.out]; go_num⟩
      case measure => simp [intOf]; omega
    · obtain rfl : k = m := by omega
      go_wp2
      go_ret2
      exact ⟨rfl, rfl⟩
end Go.Proofs.Ytnfghgkdedmphaa
