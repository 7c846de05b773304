/-
  NumWide walked.
-/
import Derived.Test.YtnfghgkdedmphaaNumAwake
import Derived.Test.YtnfghgkdedmphaaNumOrder
import Derived.Test.YtnfghgkdedmphaaOpen
namespace Go.Proofs.Ytnfghgkdedmphaa
open Go.RowKit

set_option linter.unusedVariables false
set_option maxHeartbeats 1000000 in
set_option maxRecDepth 100000 in
theorem numWide_big (a b width : Int) (s : ByteArray) (w : World) (h : 100 < s.size) :
    Calls Try.prog 8 #[.int .u64 a, .int .u64 b, .int .i64 width, .string s] w fun e w' => e = .returned (.bool true) ∧ Below w.heap.size w w' := by
  go_enter Try.func8, Try.ntmps8
  go_wp2_with (go_at_call 15; refine (awake_any _).mono ?_; rintro e w1 ⟨rfl, hb1⟩)
  go_ret
  exact ⟨rfl, hb1⟩

set_option maxHeartbeats 1000000 in
set_option maxRecDepth 100000 in
theorem numWide_no (a b width : Int) (s : ByteArray) (w : World) (h : s.size ≤ 100) (hw : width < 1 ∨ 8 < width) :
    Calls Try.prog 8 #[.int .u64 a, .int .u64 b, .int .i64 width, .string s] w fun e w' => e = .returned (.bool true) ∧ Below w.heap.size w w' := by
  rcases hw with hw | hw
  · go_enter Try.func8, Try.ntmps8
    go_wp2_with (first | (go_at_call 15; refine (awake_any _).mono ?_; rintro e w1 ⟨rfl, hb1⟩) | (go_at_call 12; refine (U_no _ _ _ (.inl hw)).mono ?_; rintro e w' ⟨rfl, rfl⟩))
    go_ret
    exact ⟨rfl, hb1⟩
  · have hw1 : ¬ width < 1 := by omega
    go_enter Try.func8, Try.ntmps8
    go_wp2_with (first | (go_at_call 15; refine (awake_any _).mono ?_; rintro e w1 ⟨rfl, hb1⟩) | (go_at_call 12; refine (U_no _ _ _ (.inr hw)).mono ?_; rintro e w' ⟨rfl, rfl⟩))
    go_ret
    exact ⟨rfl, hb1⟩

theorem mask_pow (m : Nat) (h2 : m ≤ 8) : 18446744073709551615 / 2 ^ (64 - 8 * m) = 2 ^ (8 * m) - 1 := by
  have : ∀ k : Fin 9, 18446744073709551615 / 2 ^ (64 - 8 * k.val) = 2 ^ (8 * k.val) - 1 := by decide +kernel
  exact this ⟨m, by omega⟩
theorem mask_and (a m : Nat) (ha : a < Nm.top) (h2 : m ≤ 8) : bits .and .u64 (a : Int) ((18446744073709551615 : Int) / 2 ^ (64 - 8 * m)) = ((a % 256 ^ m : Nat) : Int) := by
  have e : ((18446744073709551615 : Int) / 2 ^ (64 - 8 * m)) = ((2 ^ (8 * m) - 1 : Nat) : Int) := by
    rw [← mask_pow m h2]
    have : ((2 : Int) ^ (64 - 8 * m)) = ((2 ^ (64 - 8 * m) : Nat) : Int) := by simp
    rw [this, Int.natCast_ediv]; rfl
  have hlt : 2 ^ (8 * m) - 1 < 18446744073709551616 := by
    have : 2 ^ (8 * m) ≤ 2 ^ 64 := Nat.pow_le_pow_right (by omega) (by omega)
    omega
  rw [e, u64_and_nat _ _ (by unfold Nm.top at ha; omega) hlt, Nat.and_two_pow_sub_one_eq_mod, show (256 : Nat) = 2 ^ 8 from rfl, ← Nat.pow_mul]

theorem wide_read (a m : Nat) (s sa : ByteArray) (hsa : sa = ⟨(Nm.wid m a).toArray⟩) (h : s.size ≤ 100) (h1 : 1 ≤ m) (h2 : m ≤ 8) (w : World) :
    Calls Try.prog 9 #[.string (sa ++ s), .int .i64 (m : Int)] w fun e w' => e = .returned (.tuple #[.int .u64 ((a % 256 ^ m : Nat) : Int), .bool true]) ∧ w = w' := by
  have hl : (sa ++ s).data.toList = Nm.wid m a ++ s.data.toList := by rw [hsa]; simp [ByteArray.data_append]
  have hsz : (sa ++ s).size = m + s.size := by rw [Lib.size_eq, hl, List.length_append, Nm.wid_length, ← Lib.size_eq]
  have := ReadU_any (sa ++ s) m w (by omega) h1 h2 (by omega)
  rw [hl, List.take_append_of_le_length (by rw [Nm.wid_length]; exact Nat.le_refl _), List.take_of_length_le (by rw [Nm.wid_length]; exact Nat.le_refl _), Nm.val8_wid] at this
  exact this

set_option maxHeartbeats 1000000 in
set_option maxRecDepth 100000 in
theorem numWide_yes (a b m : Nat) (ha : a < Nm.top) (hb : b < Nm.top) (s : ByteArray) (w : World) (h : s.size ≤ 100) (h1 : 1 ≤ m) (h2 : m ≤ 8) :
    Calls Try.prog 8 #[.int .u64 (a : Int), .int .u64 (b : Int), .int .i64 (m : Int), .string s] w fun e w' => e = .returned (.bool true) ∧ Below w.heap.size w w' := by
  have ma := mask_and a m ha h2
  have mb := mask_and b m hb h2
  obtain ⟨sa, hsa⟩ : ∃ sa : ByteArray, sa = ⟨(Nm.wid m a).toArray⟩ := ⟨_, rfl⟩
  obtain ⟨sb, hsb⟩ : ∃ sb : ByteArray, sb = ⟨(Nm.wid m b).toArray⟩ := ⟨_, rfl⟩
  have Hr := Lib.hid (wide_read a m s sa hsa h h1 h2)
  have hua : ∀ W, Calls Try.prog 12 #[.int .u64 (a : Int), .int .i64 (m : Int)] W (fun e w' => e = .returned (.string sa) ∧ Below W.heap.size W w') := fun W => by
    have := U_any a m W h1 h2; unfold RetS at this; rw [← hsa] at this; exact this
  have hub : ∀ W, Calls Try.prog 12 #[.int .u64 (b : Int), .int .i64 (m : Int)] W (fun e w' => e = .returned (.string sb) ∧ Below W.heap.size W w') := fun W => by
    have := U_any b m W h1 h2; unfold RetS at this; rw [← hsb] at this; exact this
  have hless : Op.bytesLess sa.toList sb.toList = decide (a % 256 ^ m < b % 256 ^ m) := by
    rw [hsa, hsb, ByteArray.toList_mk, ByteArray.toList_mk, Nm.wid_less]
  have hza : sa.size = m := by rw [hsa, Lib.size_eq]; simp [Nm.wid_length]
  have hzb : sb.size = m := by rw [hsb, Lib.size_eq]; simp [Nm.wid_length]
  have Hua := Lib.hid hua
  have Hub := Lib.hid hub
  clear hua hub hsa hsb ha hb
  obtain ⟨x, hx⟩ : ∃ x, x = a % 256 ^ m := ⟨_, rfl⟩
  obtain ⟨y, hy⟩ : ∃ y, y = b % 256 ^ m := ⟨_, rfl⟩
  rw [← hx] at ma Hr hless
  rw [← hy] at mb hless
  clear hx hy
  have d1 : decide ((100 : Int) < (s.size : Int)) = false := by simp; omega
  have d2 : decide ((m : Int) < 1) = false := by simp; omega
  have d3 : decide ((8 : Int) < (m : Int)) = false := by simp; omega
  go_enter Try.func8, Try.ntmps8
  go_wp2_with (first | (go_at_call 12; ((with_reducible refine (Hua.out _).mono ?_); rintro e w1 ⟨rfl, hb1⟩)) | (go_at_call 12; ((with_reducible refine (Hub.out _).mono ?_); rintro e w2 ⟨rfl, hb2⟩)) | (go_at_call 9; refine (Hr.out _).mono ?_; rintro e w' ⟨rfl, rfl⟩) | (go_at_call 15; refine (awake_any _).mono ?_; rintro e w3 ⟨rfl, hb3⟩))
  go_ret
  exact ⟨rfl, bnext (bnext hb1 hb2) hb3⟩

theorem numWide_walk (a : Int) (w0 : (Lit.int .u64 a).wf = true) (b : Int) (w1 : (Lit.int .u64 b).wf = true) (width : Int) (w2 : (Lit.int .i64 width).wf = true) (s : ByteArray) (w3 : s.size ≤ maxLen) (w : World) :
    Calls Try.prog 8 #[.int .u64 a, .int .u64 b, .int .i64 width, .string s] w fun e w' => e = .returned (.bool true) ∧ Below w.heap.size w w' := by
  by_cases hs : 100 < s.size
  · exact numWide_big a b width s w hs
  · by_cases hw : width < 1 ∨ 8 < width
    · exact numWide_no a b width s w (by omega) hw
    · obtain ⟨a, rfl, ha⟩ := u64_nat w0
      obtain ⟨b, rfl, hb⟩ := u64_nat w1
      obtain ⟨m, rfl⟩ := Int.eq_ofNat_of_zero_le (show 0 ≤ width by omega)
      exact numWide_yes a b m ha hb s w (by omega) (by omega) (by omega)
end Go.Proofs.Ytnfghgkdedmphaa
