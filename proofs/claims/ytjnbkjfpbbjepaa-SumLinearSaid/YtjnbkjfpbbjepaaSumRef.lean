/-
  The document's own answers of layer 2 (wapentakeref02) walked.
-/
import Derived.Test.YtjnbkjfpbbjepaaSumBase
namespace Go.Proofs.Ytjnbkjfpbbjepaa
open Go.RowKit

theorem bits_next (k r : Nat) : Cr.bits (k + 1) r = Cr.bit (Cr.bits k r) := by rw [Cr.bits_add k 1 r]; rfl
theorem xorHalf (r : Nat) (h : r < 4294967296) : bits .xor .u32 ((r : Int) / 2) 2197175160 = ((r / 2 ^^^ Cr.poly : Nat) : Int) := by
  have e : (r : Int) / 2 = ((r / 2 : Nat) : Int) := by omega
  rw [e]
  exact u32_xor_nat (r / 2) 2197175160 (by omega) (by decide)
theorem bit_odd (r : Nat) (h : r % 2 = 1) : Cr.bit r = r / 2 ^^^ Cr.poly := by unfold Cr.bit; rw [if_pos h]
theorem bit_even (r : Nat) (h : ¬ r % 2 = 1) : Cr.bit r = r / 2 := by unfold Cr.bit; rw [if_neg h]

set_option maxHeartbeats 400000 in
theorem refAt_any (c : Nat) (hc : c < 256) (w : World) : Calls Try.prog 11 #[.int .u8 (c : Int)] w fun e w' => e = .returned (.int .u32 ((Cr.tab c : Nat) : Int)) ∧ w = w' := by
  go_enter Try.func11, Try.ntmps11
  go_wp2
  go_loop [3, 4, 5] (fun r k _ => ∃ (j x : Nat), j ≤ 8 ∧ k = .int .i64 (j : Int) ∧ r = .int .u32 (x : Int) ∧ x = Cr.bits j c) (fun _ k _ => 8 - (intOf k).toNat)
  case atStart => exact ⟨0, c, by omega, rfl, by simp, rfl⟩
  case round =>
    obtain ⟨j, x, hj, rfl, rfl, hx⟩ := hrel
    have hlt : x < 4294967296 := by rw [hx]; exact Cr.bits_lt j (by omega)
    have Hx := Lib.hid hx
    clear hx
    by_cases h8 : j < 8
    · by_cases h1 : x % 2 = 1
      · have d : ((x : Int) % 2 == 1) = true := by rw [beq_iff_eq]; omega
        have Hxor := Lib.hid (xorHalf x hlt)
        have Ho := Lib.hid (bit_odd x h1)
        clear h1
        go_wp2
        go_round
        case rel => exact ⟨j + 1, _, by omega, by go_num, by rw [Hxor.out], by rw [bits_next, ← Hx.out, Ho.out]⟩
        case measure => simp [intOf]; omega
      · have d : ((x : Int) % 2 == 1) = false := by rw [beq_eq_false_iff_ne]; omega
        have Ho := Lib.hid (bit_even x h1)
        clear h1
        go_wp2
        go_round
        case rel => exact ⟨j + 1, x / 2, by omega, by go_num, by go_num, by rw [bits_next, ← Hx.out, Ho.out]⟩
        case measure => simp [intOf]; omega
    · obtain rfl : j = 8 := by omega
      go_wp2
      go_ret
      exact ⟨by rw [Hx.out]; rfl, rfl⟩

theorem xor32 (a b : Nat) (ha : a < 4294967296) (hb : b < 4294967296) : bits .xor .u32 (a : Int) (b : Int) = ((a ^^^ b : Nat) : Int) := u32_xor_nat _ _ ha hb
theorem run_take (s : ByteArray) (k : Nat) (h : k < s.size) : Cr.run Cr.ones (s.data.toList.take (k + 1)) = Cr.bits 8 (Cr.run Cr.ones (s.data.toList.take k) ^^^ s[k].toNat) := by
  rw [List.take_succ_eq_append_getElem (by simpa using h), Cr.run_append]
  rfl

set_option maxHeartbeats 800000 in
theorem refOf_any (s : ByteArray) (w : World) (hs : s.size ≤ 1000000000) : Calls Try.prog 12 #[.string s] w fun e w' => e = .returned (.int .u32 ((Cr.crc s.data.toList : Nat) : Int)) ∧ w = w' := by
  go_enter Try.func12, Try.ntmps12
  go_wp2
  go_loop [3, 4, 5, 6] (fun r i _ _ => ∃ (k x : Nat), k ≤ s.size ∧ i = .int .i64 (k : Int) ∧ r = .int .u32 (x : Int) ∧ x = Cr.run Cr.ones (s.data.toList.take k)) (fun _ i _ _ => s.size - (intOf i).toNat)
  case atStart => exact ⟨0, 4294967295, Nat.zero_le _, rfl, rfl, rfl⟩
  case round =>
    obtain ⟨k, x, hk, rfl, rfl, hx⟩ := hrel
    have hlt : x < 4294967296 := by rw [hx]; exact Cr.run_lt _ (by unfold Cr.ones; omega)
    by_cases hks : k < s.size
    · have hr := run_take s k hks
      rw [← hx] at hr
      have hcl := s[k].toNat_lt
      obtain ⟨y, hy⟩ : ∃ y, y = x ^^^ s[k].toNat := ⟨_, rfl⟩
      have hyl : y < 4294967296 := by rw [hy]; exact Nat.xor_lt_two_pow (n := 32) hlt (by omega)
      have hxor : bits .xor .u32 (x : Int) (s[k].toNat : Int) = (y : Int) := by rw [hy]; exact xor32 _ _ hlt (by omega)
      rw [← hy] at hr
      have Hr := Lib.hid hr
      have Hx := Lib.hid hx
      clear hr hx hy
      go_wp2
      obtain ⟨wo, rfl⟩ : ∃ wo : World, wo = w := ⟨_, rfl⟩
      go_loop [3, 5, 6] (fun r q _ => ∃ (j z : Nat), j ≤ 8 ∧ q = .int .i64 (j : Int) ∧ r = .int .u32 (z : Int) ∧ z = Cr.bits j y) (fun _ q _ => 8 - (intOf q).toNat)
      case atStart => exact ⟨0, y, by omega, rfl, rfl, rfl⟩
      case round =>
        obtain ⟨j, z, hj, rfl, rfl, hz⟩ := hrel
        have hzl : z < 4294967296 := by rw [hz]; exact Cr.bits_lt j hyl
        have Hz := Lib.hid hz
        clear hz hxor
        by_cases h8 : j < 8
        · by_cases h1 : z % 2 = 1
          · have d : ((z : Int) % 2 == 1) = true := by rw [beq_iff_eq]; omega
            have Hxor := Lib.hid (xorHalf z hzl)
            have Ho := Lib.hid (bit_odd z h1)
            clear h1
            go_wp2
            go_round
            case rel => exact ⟨j + 1, _, by omega, by go_num, by rw [Hxor.out], by rw [bits_next, ← Hz.out, Ho.out]⟩
            case measure => simp [intOf]; omega
          · have d : ((z : Int) % 2 == 1) = false := by rw [beq_eq_false_iff_ne]; omega
            have Ho := Lib.hid (bit_even z h1)
            clear h1
            go_wp2
            go_round
            case rel => exact ⟨j + 1, z / 2, by omega, by go_num, by go_num, by rw [bits_next, ← Hz.out, Ho.out]⟩
            case measure => simp [intOf]; omega
        · obtain rfl : j = 8 := by omega
          go_wp2
          go_round
          case rel => exact ⟨k + 1, z, by omega, by go_num, rfl, by rw [Hr.out, Hz.out]⟩
          case measure => simp [intOf]; omega
    · obtain rfl : k = s.size := by omega
      have hfin : bits .xor .u32 (x : Int) 4294967295 = ((Cr.crc s.data.toList : Nat) : Int) := by
        have := xor32 x 4294967295 hlt (by omega)
        rw [show ((4294967295 : Nat) : Int) = 4294967295 from rfl] at this
        rw [this, hx, Lib.size_eq, List.take_length]; rfl
      have Hfin := Lib.hid hfin
      clear hfin hx
      go_wp2
      go_ret
      exact ⟨by rw [← Hfin.out]; rfl, rfl⟩
end Go.Proofs.Ytjnbkjfpbbjepaa
