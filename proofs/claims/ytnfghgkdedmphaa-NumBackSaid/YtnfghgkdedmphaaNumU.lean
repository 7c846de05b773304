/-
  num.U and num.ReadU walked: numbers of a width.
-/
import Derived.Test.YtnfghgkdedmphaaNumPut
namespace Go.Proofs.Ytnfghgkdedmphaa
open Go.RowKit

theorem byte_of (n : Nat) : ((Nm.b8 (n % 256)).toNat : Int) = (n : Int) % 256 := by
  rw [Nm.b8_toNat _ (by omega)]; omega
theorem div_pow (n k : Nat) : n / 256 ^ k / 256 = n / 256 ^ (k + 1) := by rw [Nat.div_div_eq_div_mul, Nat.pow_succ]

/-- What the row holds when k bytes are laid. -/
def laid (m k n : Nat) : List UInt8 := List.replicate (m - k) 0 ++ Nm.wid k n
theorem laid_length (m k n : Nat) (h : k ≤ m) : (laid m k n).length = m := by simp [laid, Nm.wid_length]; omega
theorem laid_step (m k n : Nat) (h : k < m) : (bc (laid m k n)).set (m - 1 - k) (.int .u8 ((n / 256 ^ k : Nat) % 256)) = bc (laid m (k + 1) n) := by
  have e1 : m - k = (m - 1 - k) + 1 := by omega
  have e2 : m - (k + 1) = m - 1 - k := by omega
  have e3 : laid m k n = List.replicate (m - 1 - k) 0 ++ (0 :: Nm.wid k n) := by
    unfold laid; rw [e1, List.replicate_succ', List.append_assoc]; rfl
  have e4 : laid m (k + 1) n = List.replicate (m - 1 - k) 0 ++ (Nm.b8 (n / 256 ^ k % 256) :: Nm.wid k n) := by
    unfold laid; rw [e2]; rfl
  have e5 : (bc (List.replicate (m - 1 - k) (0 : UInt8))).length = m - 1 - k := by simp [bc]
  rw [e3, e4, bc_append, bc_append, List.set_append_right _ _ (by omega), e5, Nat.sub_self]
  congr 1
  show Value.int .u8 _ :: _ = Value.int .u8 _ :: _
  rw [byte_of]

set_option maxHeartbeats 400000 in
theorem U_no (n width : Int) (w : World) (h : width < 1 ∨ 8 < width) : Calls Try.prog 12 #[.int .u64 n, .int .i64 width] w fun e w' => e = .returned (.string ⟨#[]⟩) ∧ w = w' := by
  have hb : decide (1 ≤ width ∧ width ≤ 8) = false := by simp; omega
  have Hc := Lib.hid (isWidth_any width)
  go_enter Try.func12, Try.ntmps12
  go_wp2_with (go_at_call 23; refine (Hc.out _).mono ?_; rw [hb]; rintro e w' ⟨rfl, rfl⟩)
  go_ret
  exact ⟨rfl, rfl⟩

set_option maxHeartbeats 400000 in
theorem U_any (n m : Nat) (w : World) (h1 : 1 ≤ m) (h2 : m ≤ 8) : Calls Try.prog 12 #[.int .u64 (n : Int), .int .i64 (m : Int)] w (RetS (Nm.wid m n) w) := by
  obtain ⟨i0, hi, hz0, hz1, hz2⟩ := info_parts Try.infoByte
  have hb : decide (1 ≤ (m : Int) ∧ (m : Int) ≤ 8) = true := by simp; omega
  have Hb := Lib.hid hb
  clear hb
  have Hc := Lib.hid (isWidth_any (m : Int))
  go_enter Try.func12, Try.ntmps12
  go_wp2_with (first | (go_at_call 23; refine (Hc.out _).mono ?_; rw [Hb.out]; rintro e w' ⟨rfl, rfl⟩) | (at_make; refine wpList_make_full _ rfl _ _ 46 rfl w.heap.size 5 i0 (.int .u8 0) 1 Try.underlying46 hi hz0 hz1 .i64 .i64 (m : Int) (m : Int) m rfl rfl rfl rfl (by rw [hz2]; omega) (by simp only [maxLen]; omega) (Nat.le_refl _) ?_; intro w1 ho1 hg1))
  have hb1 : Below w.heap.size w w1 := (Below.refl _ _).grown hg1 (Nat.le_refl _) (by simp)
  have ho0 : OwnB w1 w.heap.size (.slice (some ⟨w.heap.size, 0, none⟩) m m) (laid m 0 n) := by
    unfold OwnB
    rw [laid_length _ _ _ (Nat.zero_le _)]
    have e : bc (laid m 0 n) = (madeCells (Value.int .u8 0).cells (m * 1)).toList := by
      show _ = (madeCells #[Value.int .u8 0] (m * 1)).toList
      rw [toList_madeCells_one]; simp [laid, bc, Nm.wid]
    rw [e]; exact ho1
  clear ho1 hg1
  go_loopw [0, 6] (fun x i wr => ∃ k : Nat, k ≤ m ∧ i = .int .i64 ((m : Int) - 1 - k) ∧ x = .int .u64 ((n / 256 ^ k : Nat) : Int) ∧ OwnB wr w.heap.size (.slice (some ⟨w.heap.size, 0, none⟩) m m) (laid m k n) ∧ Below w.heap.size w wr) (fun _ i _ => (intOf i + 1).toNat)
  case atStart => exact ⟨0, Nat.zero_le _, by simp, by simp, ho0, hb1⟩
  case round =>
    obtain ⟨k, hk, rfl, rfl, ho, hb⟩ := hrel
    have hll := laid_length m k n hk
    by_cases hlt : k < m
    · have how := ho
      unfold OwnB at how
      rw [hll] at how
      have hcell := World.ownsRow.cellAt how (m - 1 - k) (by omega)
      have hfro := World.ownsRow.frozenAt how (m - 1 - k)
      have hst := (World.ownsRow.stored how (m - 1 - k) (.int .u8 ((n / 256 ^ k : Nat) % 256)))
      rw [laid_step m k n hlt] at hst
      obtain ⟨u0, hu0⟩ : ∃ u0, (bc (laid m k n))[m - 1 - k]? = some u0 := ⟨_, List.getElem?_eq_getElem (by rw [bc_length, hll]; omega)⟩
      rw [hu0] at hcell
      have Hst := Lib.hid hst
      have Hdv := Lib.hid (div_pow n k)
      clear hst hu0 how
      have Hll := Lib.hid hll
      clear hll
      obtain ⟨q, hq⟩ : ∃ q, q = n / 256 ^ k := ⟨_, rfl⟩
      rw [← hq] at Hst Hdv ⊢
      have Hq := Lib.hid hq
      clear hq
      have hix : (m : Int) - 1 - k = ((m - 1 - k : Nat) : Int) := by omega
      go_wp2
      go_roundw
      case rel =>
        refine ⟨k + 1, by omega, by go_num, ?_, ?_, hb.setCell (p := ⟨w.heap.size, m - 1 - k, none⟩) (Nat.le_refl _) _⟩
        · have := Hdv.out
          have e : (q : Int) / 256 = ((q / 256 : Nat) : Int) := by omega
          rw [e, this]
        · unfold OwnB
          rw [laid_length m (k + 1) n (by omega)]
          exact Hst.out.1
      case measure => simp [intOf]; omega
    · obtain rfl : k = m := by omega
      have hcv := run_string_own ho
      have e : laid k k n = Nm.wid k n := by simp [laid]
      rw [e] at hcv
      go_wp2
      go_ret
      exact ⟨rfl, hb⟩

/-! ReadU. -/
theorem wrap_u64_nat (x : Nat) (h : x < Nm.top) : IntKind.u64.wrap (x : Int) = (x : Int) := by
  unfold Nm.top at h
  have e : IntKind.u64.wrap (x : Int) = (x : Int) % 18446744073709551616 := by simp [IntKind.wrap, IntKind.bits, IntKind.signed]
  rw [e]; omega
theorem or_join (a c i : Nat) (hi : i ≤ 8) (hc : c < 2 ^ i) (h : a * 2 ^ i + c < Nm.top) : bits .or .u64 (IntKind.u64.wrap ((a * 2 ^ i : Nat) : Int)) (IntKind.u64.wrap (c : Int)) = ((a * 2 ^ i + c : Nat) : Int) := by
  have h2 : 2 ^ i ≤ 2 ^ 8 := Nat.pow_le_pow_right (by omega) hi
  have hc2 : c < Nm.top := by unfold Nm.top; omega
  rw [wrap_u64_nat _ (by omega), wrap_u64_nat _ hc2, u64_or_nat _ _ (by unfold Nm.top at h; omega) (by unfold Nm.top at hc2; omega), nat_join i _ _ (Nat.mul_mod_left _ _) hc]
theorem or_join8 (a : Nat) (c : UInt8) (h : a * 256 + c.toNat < Nm.top) : bits .or .u64 (IntKind.u64.wrap ((a : Int) * 256)) (IntKind.u64.wrap (c.toNat : Int)) = ((a * 256 + c.toNat : Nat) : Int) := by
  have := or_join a c.toNat 8 (by omega) c.toNat_lt h
  rw [← this]; congr 2
theorem take_snoc (s : ByteArray) (k : Nat) (h : k < s.size) : s.data.toList.take (k + 1) = s.data.toList.take k ++ [s[k]] := by
  rw [List.take_succ_eq_append_getElem (by simpa using h)]; rfl

set_option maxHeartbeats 400000 in
theorem ReadU_no (s : ByteArray) (width : Int) (w : World) (h : width < 1 ∨ 8 < width ∨ (s.size : Int) < width) :
    Calls Try.prog 9 #[.string s, .int .i64 width] w fun e w' => e = .returned (.tuple #[.int .u64 0, .bool false]) ∧ w = w' := by
  have Hc := Lib.hid (isWidth_any width)
  by_cases hw : 1 ≤ width ∧ width ≤ 8
  · have hb : decide (1 ≤ width ∧ width ≤ 8) = true := by simp; omega
    have Hb := Lib.hid hb
    clear hb
    have hlt : (s.size : Int) < width := by omega
    go_enter Try.func9, Try.ntmps9
    go_wp2_with (go_at_call 23; refine (Hc.out _).mono ?_; rw [Hb.out]; rintro e w' ⟨rfl, rfl⟩)
    go_ret2
    exact ⟨rfl, rfl⟩
  · have hb : decide (1 ≤ width ∧ width ≤ 8) = false := by simpa using hw
    have Hb := Lib.hid hb
    clear hb hw
    go_enter Try.func9, Try.ntmps9
    go_wp2_with (go_at_call 23; refine (Hc.out _).mono ?_; rw [Hb.out]; rintro e w' ⟨rfl, rfl⟩)
    go_ret2
    exact ⟨rfl, rfl⟩

set_option maxHeartbeats 400000 in
theorem ReadU_any (s : ByteArray) (m : Nat) (w : World) (hs : s.size ≤ 9223372036854775807) (h1 : 1 ≤ m) (h2 : m ≤ 8) (hm : m ≤ s.size) :
    Calls Try.prog 9 #[.string s, .int .i64 (m : Int)] w fun e w' => e = .returned (.tuple #[.int .u64 (Nm.val8 (s.data.toList.take m) : Nat), .bool true]) ∧ w = w' := by
  have Hc := Lib.hid (isWidth_any (m : Int))
  have hb : decide (1 ≤ (m : Int) ∧ (m : Int) ≤ 8) = true := by simp; omega
  have Hb := Lib.hid hb
  clear hb
  have hlt : ¬ ((s.size : Int) < (m : Int)) := by omega
  go_enter Try.func9, Try.ntmps9
  go_wp2_with (go_at_call 23; refine (Hc.out _).mono ?_; rw [Hb.out]; rintro e w' ⟨rfl, rfl⟩)
  go_loop [4, 6, 17] (fun x _ i => ∃ k : Nat, k ≤ m ∧ i = .int .i64 k ∧ x = .int .u64 (Nm.val8 (s.data.toList.take k) : Nat)) (fun _ _ i => m - (intOf i).toNat)
  case atStart => exact ⟨0, Nat.zero_le _, rfl, rfl⟩
  case round =>
    obtain ⟨k, hk, rfl, rfl⟩ := hrel
    have hvl := Nm.val8_lt (s.data.toList.take k)
    by_cases hlt : k < m
    · have hks : k < s.size := by omega
      have hj : Nm.val8 (s.data.toList.take k) * 256 + s[k].toNat < Nm.top := by
        have h3 := Nm.val8_lt (s.data.toList.take (k + 1))
        rw [take_snoc s k hks, Nm.val8_snoc] at h3
        have h4 : (s.data.toList.take k ++ [s[k]]).length ≤ 8 := by simp; omega
        have h5 := Nat.pow_le_pow_right (n := 256) (by omega) h4
        unfold Nm.top; omega
      have Hj := Lib.hid (or_join8 _ _ hj)
      have Hts := Lib.hid (take_snoc s k hks)
      clear hj hvl
      go_wp2
      go_round
      case rel => exact ⟨k + 1, by omega, by go_num, by rw [Hj.out, Hts.out, Nm.val8_snoc]⟩
      case measure => simp [intOf]; omega
    · obtain rfl : k = m := by omega
      clear hvl
      go_wp2
      go_ret2
      exact ⟨rfl, rfl⟩
end Go.Proofs.Ytnfghgkdedmphaa
