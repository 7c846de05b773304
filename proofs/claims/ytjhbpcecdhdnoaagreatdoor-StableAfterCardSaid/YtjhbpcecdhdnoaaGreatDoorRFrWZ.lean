/-
  A token's eight cells as a text; a byte as a number of width 1.
  num.U walked: numbers of a width.
  num.U and num.ReadU walked: numbers of a width.
  num.ReadV, num.ReadS and strings.Clone walked.
  num.S walked: the rows of strings.
-/
import Derived.Test.YtjhbpcecdhdnoaaGreatDoorRCmdZ
import Derived.Test.YtjhbpcecdhdnoaaGreatDoorRWords
import Derived.Laws.MakeOwn
import Derived.Lib.UnsafeStr
import Derived.Lib.Strings
import Derived.Lib.BufferWrite
set_option linter.unusedSimpArgs false
set_option linter.unusedVariables false
namespace Go.Proofs.YtjhbpcecdhdnoaaGreatDoor
open Go.RowKit
theorem wid1 (n : Nat) : Nm.wid 1 n = [Nm.b8 (n % 256)] := by simp [Nm.wid]
theorem one_wid (n : Nat) (h : n < 256) : Nm.wid 1 n = Cm.one n := by
  rw [wid1, Nat.mod_eq_of_lt h]; rfl
theorem tok_text (W : World) (g off : Nat) (x : Og.Tk) (h0 : W.cell? ⟨g, off, none⟩ = some (.int .u8 (x.a0.toNat : Int))) (h1 : W.cell? ⟨g, off + 1, none⟩ = some (.int .u8 (x.a1.toNat : Int))) (h2 : W.cell? ⟨g, off + 2, none⟩ = some (.int .u8 (x.a2.toNat : Int))) (h3 : W.cell? ⟨g, off + 3, none⟩ = some (.int .u8 (x.a3.toNat : Int))) (h4 : W.cell? ⟨g, off + 4, none⟩ = some (.int .u8 (x.a4.toNat : Int))) (h5 : W.cell? ⟨g, off + 5, none⟩ = some (.int .u8 (x.a5.toNat : Int))) (h6 : W.cell? ⟨g, off + 6, none⟩ = some (.int .u8 (x.a6.toNat : Int))) (h7 : W.cell? ⟨g, off + 7, none⟩ = some (.int .u8 (x.a7.toNat : Int))) :
    (convert 141 9 (.slice (some ⟨g, off, none⟩) 8 8)).run Tryz.prog W = .ok (.string ⟨x.l.toArray⟩) W := by
  refine run_convert_bytes_back W 141 9 5 ⟨g, off, none⟩ 8 x.l Tryz.underlying141 Tryz.underlying5 Tryz.underlying9 (fun j hj => ?_)
  have hj : j < 8 := hj
  have : j = 0 ∨ j = 1 ∨ j = 2 ∨ j = 3 ∨ j = 4 ∨ j = 5 ∨ j = 6 ∨ j = 7 := by omega
  rcases this with rfl | rfl | rfl | rfl | rfl | rfl | rfl | rfl
  · exact h0
  · exact h1
  · exact h2
  · exact h3
  · exact h4
  · exact h5
  · exact h6
  · exact h7
end Go.Proofs.YtjhbpcecdhdnoaaGreatDoor
namespace Go.Proofs.YtjhbpcecdhdnoaaGreatDoor
open Go.RowKit

theorem isWidth_any (n : Int) (w : World) : Calls Tryz.prog 202 #[.int .i64 n] w fun e w' => e = .returned (.bool (decide (1 ≤ n ∧ n ≤ 8))) ∧ w = w' := by
  by_cases h1 : 1 ≤ n
  · by_cases h2 : n ≤ 8
    · go_enter Tryz.func202, Tryz.ntmps202
      go_wp2
      go_ret
      exact ⟨by simp [h1, h2], rfl⟩
    · go_enter Tryz.func202, Tryz.ntmps202
      go_wp2
      go_ret
      exact ⟨by simp [h2], rfl⟩
  · go_enter Tryz.func202, Tryz.ntmps202
    go_wp2
    go_ret
    exact ⟨by simp; omega, rfl⟩

theorem pow7 (k : Nat) : (2 : Nat) ^ (7 * k) = 128 ^ k := by rw [Nat.pow_mul]
theorem shr7 (n k : Nat) : (n : Int) / 2 ^ (7 * k) = ((n / 128 ^ k : Nat) : Int) := by
  rw [show ((2 : Int) ^ (7 * k)) = ((128 ^ k : Nat) : Int) by rw [← pow7]; simp]; omega
theorem test7 (n k : Nat) (h : n < Nm.top) : (127 < (n : Int) / 2 ^ (7 * k)) ↔ k < Nm.cnt n := by
  rw [shr7, ← Nm.cnt_test n k h]; omega

theorem or128 : ∀ y : Fin 256, (y.val ||| 128) = y.val % 128 + 128 := by decide +kernel
theorem and127 (y : Nat) : (y &&& 127) = y % 128 := Nat.and_two_pow_sub_one_eq_mod y 7
theorem bits_hi (n k : Nat) : bits .or .u8 ((n : Int) / 2 ^ (7 * k) % 256) 128 = ((Nm.b8 (n / 128 ^ k % 128 + 128)).toNat : Int) := by
  rw [Nm.digit_hi, shr7, u8_or _ _ (by omega) (by omega) (by omega) (by omega)]
  have e : (((n / 128 ^ k : Nat) : Int) % 256).toNat = n / 128 ^ k % 256 := by omega
  rw [e, show (128 : Int).toNat = 128 from rfl, or128 ⟨n / 128 ^ k % 256, by omega⟩]
  show (((n / 128 ^ k % 256) % 128 + 128 : Nat) : Int) = _
  omega
theorem bits_lo (n : Nat) : bits .and .u8 ((n : Int) % 256) 127 = ((Nm.b8 (n % 128)).toNat : Int) := by
  rw [Nm.digit_lo, u8_and _ _ (by omega) (by omega) (by omega) (by omega)]
  rw [show (127 : Int).toNat = 127 from rfl, and127]
  omega

set_option maxHeartbeats 400000 in
set_option maxRecDepth 100000 in
theorem appendGroups_any (n : Nat) (hn : n < Nm.top) (base : Nat) (v : Value) (l : List UInt8) (w : World) (hown : OwnB w base v l) (hbase : base ≤ w.heap.size) (hl : l.length ≤ 100000000000) :
    Calls Tryz.prog 203 #[v, .int .u64 (n : Int)] w (RetB base (l ++ Nm.grp n) w) := by
  obtain ⟨i0, hi, hz0, hz1, hz2⟩ := info_parts Tryz.infoByte
  have hcs := (Nm.cnt_spec n hn).2.2
  have hn' := Lib.hid hn
  clear hn
  go_enter Tryz.func203, Tryz.ntmps203
  go_wp2
  go_loop [5] (fun s => ∃ k : Nat, k ≤ Nm.cnt n ∧ s = .int .u64 (7 * k : Nat)) (fun s => 64 - (intOf s).toNat)
  case atStart => exact ⟨0, Nat.zero_le _, rfl⟩
  case round =>
    obtain ⟨k, hk, rfl⟩ := hrel
    have ht := test7 n k hn'.out
    by_cases hlt : k < Nm.cnt n
    · have hd := ht.2 hlt
      clear ht
      go_wp2
      go_round
      case rel => exact ⟨k + 1, by omega, by go_num⟩
      case measure => simp [intOf]; omega
    · have hd : (n : Int) / 2 ^ (7 * k) ≤ 127 := by
        have : ¬ (127 < (n : Int) / 2 ^ (7 * k)) := fun h => hlt (ht.1 h)
        omega
      obtain rfl : k = Nm.cnt n := by omega
      clear ht
      have hdb : decide (127 < (n : Int) / 2 ^ (7 * Nm.cnt n)) = false := by simp; omega
      go_wp2
      go_loopw [0, 5] (fun v s wr => ∃ (k : Nat) (pre : List UInt8), k ≤ Nm.cnt n ∧ s = .int .u64 (7 * k : Nat) ∧ pre ++ Nm.hi k n = Nm.hi (Nm.cnt n) n ∧ OwnB wr base v (l ++ pre) ∧ Below base w wr) (fun _ s _ => (intOf s).toNat)
      case atStart => exact ⟨Nm.cnt n, [], Nat.le_refl _, rfl, by simp, by simpa using hown, Below.refl _ _⟩
      case round =>
        obtain ⟨k, pre, hk, rfl, hpre, ho, hb⟩ := hrel
        have hpl : pre.length + k = Nm.cnt n := by
          have := congrArg List.length hpre
          simpa [Nm.hi_length] using this
        have hpl1 : pre.length ≤ 9 := by omega
        have Hpl := Lib.hid hpl
        clear hpl
        have Hpre := Lib.hid hpre
        clear hpre hd hdb
        have hbs := hb.size
        rcases k with _ | k
        · have Hlo := Lib.hid (bits_lo n)
          go_wp2_with (at_builtin; refine wpList_append_own _ rfl (.tmp 24) (.tmp 28) 141 rfl base 5 i0 (.int .u8 0) 1 1 Tryz.underlying141 hi hz0 hz1 hz2 rfl (by decide) u0 _ _ rfl (World.ownsRow.alloc ho _) ⟨wr.heap.size, 0, none⟩ 1 1 [_] rfl rfl (cell_one_new _ _ _) (fun u hu => by simp at hu; subst hu; rfl) (by simp only [maxLen, List.length_append]; omega) (by simp only [List.length_append]; omega) (by simp; omega) ?_; intro v' w1 ho1 hg1 _)
          go_ret
          have R := own_step Hlo.out ho hb (by omega) ho1 hg1
          refine ⟨v', rfl, ?_, R.2⟩
          have e : l ++ pre ++ [Nm.b8 (n % 128)] = l ++ Nm.grp n := by
            have := Hpre.out
            simp only [Nm.hi, List.append_nil] at this
            rw [this, Nm.grp, List.append_assoc]
          rw [← e]
          exact R.1
        · have Hhi := Lib.hid (bits_hi n (k + 1))
          have hs7 : (7 * (k + 1) : Int) ≤ 63 := by omega
          go_wp2_with (at_builtin; refine wpList_append_own _ rfl (.tmp 16) (.tmp 22) 141 rfl base 5 i0 (.int .u8 0) 1 1 Tryz.underlying141 hi hz0 hz1 hz2 rfl (by decide) u0 _ _ rfl (World.ownsRow.alloc ho _) ⟨wr.heap.size, 0, none⟩ 1 1 [_] rfl rfl (cell_one_new _ _ _) (fun u hu => by simp at hu; subst hu; rfl) (by simp only [maxLen, List.length_append]; omega) (by simp only [List.length_append]; omega) (by simp; omega) ?_; intro v' w1 ho1 hg1 _)
          have R := own_step Hhi.out ho hb (by omega) ho1 hg1
          clear ho1 hg1
          go_roundw
          case rel => exact ⟨k, pre ++ [Nm.b8 (n / 128 ^ (k + 1) % 128 + 128)], by omega, by go_num, by have := Hpre.out; rw [Nm.hi] at this; simpa using this, by simpa using R.1, R.2⟩
          case measure => simp [intOf]; omega
set_option maxHeartbeats 400000 in
theorem V_any (ns : List Nat) (hns : ∀ n ∈ ns, n < Nm.top) (A : Option Addr) (cap : Nat) (w : World) (hl : Lies w A (uc ns)) (hlen : ns.length ≤ 1000000000) :
    Calls Tryz.prog 147 #[.slice A ns.length cap] w (RetS (vs ns) w) := by
  have Hns := Lib.hid hns
  clear hns
  go_enter Tryz.func147, Tryz.ntmps147
  go_wp2
  go_loopw [3, 8] (fun v i wr => ∃ k : Nat, k ≤ ns.length ∧ i = .int .i64 k ∧ OwnB wr w.heap.size v (vs (ns.take k)) ∧ Below w.heap.size w wr) (fun _ i _ => ns.length - (intOf i).toNat)
  case atStart => exact ⟨0, Nat.zero_le _, rfl, OwnB.nil _ _, Below.refl _ _⟩
  case round =>
    obtain ⟨k, hk, rfl, ho, hb⟩ := hrel
    have hvl : (vs (ns.take k)).length ≤ 10 * k := by
      have := vs_len (ns.take k) (fun x hx => Hns.out x (List.mem_of_mem_take hx))
      simp only [List.length_take] at this
      omega
    have hbs := hb.size
    by_cases hlt : k < ns.length
    · rcases hl with hl | ⟨b, off, rfl, hlb, hc⟩
      · exfalso; have := congrArg List.length hl; simp [uc] at this; simp [this] at hlt
      · have hcell : wr.cell? ⟨b, off + k, none⟩ = some (.int .u64 (ns[k] : Nat)) := (hb.cell (p := ⟨b, off + k, none⟩) hlb).trans (hc k _ (by simp [uc, hlt]))
        have hnk : ns[k] < Nm.top := Hns.out _ (List.getElem_mem hlt)
        have Hnk := Lib.hid hnk
        have Hts := Lib.hid (vs_take ns k hlt)
        clear hnk hc
        go_wp2_with (go_at_call 203; refine (appendGroups_any _ Hnk.out w.heap.size _ _ _ ho hbs (by omega)).mono ?_; rintro e w1 ⟨v', rfl, ho1, hb1⟩)
        go_roundw
        case rel => exact ⟨k + 1, by omega, by go_num, by rw [Hts.out]; exact ho1, hb.trans hb1⟩
        case measure => simp [intOf]; omega
    · obtain rfl : k = ns.length := by omega
      have hcv := run_string_own ho
      rw [List.take_length] at hcv
      go_wp2
      go_ret
      exact ⟨rfl, hb⟩
end Go.Proofs.YtjhbpcecdhdnoaaGreatDoor
namespace Go.Proofs.YtjhbpcecdhdnoaaGreatDoor
open Go.RowKit
def laid (m k n : Nat) : List UInt8 := List.replicate (m - k) 0 ++ Nm.wid k n
theorem laid_length (m k n : Nat) (h : k ≤ m) : (laid m k n).length = m := by simp [laid, Nm.wid_length]; omega
theorem laid_step (m k n : Nat) (h : k < m) : (bc (laid m k n)).set (m - 1 - k) (.int .u8 ((n / 256 ^ k : Nat) % 256)) = bc (laid m (k + 1) n) := by
  have e1 : m - k = (m - 1 - k) + 1 := by omega
  have e2 : m - (k + 1) = m - 1 - k := by omega
  have e3 : laid m k n = List.replicate (m - 1 - k) 0 ++ (0 :: Nm.wid k n) := by
    unfold laid; rw [e1, List.replicate_succ', List.append_assoc]; rfl
  have e4 : laid m (k + 1) n = List.replicate (m - 1 - k) 0 ++ (Nm.b8 (n / 256 ^ k % 256) :: Nm.wid k n) := by
    unfold laid; rw [e2]; rfl
  have e5 : (bc (List.replicate (m - 1 - k) (0 : UInt8))).length = m - 1 - k := by simp [bc]
  rw [e3, e4, bc_append, bc_append, List.set_append_right _ _ (by omega), e5, Nat.sub_self]
  congr 1
  show Value.int .u8 _ :: _ = Value.int .u8 _ :: _
  rw [byte_of]

set_option maxHeartbeats 400000 in
set_option maxRecDepth 100000 in
theorem U_any (n m : Nat) (w : World) (h1 : 1 ≤ m) (h2 : m ≤ 8) : Calls Tryz.prog 146 #[.int .u64 (n : Int), .int .i64 (m : Int)] w (RetS (Nm.wid m n) w) := by
  obtain ⟨i0, hi, hz0, hz1, hz2⟩ := info_parts Tryz.infoByte
  have hb : decide (1 ≤ (m : Int) ∧ (m : Int) ≤ 8) = true := by simp; omega
  have Hb := Lib.hid hb
  clear hb
  have Hc := Lib.hid (isWidth_any (m : Int))
  go_enter Tryz.func146, Tryz.ntmps146
  go_wp2_with (first | (go_at_call 202; refine (Hc.out _).mono ?_; rw [Hb.out]; rintro e w' ⟨rfl, rfl⟩) | (at_make; refine wpList_make_full _ rfl _ _ 141 rfl w.heap.size 5 i0 (.int .u8 0) 1 Tryz.underlying141 hi hz0 hz1 .i64 .i64 (m : Int) (m : Int) m rfl rfl rfl rfl (by rw [hz2]; omega) (by simp only [maxLen]; omega) (Nat.le_refl _) ?_; intro w1 ho1 hg1))
  have hb1 : Below w.heap.size w w1 := (Below.refl _ _).grown hg1 (Nat.le_refl _) (by simp)
  have ho0 : OwnB w1 w.heap.size (.slice (some ⟨w.heap.size, 0, none⟩) m m) (laid m 0 n) := by
    unfold OwnB
    rw [laid_length _ _ _ (Nat.zero_le _)]
    have e : bc (laid m 0 n) = (madeCells (Value.int .u8 0).cells (m * 1)).toList := by
      show _ = (madeCells #[Value.int .u8 0] (m * 1)).toList
      rw [toList_madeCells_one]; simp [laid, bc, Nm.wid]
    rw [e]; exact ho1
  clear ho1 hg1
  go_loopw [0, 6] (fun x i wr => ∃ k : Nat, k ≤ m ∧ i = .int .i64 ((m : Int) - 1 - k) ∧ x = .int .u64 ((n / 256 ^ k : Nat) : Int) ∧ OwnB wr w.heap.size (.slice (some ⟨w.heap.size, 0, none⟩) m m) (laid m k n) ∧ Below w.heap.size w wr) (fun _ i _ => (intOf i + 1).toNat)
  case atStart => exact ⟨0, Nat.zero_le _, by simp, by simp, ho0, hb1⟩
  case round =>
    obtain ⟨k, hk, rfl, rfl, ho, hb⟩ := hrel
    have hll := laid_length m k n hk
    by_cases hlt : k < m
    · have how := ho
      unfold OwnB at how
      rw [hll] at how
      have hcell := World.ownsRow.cellAt how (m - 1 - k) (by omega)
      have hfro := World.ownsRow.frozenAt how (m - 1 - k)
      have hst := (World.ownsRow.stored how (m - 1 - k) (.int .u8 ((n / 256 ^ k : Nat) % 256)))
      rw [laid_step m k n hlt] at hst
      obtain ⟨u0, hu0⟩ : ∃ u0, (bc (laid m k n))[m - 1 - k]? = some u0 := ⟨_, List.getElem?_eq_getElem (by rw [bc_length, hll]; omega)⟩
      rw [hu0] at hcell
      have Hst := Lib.hid hst
      have Hdv := Lib.hid (div_pow n k)
      clear hst hu0 how
      have Hll := Lib.hid hll
      clear hll
      obtain ⟨q, hq⟩ : ∃ q, q = n / 256 ^ k := ⟨_, rfl⟩
      rw [← hq] at Hst Hdv ⊢
      have Hq := Lib.hid hq
      clear hq
      have hix : (m : Int) - 1 - k = ((m - 1 - k : Nat) : Int) := by omega
      go_wp2
      go_roundw
      case rel =>
        refine ⟨k + 1, by omega, by go_num, ?_, ?_, hb.setCell (p := ⟨w.heap.size, m - 1 - k, none⟩) (Nat.le_refl _) _⟩
        · have := Hdv.out
          have e : (q : Int) / 256 = ((q / 256 : Nat) : Int) := by omega
          rw [e, this]
        · unfold OwnB
          rw [laid_length m (k + 1) n (by omega)]
          exact Hst.out.1
      case measure => simp [intOf]; omega
    · obtain rfl : k = m := by omega
      have hcv := run_string_own ho
      have e : laid k k n = Nm.wid k n := by simp [laid]
      rw [e] at hcv
      go_wp2
      go_ret
      exact ⟨rfl, hb⟩

end Go.Proofs.YtjhbpcecdhdnoaaGreatDoor
namespace Go.Proofs.YtjhbpcecdhdnoaaGreatDoor
open Go.RowKit
theorem or_join (a c i : Nat) (hi : i ≤ 8) (hc : c < 2 ^ i) (h : a * 2 ^ i + c < Nm.top) : bits .or .u64 (IntKind.u64.wrap ((a * 2 ^ i : Nat) : Int)) (IntKind.u64.wrap (c : Int)) = ((a * 2 ^ i + c : Nat) : Int) := by
  have h2 : 2 ^ i ≤ 2 ^ 8 := Nat.pow_le_pow_right (by omega) hi
  have hc2 : c < Nm.top := by unfold Nm.top; omega
  rw [wrap_u64_nat _ (by omega), wrap_u64_nat _ hc2, u64_or_nat _ _ (by unfold Nm.top at h; omega) (by unfold Nm.top at hc2; omega), nat_join i _ _ (Nat.mul_mod_left _ _) hc]
theorem or_join8 (a : Nat) (c : UInt8) (h : a * 256 + c.toNat < Nm.top) : bits .or .u64 (IntKind.u64.wrap ((a : Int) * 256)) (IntKind.u64.wrap (c.toNat : Int)) = ((a * 256 + c.toNat : Nat) : Int) := by
  have := or_join a c.toNat 8 (by omega) c.toNat_lt h
  rw [← this]; congr 2
set_option maxHeartbeats 400000 in
theorem ReadU_no (s : ByteArray) (width : Int) (w : World) (h : width < 1 ∨ 8 < width ∨ (s.size : Int) < width) :
    Calls Tryz.prog 149 #[.string s, .int .i64 width] w fun e w' => e = .returned (.tuple #[.int .u64 0, .bool false]) ∧ w = w' := by
  have Hc := Lib.hid (isWidth_any width)
  by_cases hw : 1 ≤ width ∧ width ≤ 8
  · have hb : decide (1 ≤ width ∧ width ≤ 8) = true := by simp; omega
    have Hb := Lib.hid hb
    clear hb
    have hlt : (s.size : Int) < width := by omega
    go_enter Tryz.func149, Tryz.ntmps149
    go_wp2_with (go_at_call 202; refine (Hc.out _).mono ?_; rw [Hb.out]; rintro e w' ⟨rfl, rfl⟩)
    go_ret2
    exact ⟨rfl, rfl⟩
  · have hb : decide (1 ≤ width ∧ width ≤ 8) = false := by simpa using hw
    have Hb := Lib.hid hb
    clear hb hw
    go_enter Tryz.func149, Tryz.ntmps149
    go_wp2_with (go_at_call 202; refine (Hc.out _).mono ?_; rw [Hb.out]; rintro e w' ⟨rfl, rfl⟩)
    go_ret2
    exact ⟨rfl, rfl⟩

set_option maxHeartbeats 400000 in
theorem ReadU_any (s : ByteArray) (m : Nat) (w : World) (hs : s.size ≤ 9223372036854775807) (h1 : 1 ≤ m) (h2 : m ≤ 8) (hm : m ≤ s.size) :
    Calls Tryz.prog 149 #[.string s, .int .i64 (m : Int)] w fun e w' => e = .returned (.tuple #[.int .u64 (Nm.val8 (s.data.toList.take m) : Nat), .bool true]) ∧ w = w' := by
  have Hc := Lib.hid (isWidth_any (m : Int))
  have hb : decide (1 ≤ (m : Int) ∧ (m : Int) ≤ 8) = true := by simp; omega
  have Hb := Lib.hid hb
  clear hb
  have hlt : ¬ ((s.size : Int) < (m : Int)) := by omega
  go_enter Tryz.func149, Tryz.ntmps149
  go_wp2_with (go_at_call 202; refine (Hc.out _).mono ?_; rw [Hb.out]; rintro e w' ⟨rfl, rfl⟩)
  go_loop [4, 6, 17] (fun x _ i => ∃ k : Nat, k ≤ m ∧ i = .int .i64 k ∧ x = .int .u64 (Nm.val8 (s.data.toList.take k) : Nat)) (fun _ _ i => m - (intOf i).toNat)
  case atStart => exact ⟨0, Nat.zero_le _, rfl, rfl⟩
  case round =>
    obtain ⟨k, hk, rfl, rfl⟩ := hrel
    have hvl := Nm.val8_lt (s.data.toList.take k)
    by_cases hlt : k < m
    · have hks : k < s.size := by omega
      have hj : Nm.val8 (s.data.toList.take k) * 256 + s[k].toNat < Nm.top := by
        have h3 := Nm.val8_lt (s.data.toList.take (k + 1))
        rw [take_snoc s k hks, Nm.val8_snoc] at h3
        have h4 : (s.data.toList.take k ++ [s[k]]).length ≤ 8 := by simp; omega
        have h5 := Nat.pow_le_pow_right (n := 256) (by omega) h4
        unfold Nm.top; omega
      have Hj := Lib.hid (or_join8 _ _ hj)
      have Hts := Lib.hid (take_snoc s k hks)
      clear hj hvl
      go_wp2
      go_round
      case rel => exact ⟨k + 1, by omega, by go_num, by rw [Hj.out, Hts.out, Nm.val8_snoc]⟩
      case measure => simp [intOf]; omega
    · obtain rfl : k = m := by omega
      clear hvl
      go_wp2
      go_ret2
      exact ⟨rfl, rfl⟩
end Go.Proofs.YtjhbpcecdhdnoaaGreatDoor
namespace Go.Proofs.YtjhbpcecdhdnoaaGreatDoor
open Go.RowKit
theorem or_join7 (a : Nat) (c : UInt8) (h : a ≤ 144115188075855871) : bits .or .u64 ((a : Int) * 128) (IntKind.u64.wrap (bits .and .u8 (c.toNat : Int) 127)) = ((a * 128 + c.toNat % 128 : Nat) : Int) := by
  have hc := c.toNat_lt
  have e : bits .and .u8 (c.toNat : Int) 127 = ((c.toNat % 128 : Nat) : Int) := by
    rw [u8_and _ _ (by omega) (by omega) (by omega) (by omega), show (127 : Int).toNat = 127 from rfl, and127]
    simp
  rw [e]
  have := or_join a (c.toNat % 128) 7 (by omega) (by omega) (by unfold Nm.top; omega)
  rw [wrap_u64_nat (a * 2 ^ 7) (by unfold Nm.top; omega)] at this
  exact this
theorem and128 : ∀ y : Fin 256, (y.val &&& 128 = 0) ↔ y.val < 128 := by decide +kernel
theorem bits128 (c : UInt8) : (bits .and .u8 (c.toNat : Int) 128 == 0) = decide (c.toNat < 128) := by
  have hc := c.toNat_lt
  have h := and128 ⟨c.toNat, hc⟩
  rw [u8_and _ _ (by omega) (by omega) (by omega) (by omega), show (128 : Int).toNat = 128 from rfl, Int.toNat_natCast]
  rw [Bool.eq_iff_iff, beq_iff_eq, decide_eq_true_iff]
  rw [← h]
  show (((c.toNat &&& 128 : Nat) : Int) = 0) ↔ (c.toNat &&& 128) = 0
  omega

set_option maxHeartbeats 800000 in
theorem ReadV_any (s : ByteArray) (w : World) (hs : s.size ≤ 9223372036854775807) :
    Calls Tryz.prog 148 #[.string s] w fun e w' => e = .returned (rv (Nm.readV s.data.toList)) ∧ w = w' := by
  by_cases h0 : s.size = 0
  · have he : s = ⟨#[]⟩ := ByteArray.ext (Array.eq_empty_of_size_eq_zero h0)
    subst he
    go_enter Tryz.func148, Tryz.ntmps148
    go_wp2
    go_ret3
    exact ⟨rfl, rfl⟩
  · have hp : 0 < s.size := by omega
    have hne : s.toList.isEmpty = false := by
      rw [ByteArray.toList_eq, List.isEmpty_eq_false_iff]; intro e
      have := congrArg List.length e; simp at this; exact h0 (by rw [ByteArray.size, this]; rfl)
    have hd := drop_cons s 0 hp
    rw [List.drop_zero] at hd
    by_cases h1 : s[0] = 128
    · have hb : ((s[0].toNat : Int) == 128) = true := by rw [h1]; rfl
      have hr : Nm.readV s.data.toList = none := by
        unfold Nm.readV; rw [hd, h1]; rfl
      have Hr := Lib.hid hr
      clear hr hd h1
      go_enter Tryz.func148, Tryz.ntmps148
      go_wp2
      go_ret3
      exact ⟨by rw [Hr.out]; rfl, rfl⟩
    · have hb : ((s[0].toNat : Int) == 128) = false := by
        rw [beq_eq_false_iff_ne]; intro e; apply h1
        exact UInt8.toNat_inj.1 (by have : (128 : UInt8).toNat = 128 := rfl; omega)
      have hr : Nm.readV s.data.toList = Nm.rd s.data.toList 0 0 := by
        unfold Nm.readV; rw [if_neg]; rw [hd]; simpa using h1
      have Hr := Lib.hid hr
      clear hr hd h1
      go_enter Tryz.func148, Tryz.ntmps148
      go_wp2
      go_loop [2, 3, 4, 5, 15] (fun x _ _ _ i => ∃ (k a : Nat), k ≤ s.size ∧ i = .int .i64 k ∧ x = .int .u64 (a : Int) ∧ Nm.rd s.data.toList 0 0 = Nm.rd (s.data.toList.drop k) a k) (fun _ _ _ _ i => s.size - (intOf i).toNat)
      case atStart => exact ⟨0, 0, Nat.zero_le _, rfl, rfl, by simp⟩
      case round =>
        obtain ⟨k, a, hk, rfl, rfl, hrd⟩ := hrel
        have Hrd := Lib.hid hrd
        clear hrd
        by_cases hlt : k < s.size
        · have hdc := drop_cons s k hlt
          have Hdc := Lib.hid hdc
          clear hdc
          by_cases hbig : 144115188075855871 < a
          · go_wp2
            go_ret3
            exact ⟨by rw [Hr.out, Hrd.out, Hdc.out, Nm.rd, if_pos hbig]; rfl, rfl⟩
          · have Hj := Lib.hid (or_join7 a s[k] (by omega))
            have hbt := bits128 s[k]
            by_cases hc : s[k].toNat < 128
            · rw [decide_eq_true hc] at hbt
              go_wp2
              go_ret3
              exact ⟨by rw [Hr.out, Hrd.out, Hdc.out, Nm.rd, if_neg hbig, if_pos hc, rv]; exact ret_uv Hj.out (by omega), rfl⟩
            · rw [decide_eq_false hc] at hbt
              go_wp2
              go_round
              case rel => exact ⟨k + 1, a * 128 + s[k].toNat % 128, by omega, by go_num, by rw [Hj.out], by rw [Hrd.out, Hdc.out, Nm.rd, if_neg hbig, if_neg hc]⟩
              case measure => simp [intOf]; omega
        · have hdn : s.data.toList.drop k = [] := List.drop_of_length_le (by have := Lib.size_eq s; omega)
          have Hdn := Lib.hid hdn
          clear hdn
          go_wp2
          go_ret3
          exact ⟨by rw [Hr.out, Hrd.out, Hdn.out, Nm.rd]; rfl, rfl⟩


set_option maxHeartbeats 800000 in
theorem ReadS_any (s : ByteArray) (w : World) (hs : s.size ≤ 140737488355328) :
    Calls Tryz.prog 262 #[.string s] w fun e w' => e = .returned (rs (Nm.readS s.data.toList)) ∧ Below w.heap.size w w' := by
  have Hc := Lib.hid (ReadV_any s w (by omega))
  rcases hv : Nm.readV s.data.toList with _ | ⟨n, k⟩
  · have hr : Nm.readS s.data.toList = none := by unfold Nm.readS; rw [hv]
    have Hr := Lib.hid hr
    have Hv := Lib.hid hv
    clear hr hv
    go_enter Tryz.func262, Tryz.ntmps262
    go_wp2_with (go_at_call 148; refine Hc.out.mono ?_; rw [Hv.out, rv]; rintro e w' ⟨rfl, rfl⟩)
    go_ret3
    exact ⟨by rw [Hr.out]; rfl, Below.refl _ _⟩
  · obtain ⟨hn, hk1, hk2, hk3⟩ := Nm.readV_le hv
    rw [← Lib.size_eq] at hk2
    have Hv := Lib.hid hv
    clear hv hn
    by_cases hle : n ≤ s.size - k
    · have hr : Nm.readS s.data.toList = some ((s.data.toList.drop k).take n, k + n) := by
        unfold Nm.readS; rw [Hv.out]; simp only []; rw [if_pos (by rw [← Lib.size_eq]; exact hle)]
      have Hr := Lib.hid hr
      clear hr
      have hx : (s.extract k (k + n)).size ≤ 140737488355328 := by rw [ByteArray.size_extract]; omega
      have hxe : s.extract k (k + n) = ⟨((s.data.toList.drop k).take n).toArray⟩ := by rw [Lib.extract_eq]; congr 3; omega
      have Hxe := Lib.hid hxe
      clear hxe
      have Hcl := Lib.hid (stringsClone_any (s.extract k (k + n)) w hx)
      clear hx
      have hle' : ¬ ((s.size : Int) - k < (n : Int)) := by omega
      go_enter Tryz.func262, Tryz.ntmps262
      go_wp2_with (first | (go_at_call 148; refine Hc.out.mono ?_; rw [Hv.out, rv]; rintro e w' ⟨rfl, rfl⟩) | (go_at_call 82; refine Hcl.out.mono ?_; rintro e w' ⟨rfl, hb⟩))
      go_ret3
      exact ⟨by rw [Hr.out, rs, Hxe.out]; rfl, hb⟩
    · have hr : Nm.readS s.data.toList = none := by
        unfold Nm.readS; rw [Hv.out]; simp only []; rw [if_neg (by rw [← Lib.size_eq]; exact hle)]
      have Hr := Lib.hid hr
      clear hr
      have hle' : ((s.size : Int) - k < (n : Int)) := by omega
      go_enter Tryz.func262, Tryz.ntmps262
      go_wp2_with (go_at_call 148; refine Hc.out.mono ?_; rw [Hv.out, rv]; rintro e w' ⟨rfl, rfl⟩)
      go_ret3
      exact ⟨by rw [Hr.out]; rfl, Below.refl _ _⟩
end Go.Proofs.YtjhbpcecdhdnoaaGreatDoor
namespace Go.Proofs.YtjhbpcecdhdnoaaGreatDoor
open Go.RowKit
theorem own_str {w wr w1 : World} {base : Nat} {v v' : Value} {l : List UInt8} {s : ByteArray} (ho : OwnB wr base v l) (hb : Below base w wr) (hB : base ≤ wr.heap.size)
    (ho1 : w1.ownsRow base 5 1 v' (l.length + s.size) (bc l ++ Lib.strCells s)) (hg : wr.grownBy w1 v.ownBlock) : OwnB w1 base v' (l ++ s.data.toList) ∧ Below base w w1 := by
  refine ⟨?_, hb.grown hg hB (fun k hk => (World.ownsRow.lt ho k hk).1)⟩
  unfold OwnB
  rw [bc_append, List.length_append]
  exact ho1

set_option maxHeartbeats 400000 in
theorem S_any (ss : List ByteArray) (A : Option Addr) (cap : Nat) (w : World) (hl : Lies w A (sc ss)) (hlen : ss.length ≤ 1000000000) (hsum : (sr ss).length ≤ 100000000) :
    Calls Tryz.prog 241 #[.slice A ss.length cap] w (RetS (sr ss) w) := by
  obtain ⟨i0, hi, hz0, hz1, hz2⟩ := info_parts Tryz.infoByte
  go_enter Tryz.func241, Tryz.ntmps241
  go_wp2
  go_loopw [3, 8] (fun v i wr => ∃ k : Nat, k ≤ ss.length ∧ i = .int .i64 k ∧ OwnB wr w.heap.size v (sr (ss.take k)) ∧ Below w.heap.size w wr) (fun _ i _ => ss.length - (intOf i).toNat)
  case atStart => exact ⟨0, Nat.zero_le _, rfl, OwnB.nil _ _, Below.refl _ _⟩
  case round =>
    obtain ⟨k, hk, rfl, ho, hb⟩ := hrel
    have hvl := sr_take_le ss k
    have hbs := hb.size
    by_cases hlt : k < ss.length
    · rcases hl with hl | ⟨b, off, rfl, hlb, hc⟩
      · exfalso; have := congrArg List.length hl; simp [sc] at this; simp [this] at hlt
      · have hcell : wr.cell? ⟨b, off + k, none⟩ = some (.string ss[k]) := (hb.cell (p := ⟨b, off + k, none⟩) hlb).trans (hc k _ (by simp [sc, hlt]))
        have hts := sr_take ss k hlt
        have hv2 := sr_take_le ss (k + 1)
        have hsz : (sr (ss.take k)).length + (Nm.grp ss[k].size).length + ss[k].size ≤ (sr ss).length := by
          rw [hts, List.length_append, List.length_append] at hv2
          exact hv2
        have Hts := Lib.hid hts
        clear hts hv2 hc
        obtain ⟨s, hs⟩ : ∃ s, s = ss[k] := ⟨_, rfl⟩
        rw [← hs] at hcell hsz Hts
        clear hs
        have hst : s.size < Nm.top := by unfold Nm.top; omega
        have Hst := Lib.hid hst
        clear hst
        go_wp2_with (first | (go_at_call 203; refine (appendGroups_any _ Hst.out w.heap.size _ _ _ ho hbs (by omega)).mono ?_; rintro e w1 ⟨v1, rfl, ho1, hb1⟩; have hbs1 := (hb.trans hb1).size) | (at_builtin; refine Lib.wpList_append_own_string _ rfl (.tmp 17) (.tmp 18) 141 9 rfl w.heap.size 5 i0 Tryz.underlying141 Tryz.underlying9 hi hz0 hz1 hz2 v1 _ _ rfl ho1 s rfl (by simp only [maxLen, List.length_append]; omega) (by simp only [List.length_append]; omega) (by omega) ?_; intro v2 w2 ho2 hg2 _))
        have R := own_str ho1 (hb.trans hb1) hbs1 ho2 hg2
        clear ho1 ho2 hg2 hb1
        go_roundw
        case rel => exact ⟨k + 1, by omega, by go_num, by rw [Hts.out]; exact R.1, R.2⟩
        case measure => simp [intOf]; omega
    · obtain rfl : k = ss.length := by omega
      have hcv := run_string_own ho
      rw [List.take_length] at hcv
      go_wp2
      go_ret
      exact ⟨rfl, hb⟩
end Go.Proofs.YtjhbpcecdhdnoaaGreatDoor
