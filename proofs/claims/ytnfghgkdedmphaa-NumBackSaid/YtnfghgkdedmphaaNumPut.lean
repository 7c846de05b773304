import Derived.Test.YtnfghgkdedmphaaNumBase
namespace Go.Proofs.Ytnfghgkdedmphaa
open Go.RowKit

theorem isWidth_any (n : Int) (w : World) : Calls Try.prog 23 #[.int .i64 n] w fun e w' => e = .returned (.bool (decide (1 ≤ n ∧ n ≤ 8))) ∧ w = w' := by
  by_cases h1 : 1 ≤ n
  · by_cases h2 : n ≤ 8
    · go_enter Try.func23, Try.ntmps23
      go_wp2
      go_ret
      exact ⟨by simp [h1, h2], rfl⟩
    · go_enter Try.func23, Try.ntmps23
      go_wp2
      go_ret
      exact ⟨by simp [h2], rfl⟩
  · go_enter Try.func23, Try.ntmps23
    go_wp2
    go_ret
    exact ⟨by simp; omega, rfl⟩

theorem pow7 (k : Nat) : (2 : Nat) ^ (7 * k) = 128 ^ k := by rw [Nat.pow_mul]
theorem shr7 (n k : Nat) : (n : Int) / 2 ^ (7 * k) = ((n / 128 ^ k : Nat) : Int) := by
  rw [show ((2 : Int) ^ (7 * k)) = ((128 ^ k : Nat) : Int) by rw [← pow7]; simp]; omega
theorem test7 (n k : Nat) (h : n < Nm.top) : (127 < (n : Int) / 2 ^ (7 * k)) ↔ k < Nm.cnt n := by
  rw [shr7, ← Nm.cnt_test n k h]; omega

theorem or128 : ∀ y : Fin 256, (y.val ||| 128) = y.val % 128 + 128 := by decide +kernel
theorem and127 (y : Nat) : (y &&& 127) = y % 128 := Nat.and_two_pow_sub_one_eq_mod y 7
theorem bits_hi (n k : Nat) : bits .or .u8 ((n : Int) / 2 ^ (7 * k) % 256) 128 = ((Nm.b8 (n / 128 ^ k % 128 + 128)).toNat : Int) := by
  rw [Nm.digit_hi, shr7, u8_or _ _ (by omega) (by omega) (by omega) (by omega)]
  have e : (((n / 128 ^ k : Nat) : Int) % 256).toNat = n / 128 ^ k % 256 := by omega
  rw [e, show (128 : Int).toNat = 128 from rfl, or128 ⟨n / 128 ^ k % 256, by omega⟩]
  show (((n / 128 ^ k % 256) % 128 + 128 : Nat) : Int) = _
  omega
theorem bits_lo (n : Nat) : bits .and .u8 ((n : Int) % 256) 127 = ((Nm.b8 (n % 128)).toNat : Int) := by
  rw [Nm.digit_lo, u8_and _ _ (by omega) (by omega) (by omega) (by omega)]
  rw [show (127 : Int).toNat = 127 from rfl, and127]
  omega

set_option maxHeartbeats 400000 in
theorem appendGroups_any (n : Nat) (hn : n < Nm.top) (base : Nat) (v : Value) (l : List UInt8) (w : World) (hown : OwnB w base v l) (hbase : base ≤ w.heap.size) (hl : l.length ≤ 100000000000) :
    Calls Try.prog 25 #[v, .int .u64 (n : Int)] w (RetB base (l ++ Nm.grp n) w) := by
  obtain ⟨i0, hi, hz0, hz1, hz2⟩ := info_parts Try.infoByte
  have hcs := (Nm.cnt_spec n hn).2.2
  have hn' := Lib.hid hn
  clear hn
  go_enter Try.func25, Try.ntmps25
  go_wp2
  go_loop [5] (fun s => ∃ k : Nat, k ≤ Nm.cnt n ∧ s = .int .u64 (7 * k : Nat)) (fun s => 64 - (intOf s).toNat)
  case atStart => exact ⟨0, Nat.zero_le _, rfl⟩
  case round =>
    obtain ⟨k, hk, rfl⟩ := hrel
    have ht := test7 n k hn'.out
    by_cases hlt : k < Nm.cnt n
    · have hd := ht.2 hlt
      clear ht
      go_wp2
      go_round
      case rel => exact ⟨k + 1, by omega, by go_num⟩
      case measure => simp [intOf]; omega
    · have hd : (n : Int) / 2 ^ (7 * k) ≤ 127 := by
        have : ¬ (127 < (n : Int) / 2 ^ (7 * k)) := fun h => hlt (ht.1 h)
        omega
      obtain rfl : k = Nm.cnt n := by omega
      clear ht
      have hdb : decide (127 < (n : Int) / 2 ^ (7 * Nm.cnt n)) = false := by simp; omega
      go_wp2
      go_loopw [0, 5] (fun v s wr => ∃ (k : Nat) (pre : List UInt8), k ≤ Nm.cnt n ∧ s = .int .u64 (7 * k : Nat) ∧ pre ++ Nm.hi k n = Nm.hi (Nm.cnt n) n ∧ OwnB wr base v (l ++ pre) ∧ Below base w wr) (fun _ s _ => (intOf s).toNat)
      case atStart => exact ⟨Nm.cnt n, [], Nat.le_refl _, rfl, by simp, by simpa using hown, Below.refl _ _⟩
      case round =>
        obtain ⟨k, pre, hk, rfl, hpre, ho, hb⟩ := hrel
        have hpl : pre.length + k = Nm.cnt n := by
          have := congrArg List.length hpre
          simpa [Nm.hi_length] using this
        have hpl1 : pre.length ≤ 9 := by omega
        have Hpl := Lib.hid hpl
        clear hpl
        have Hpre := Lib.hid hpre
        clear hpre hd hdb
        have hbs := hb.size
        rcases k with _ | k
        · have Hlo := Lib.hid (bits_lo n)
          go_wp2_with (at_builtin; refine wpList_append_own _ rfl (.tmp 24) (.tmp 28) 46 rfl base 5 i0 (.int .u8 0) 1 1 Try.underlying46 hi hz0 hz1 hz2 rfl (by decide) u0 _ _ rfl (World.ownsRow.alloc ho _) ⟨wr.heap.size, 0, none⟩ 1 1 [_] rfl rfl (cell_one_new _ _ _) (fun u hu => by simp at hu; subst hu; rfl) (by simp only [maxLen, List.length_append]; omega) (by simp only [List.length_append]; omega) (by simp; omega) ?_; intro v' w1 ho1 hg1 _)
          go_ret
          have R := own_step Hlo.out ho hb (by omega) ho1 hg1
          refine ⟨v', rfl, ?_, R.2⟩
          have e : l ++ pre ++ [Nm.b8 (n % 128)] = l ++ Nm.grp n := by
            have := Hpre.out
            simp only [Nm.hi, List.append_nil] at this
            rw [this, Nm.grp, List.append_assoc]
          rw [← e]
          exact R.1
        · have Hhi := Lib.hid (bits_hi n (k + 1))
          have hs7 : (7 * (k + 1) : Int) ≤ 63 := by omega
          go_wp2_with (at_builtin; refine wpList_append_own _ rfl (.tmp 16) (.tmp 22) 46 rfl base 5 i0 (.int .u8 0) 1 1 Try.underlying46 hi hz0 hz1 hz2 rfl (by decide) u0 _ _ rfl (World.ownsRow.alloc ho _) ⟨wr.heap.size, 0, none⟩ 1 1 [_] rfl rfl (cell_one_new _ _ _) (fun u hu => by simp at hu; subst hu; rfl) (by simp only [maxLen, List.length_append]; omega) (by simp only [List.length_append]; omega) (by simp; omega) ?_; intro v' w1 ho1 hg1 _)
          have R := own_step Hhi.out ho hb (by omega) ho1 hg1
          clear ho1 hg1
          go_roundw
          case rel => exact ⟨k, pre ++ [Nm.b8 (n / 128 ^ (k + 1) % 128 + 128)], by omega, by go_num, by have := Hpre.out; rw [Nm.hi] at this; simpa using this, by simpa using R.1, R.2⟩
          case measure => simp [intOf]; omega
/-- The groups of many numbers. -/
def vs (ns : List Nat) : List UInt8 := (ns.map Nm.grp).flatten
theorem vs_take (ns : List Nat) (k : Nat) (hk : k < ns.length) : vs (ns.take (k + 1)) = vs (ns.take k) ++ Nm.grp ns[k] := by
  unfold vs
  rw [List.take_succ_eq_append_getElem hk, List.map_append, List.flatten_append, List.map_singleton, List.flatten_singleton]
theorem grp_len (n : Nat) (h : n < Nm.top) : (Nm.grp n).length ≤ 10 := by
  have := (Nm.cnt_spec n h).2.2
  rw [Nm.grp_length]; omega
theorem vs_len : ∀ (ns : List Nat), (∀ n ∈ ns, n < Nm.top) → (vs ns).length ≤ 10 * ns.length
  | [], _ => by simp [vs]
  | n :: ns, h => by
    have h1 := vs_len ns (fun x hx => h x (by simp [hx]))
    have h2 := grp_len n (h n (by simp))
    unfold vs at *
    simp at *; omega

/-- Numbers as cells. -/
def uc (ns : List Nat) : List Value := ns.map fun (n : Nat) => Value.int .u64 (n : Int)

set_option maxHeartbeats 400000 in
theorem V_any (ns : List Nat) (hns : ∀ n ∈ ns, n < Nm.top) (A : Option Addr) (cap : Nat) (w : World) (hl : Lies w A (uc ns)) (hlen : ns.length ≤ 1000000000) :
    Calls Try.prog 13 #[.slice A ns.length cap] w (RetS (vs ns) w) := by
  have Hns := Lib.hid hns
  clear hns
  go_enter Try.func13, Try.ntmps13
  go_wp2
  go_loopw [3, 8] (fun v i wr => ∃ k : Nat, k ≤ ns.length ∧ i = .int .i64 k ∧ OwnB wr w.heap.size v (vs (ns.take k)) ∧ Below w.heap.size w wr) (fun _ i _ => ns.length - (intOf i).toNat)
  case atStart => exact ⟨0, Nat.zero_le _, rfl, OwnB.nil _ _, Below.refl _ _⟩
  case round =>
    obtain ⟨k, hk, rfl, ho, hb⟩ := hrel
    have hvl : (vs (ns.take k)).length ≤ 10 * k := by
      have := vs_len (ns.take k) (fun x hx => Hns.out x (List.mem_of_mem_take hx))
      simp only [List.length_take] at this
      omega
    have hbs := hb.size
    by_cases hlt : k < ns.length
    · rcases hl with hl | ⟨b, off, rfl, hlb, hc⟩
      · exfalso; have := congrArg List.length hl; simp [uc] at this; simp [this] at hlt
      · have hcell : wr.cell? ⟨b, off + k, none⟩ = some (.int .u64 (ns[k] : Nat)) := (hb.cell (p := ⟨b, off + k, none⟩) hlb).trans (hc k _ (by simp [uc, hlt]))
        have hnk : ns[k] < Nm.top := Hns.out _ (List.getElem_mem hlt)
        have Hnk := Lib.hid hnk
        have Hts := Lib.hid (vs_take ns k hlt)
        clear hnk hc
        go_wp2_with (go_at_call 25; refine (appendGroups_any _ Hnk.out w.heap.size _ _ _ ho hbs (by omega)).mono ?_; rintro e w1 ⟨v', rfl, ho1, hb1⟩)
        go_roundw
        case rel => exact ⟨k + 1, by omega, by go_num, by rw [Hts.out]; exact ho1, hb.trans hb1⟩
        case measure => simp [intOf]; omega
    · obtain rfl : k = ns.length := by omega
      have hcv := run_string_own ho
      rw [List.take_length] at hcv
      go_wp2
      go_ret
      exact ⟨rfl, hb⟩
end Go.Proofs.Ytnfghgkdedmphaa
