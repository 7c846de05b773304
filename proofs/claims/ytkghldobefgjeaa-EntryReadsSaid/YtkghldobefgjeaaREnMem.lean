/-
  entry.Members and Majority walked; wapentakeref04.Is walked.
-/
import Derived.Test.YtkghldobefgjeaaRNum
set_option linter.unusedSimpArgs false
set_option linter.unusedVariables false
namespace Go.Proofs.Ytkghldobefgjeaa
open Go.RowKit
namespace En
/-- The members among the first k nodes. -/
def mmk (m k : Nat) : List UInt8 := ((List.range k).filter fun b => decide (m / 2 ^ b % 2 = 1)).map fun b => Nm.b8 (b + 1)
def mem5 (m : Nat) : List UInt8 := mmk m 5
theorem mmk_yes (m k : Nat) (h : m / 2 ^ k % 2 = 1) : mmk m (k + 1) = mmk m k ++ [Nm.b8 (k + 1)] := by
  unfold mmk
  rw [List.range_succ, List.filter_append, List.map_append]
  simp [h]
theorem mmk_no (m k : Nat) (h : ¬ m / 2 ^ k % 2 = 1) : mmk m (k + 1) = mmk m k := by
  unfold mmk
  rw [List.range_succ, List.filter_append, List.map_append]
  simp [h]
theorem mmk_len (m k : Nat) : (mmk m k).length ≤ k := by
  unfold mmk
  rw [List.length_map]
  have := List.length_filter_le (fun b => decide (m / 2 ^ b % 2 = 1)) (List.range k)
  rwa [List.length_range] at this
end En
theorem bit_test (m k : Nat) (hm : m < 256) : (bits .and .u8 ((m : Int) / 2 ^ k) 1 == 1) = decide (m / 2 ^ k % 2 = 1) := by
  have e : ((m : Int) / 2 ^ k) = ((m / 2 ^ k : Nat) : Int) := by simp
  have hd : m / 2 ^ k < 256 := Nat.lt_of_le_of_lt (Nat.div_le_self _ _) hm
  generalize m / 2 ^ k = v at e hd ⊢
  rw [e, u8_and _ _ (by omega) (by omega) (by omega) (by omega), show (1 : Int).toNat = 1 from rfl, Int.toNat_natCast, Nat.and_one_is_mod]
  rw [Bool.eq_iff_iff, beq_iff_eq, decide_eq_true_iff]
  omega
/-- A contract's end: a slice of these bytes. -/
def RetM (l : List UInt8) (w : World) (e : Ending) (w' : World) : Prop := ∃ A cap, e = .returned (.slice A l.length cap) ∧ Lies w' A (bc l) ∧ Below w.heap.size w w'
theorem OwnB.lies {w : World} {base : Nat} {v : Value} {l : List UInt8} (h : OwnB w base v l) : ∃ A cap, v = .slice A l.length cap ∧ Lies w A (bc l) := by
  rcases h.2 with ⟨rfl, hn⟩ | ⟨g, cap, cur, rfl, hlt, hg, _, _, _, htake⟩
  · have : l = [] := List.eq_nil_of_length_eq_zero hn
    subst this
    exact ⟨none, 0, rfl, .inl rfl⟩
  · refine ⟨_, _, rfl, .inr ⟨g, 0, rfl, (World.ownsRow.lt h g rfl).2, fun i u hu => ?_⟩⟩
    have := World.ownsRow.cells h (g := g) rfl i u hu
    by_cases h0 : i = 0
    · subst h0; simpa [Addr.add] using this
    · simpa [Addr.add, h0] using this
set_option maxRecDepth 100000 in
set_option maxHeartbeats 2000000 in
theorem members_any (m : Nat) (hm : m < 256) (w : World) : Calls Try.prog 41 #[.int .u8 (m : Int)] w (RetM (En.mem5 m) w) := by
  obtain ⟨i0, hi, hz0, hz1, hz2⟩ := info_parts Try.infoByte
  go_enter Try.func41, Try.ntmps41
  go_wp2
  go_loopw [3, 5] (fun v i wr => ∃ k : Nat, k ≤ 5 ∧ i = .int .u8 (k : Int) ∧ OwnB wr w.heap.size v (En.mmk m k) ∧ Below w.heap.size w wr) (fun _ i _ => 5 - (intOf i).toNat)
  case atStart => exact ⟨0, by omega, rfl, OwnB.nil _ _, Below.refl _ _⟩
  case round =>
    obtain ⟨k, hk, rfl, ho, hb⟩ := hrel
    have hbs := hb.size
    have hbt := bit_test m k hm
    have hml := En.mmk_len m k
    by_cases hlt : k < 5
    · have hl1 : decide (k < 5) = true := by simp; omega
      have hl2 : ((k : Int) < 5) = True := by simp; omega
      by_cases ht : m / 2 ^ k % 2 = 1
      · rw [decide_eq_true ht] at hbt
        have Hy := Lib.hid (En.mmk_yes m k ht)
        have HO := Lib.hid ho
        have HB := Lib.hid hb
        have hz : ((k : Int) + 1) = ((Nm.b8 (k + 1)).toNat : Int) := by rw [Nm.b8_toNat _ (by omega)]; omega
        have Hz := Lib.hid hz
        clear ht hb hz
        go_wp2_with (at_builtin; refine wpList_append_own _ rfl (.tmp 13) (.tmp 16) 36 rfl w.heap.size 5 i0 (.int .u8 0) 1 1 Try.underlying36 hi hz0 hz1 hz2 rfl (by decide) _ _ _ rfl (World.ownsRow.alloc ho _) ⟨wr.heap.size, 0, none⟩ 1 1 [_] rfl rfl (cell_one_new _ _ _) (fun u hu => by simp at hu; subst hu; rfl) (by simp only [maxLen]; omega) (by omega) (by simp; omega) ?_; intro v' w1 ho1 hg1 _)
        have R := own_step Hz.out HO.out HB.out hbs ho1 hg1
        clear ho1 hg1
        go_roundw
        case rel => exact ⟨k + 1, by omega, by go_num, by rw [Hy.out]; exact R.1, R.2⟩
        case measure => simp [intOf]; omega
      · rw [decide_eq_false ht] at hbt
        have Hy := Lib.hid (En.mmk_no m k ht)
        have HO := Lib.hid ho
        have HB := Lib.hid hb
        clear ht ho hb
        go_wp2_with fail
        go_roundw
        case rel => exact ⟨k + 1, by omega, by go_num, by rw [Hy.out]; exact HO.out, HB.out⟩
        case measure => simp [intOf]; omega
    · obtain rfl : k = 5 := by omega
      have HO := Lib.hid ho
      have HB := Lib.hid hb
      clear ho hb hbt
      go_wp2_with fail
      go_ret
      obtain ⟨A, cap, rfl, hl⟩ := HO.out.lies
      exact ⟨A, cap, rfl, hl, HB.out⟩
def En.maj (m : Nat) : Nat := (En.mem5 m).length / 2 + 1
set_option maxRecDepth 100000 in
theorem majority_any (m : Nat) (hm : m < 256) (w : World) : Calls Try.prog 40 #[.int .u8 (m : Int)] w fun e w' => e = .returned (.int .i64 (En.maj m : Int)) ∧ Below w.heap.size w w' := by
  have HM := Lib.hid (members_any m hm w)
  have hl : (En.mem5 m).length ≤ 5 := En.mmk_len m 5
  obtain ⟨n, hn⟩ : ∃ n, n = (En.mem5 m).length := ⟨_, rfl⟩
  have hj : En.maj m = n / 2 + 1 := by unfold En.maj; rw [hn]
  unfold RetM at HM
  rw [← hn] at HM hl
  have Hj := Lib.hid hj
  clear hn hj
  go_enter Try.func40, Try.ntmps40
  go_wp2_with fail
  refine HM.out.mono ?_
  rintro e w1 ⟨A, cap, rfl, _, hb⟩
  have HB := Lib.hid hb
  clear hb
  go_wp2_with fail
  go_ret
  exact ⟨by rw [Hj.out]; simp, HB.out⟩
end Go.Proofs.Ytkghldobefgjeaa
