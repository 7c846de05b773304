/-
  wapentakeref08's Name walked.
  wapentakeref08's Number walked.
-/
import Derived.Test.YtdcjhpnakbejkaaGreatDoorRWords
import Derived.Test.YtdcjhpnakbejkaaGreatDoorRWlM
import Derived.Deep.QuietTactic
import Derived.BigQuiet
import Derived.Deep.RegionHeld3
set_option linter.unusedSimpArgs false
set_option linter.unusedVariables false
namespace Go.Proofs.YtdcjhpnakbejkaaGreatDoor
open Go.RowKit
def szOf : Value → Nat
  | .string b => b.size
  | _ => 0
/-- One byte as a string. -/
theorem wstr1 (W : World) (z : Int) (b : UInt8) (h : z = (b.toNat : Int)) : (convert 153 9 (.slice (some ⟨W.heap.size, 0, none⟩) 1 1)).run Tryz.prog (W.alloc (.cells #[.int .u8 z] 5)) = .ok (.string ⟨#[b]⟩) (W.alloc (.cells #[.int .u8 z] 5)) := by
  subst h
  refine run_convert_bytes_back (P := Tryz.prog) _ 153 9 5 ⟨W.heap.size, 0, none⟩ 1 [b] Tryz.underlying153 Tryz.underlying5 Tryz.underlying9 (fun j hj => ?_)
  have : j = 0 := by simp at hj; omega
  subst this
  exact cell_one_new _ _ _ 0 _ rfl
theorem name_of {b : ByteArray} {n : Nat} (h : b.data.toList = Wl.wd (Wl.w10 n) n) : (⟨#[115, 101, 103, 46]⟩ : ByteArray) ++ b = Wl.name n := by
  apply ByteArray.ext
  apply Array.toList_inj.1
  rw [ByteArray.data_append, Array.toList_append, h]
  rfl
theorem wd_more {b : ByteArray} {k n : Nat} (h : b.data.toList = Wl.wd k n) : ((⟨#[Wl.dig (n / 10 ^ k)]⟩ : ByteArray) ++ b).data.toList = Wl.wd (k + 1) n := by
  rw [ByteArray.data_append, Array.toList_append, h, Wl.wd_cons]
  rfl
set_option maxRecDepth 100000 in
set_option maxHeartbeats 800000 in
theorem refName_any (n : Nat) (hn : n < Nm.top) (w : World) : Calls Tryz.prog 25 #[.int .u64 (n : Nat)] w fun e w' => e = .returned (.string (Wl.name n)) ∧ Below w.heap.size w w' := by
  have Hw := Lib.hid (Wl.w10_le hn)
  have Hn := Lib.hid hn
  clear hn
  go_enter Tryz.func25, Tryz.ntmps25
  go_wp2
  go_loopw [0, 3] (fun v s wr => ∃ (k m : Nat) (b : ByteArray), k ≤ Wl.w10 n ∧ m = n / 10 ^ k ∧ v = .int .u64 (m : Nat) ∧ s = .string b ∧ b.data.toList = Wl.wd k n ∧ Below w.heap.size w wr) (fun _ s _ => 20 - szOf s)
  case atStart => exact ⟨0, n, _, Nat.zero_le _, by simp, rfl, rfl, rfl, Below.refl _ _⟩
  case round =>
    obtain ⟨k, m, b, hk, hm, rfl, rfl, hb, hbw⟩ := hrel
    have hsz : b.size = k := by rw [Lib.size_eq, hb, Wl.wd_length]
    have hmt : m ≤ 18446744073709551615 := by
      have h1 := Hn.out
      unfold Nm.top at h1
      have := Nat.div_le_self n (10 ^ k)
      omega
    have hk20 : k ≤ 20 := by have := Hw.out; omega
    have Hi := Lib.hid (Wl.w10_iff Hn.out k)
    have Hb := Lib.hid hb
    have Hm := Lib.hid hm
    clear hb
    have hc := wstr1 wr (48 + (m : Int) % 10) (Wl.dig m) (by rw [Wl.dig_toNat]; omega)
    have hz : (ByteArray.mk #[Wl.dig m]).size = 1 := rfl
    have Hmore : RowKit.Hid (((⟨#[Wl.dig m]⟩ : ByteArray) ++ b).data.toList = Wl.wd (k + 1) n) := Lib.hid (by rw [hm]; exact wd_more Hb.out)
    have Hdiv : RowKit.Hid (m / 10 = n / 10 ^ (k + 1)) := Lib.hid (by rw [hm, Nat.div_div_eq_div_mul, Nat.pow_succ])
    obtain ⟨c, hcc⟩ : ∃ c : ByteArray, c = ByteArray.mk #[Wl.dig m] := ⟨_, rfl⟩
    rw [← hcc] at hc hz Hmore
    have Hin : RowKit.Hid (¬ (m = 0 ∧ 8 ≤ k) → k + 1 ≤ Wl.w10 n) := Lib.hid fun h => by
      have := Hi.out
      rw [← hm] at this
      have h2 : ¬ Wl.w10 n ≤ k := fun h3 => h (this.2 h3)
      omega
    clear hcc hm
    by_cases h1 : 0 < m
    · go_wp2
      go_roundw
      case rel => exact ⟨k + 1, m / 10, c ++ b, Hin.out (by omega), Hdiv.out, by go_num, rfl, Hmore.out, bnew hbw _⟩
      case measure => have a1 := Hin.out (by omega); have a2 := Hw.out; simp [szOf, ByteArray.size_append]; omega
    · by_cases h2 : k < 8
      · go_wp2
        go_roundw
        case rel => exact ⟨k + 1, m / 10, c ++ b, Hin.out (by omega), Hdiv.out, by go_num, rfl, Hmore.out, bnew hbw _⟩
        case measure => have a1 := Hin.out (by omega); have a2 := Hw.out; simp [szOf, ByteArray.size_append]; omega
      · clear hc
        go_wp2
        go_ret
        refine ⟨?_, hbw⟩
        have h3 := Hi.out
        rw [← Hm.out] at h3
        have h4 := h3.1 ⟨by omega, by omega⟩
        obtain rfl : k = Wl.w10 n := by omega
        rw [name_of Hb.out]; rfl
end Go.Proofs.YtdcjhpnakbejkaaGreatDoor
namespace Go.Proofs.YtdcjhpnakbejkaaGreatDoor
open Go.RowKit
/-- What Number answers: the number whose name it is, if it is one's. -/
def RetNum (s : ByteArray) (w : World) (e : Ending) (w' : World) : Prop :=
  ∃ (v : Nat) (ok : Bool), e = .returned (.tuple #[.int .u64 (v : Nat), .bool ok]) ∧ v < Nm.top ∧ (ok = true → Wl.name v = s) ∧ (ok = false → ∀ n, n < Nm.top → Wl.name n ≠ s) ∧ Below w.heap.size w w'
theorem name_data {n : Nat} {s : ByteArray} (h : Wl.name n = s) : Wl.nameL n = s.data.toList := by rw [← h]; simp [Wl.name]
theorem num_len {s : ByteArray} (h : s.size < 12 ∨ 24 < s.size) : ∀ n, n < Nm.top → Wl.name n ≠ s := fun n hn e => by
  have := Wl.name_size hn
  rw [e] at this; omega
theorem num_dig {s : ByteArray} {k : Nat} (hk : k < s.size) (h4 : 4 ≤ k) (h : s[k].toNat < 48 ∨ 57 < s[k].toNat) : ∀ n, n < Nm.top → Wl.name n ≠ s := fun n hn e => by
  have h2 := (Wl.nameL_of hn (name_data e)).2.1 s[k] (by
    have hk2 : k < s.data.toList.length := by rw [← Lib.size_eq]; exact hk
    have e2 : s.data.toList[k] = s[k] := rfl
    rw [← e2]
    refine List.mem_iff_getElem.2 ⟨k - 4, by rw [List.length_drop]; omega, ?_⟩
    rw [List.getElem_drop]
    congr 1; omega)
  omega
theorem v10_step {s : ByteArray} {k : Nat} (hk : k < s.size) (h4 : 4 ≤ k) : Wl.v10 ((s.data.toList.take (k + 1)).drop 4) = 10 * Wl.v10 ((s.data.toList.take k).drop 4) + (s[k].toNat - 48) := by
  rw [take_snoc s k hk, List.drop_append_of_le_length (by rw [List.length_take, ← Lib.size_eq]; omega), Wl.v10_snoc]
theorem wstr_eqb (x y : ByteArray) : (x.toList == y.toList) = decide (x = y) := by
  rw [Bool.eq_iff_iff, decide_eq_true_iff, beq_iff_eq, ByteArray.toList_eq, ByteArray.toList_eq]
  exact ⟨fun h => ByteArray.ext (Array.toList_inj.mp h), fun h => by rw [h]⟩
theorem wrap_step (m d : Nat) (hd : 48 ≤ d) : IntKind.u64.wrap (IntKind.u64.wrap (10 * (m : Int)) + ((d : Int) - 48)) = (((10 * m + (d - 48)) % 18446744073709551616 : Nat) : Int) := by
  simp [IntKind.wrap, IntKind.bits, IntKind.signed]
  omega
set_option maxRecDepth 100000 in
set_option maxHeartbeats 800000 in
theorem refNumber_any (s : ByteArray) (w : World) (hs : s.size ≤ 1000000000) : Calls Tryz.prog 23 #[.string s] w (RetNum s w) := by
  have HN : ∀ n, n < Nm.top → ∀ W, Calls Tryz.prog 25 #[.int .u64 (n : Nat)] W fun e w' => e = .returned (.string (Wl.name n)) ∧ Below W.heap.size W w' := fun n hn W => refName_any n hn W
  have HName := Lib.hid HN
  clear HN
  go_enter Tryz.func23, Tryz.ntmps23
  by_cases hl1 : s.size < 12
  · go_wp2
    go_ret2
    exact ⟨0, false, rfl, by decide, fun h => Bool.noConfusion h, fun _ => num_len (.inl hl1), Below.refl _ _⟩
  by_cases hl2 : 24 < s.size
  · go_wp2
    go_ret2
    exact ⟨0, false, rfl, by decide, fun h => Bool.noConfusion h, fun _ => num_len (.inr hl2), Below.refl _ _⟩
  go_wp2
  go_loopw [4, 5] (fun x i wr => ∃ (k m : Nat), 4 ≤ k ∧ k ≤ s.size ∧ i = .int .i64 k ∧ x = .int .u64 (m : Nat) ∧ m = Wl.v10 ((s.data.toList.take k).drop 4) % 18446744073709551616 ∧ Below w.heap.size w wr) (fun _ i _ => s.size - (intOf i).toNat)
  case atStart => exact ⟨4, 0, Nat.le_refl _, by omega, rfl, rfl, by rw [List.drop_take]; rfl, Below.refl _ _⟩
  case round =>
    obtain ⟨k, m, h4, hk, rfl, rfl, hm, hb⟩ := hrel
    by_cases hlt : k < s.size
    · by_cases hd1 : s[k].toNat < 48
      · go_wp2
        go_ret2
        exact ⟨0, false, rfl, by decide, fun h => Bool.noConfusion h, fun _ => num_dig hlt h4 (.inl hd1), hb⟩
      by_cases hd2 : 57 < s[k].toNat
      · go_wp2
        go_ret2
        exact ⟨0, false, rfl, by decide, fun h => Bool.noConfusion h, fun _ => num_dig hlt h4 (.inr hd2), hb⟩
      have Hm := Lib.hid hm
      have Hst := Lib.hid (v10_step hlt h4)
      have hm2 : m < 18446744073709551616 := by rw [hm]; exact Nat.mod_lt _ (by decide)
      clear hm
      go_wp2
      go_roundw
      case rel => exact ⟨k + 1, (10 * m + (s[k].toNat - 48)) % 18446744073709551616, by omega, by omega, by go_num, by rw [wrap_step _ _ (by omega)], by rw [Hst.out, Hm.out]; omega, hb⟩
      case measure => simp [intOf]; omega
    · obtain rfl : k = s.size := by omega
      have hmt : m < Nm.top := by rw [hm]; exact Nat.mod_lt _ (by decide)
      have Hm := Lib.hid hm
      have Hmt := Lib.hid hmt
      clear hm hmt
      go_wp2_with (go_at_call 25; refine (HName.out _ Hmt.out _).mono ?_; rintro e w1 ⟨rfl, hb1⟩)
      go_ret2
      refine ⟨m, decide (Wl.name m = s), ?_, Hmt.out, fun h => of_decide_eq_true h, fun h n hn e => of_decide_eq_false h ?_, bnext hb hb1⟩
      · rw [← wstr_eqb]; rfl
      have h1 := (Wl.nameL_of hn (name_data e)).1
      have h2 := Hm.out
      rw [List.take_of_length_le (by rw [← Lib.size_eq]; exact Nat.le_refl _), h1, Nat.mod_eq_of_lt (by unfold Nm.top at hn; exact hn)] at h2
      rw [h2]; exact e
end Go.Proofs.YtdcjhpnakbejkaaGreatDoor
