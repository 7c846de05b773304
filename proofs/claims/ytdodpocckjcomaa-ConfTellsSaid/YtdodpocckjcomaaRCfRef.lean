/-
  The document's answers for layer 10, walked: members as a list.
-/
import Derived.Test.YtdodpocckjcomaaRCfLevel
set_option linter.unusedSimpArgs false
set_option linter.unusedVariables false
namespace Go.Proofs.Ytdodpocckjcomaa
open Go.RowKit
namespace Cf
theorem bit_div : ∀ m : Fin 256, ∀ n : Fin 6, 1 ≤ n.val → decide (m.val / 2 ^ (n.val - 1) % 2 = 1) = has m.val n.val := by decide +kernel
/-- A list's bits below a number. -/
def low (l : List Nat) (n : Nat) : Nat := (five.filter fun k => decide (k < n)).foldl (fun a k => if k ∈ l then a + 2 ^ (k - 1) else a) 0
theorem low_one (l : List Nat) : low l 1 = 0 := by unfold low; rw [below_one]; rfl
theorem low_add (l : List Nat) (n : Nat) (h1 : 1 ≤ n) (h2 : n ≤ 5) : low l (n + 1) = if n ∈ l then low l n + 2 ^ (n - 1) else low l n := by
  unfold low
  rw [below_add n h1 h2, List.foldl_append]; rfl
theorem low_lt (l : List Nat) (n : Nat) (h1 : 1 ≤ n) (h2 : n ≤ 6) : low l n < 2 ^ (n - 1) := by
  induction n with
  | zero => omega
  | succ n ih =>
    by_cases h : n = 0
    · subst h; rw [low_one]; decide
    · have := ih (by omega) (by omega)
      rw [low_add l n (by omega) (by omega)]
      have e : 2 ^ (n + 1 - 1) = 2 ^ (n - 1) + 2 ^ (n - 1) := by
        obtain ⟨k, rfl⟩ : ∃ k, n = k + 1 := ⟨n - 1, by omega⟩
        simp only [Nat.add_sub_cancel]; rw [Nat.pow_succ]; omega
      rw [e]
      split <;> omega
theorem low_six (l : List Nat) : low l 6 = of l := by
  rw [← of_eq]
  unfold low ofR
  rw [below_six]
  unfold five
  simp only [List.foldl]
  by_cases h1 : 1 ∈ l <;> by_cases h2 : 2 ∈ l <;> by_cases h3 : 3 ∈ l <;> by_cases h4 : 4 ∈ l <;> by_cases h5 : 5 ∈ l <;> simp [h1, h2, h3, h4, h5]
/-- In how many nodes below a number two memberships differ. -/
def diff (a b n : Nat) : Nat := (five.filter fun k => decide (k < n)).countP fun k => has a k != has b k
theorem diff_one (a b : Nat) : diff a b 1 = 0 := by unfold diff; rw [below_one]; rfl
theorem diff_add (a b n : Nat) (h1 : 1 ≤ n) (h2 : n ≤ 5) : diff a b (n + 1) = diff a b n + (if (has a n != has b n) = true then 1 else 0) := by
  unfold diff
  rw [below_add n h1 h2, List.countP_append, List.countP_singleton]
theorem diff_le (a b n : Nat) : diff a b n ≤ 5 := Nat.le_trans List.countP_le_length (List.length_filter_le _ five)
theorem diff_six (a b : Nat) : near a b = decide (diff a b 6 < 2) := by
  unfold near diff count mem
  rw [below_six, List.countP_eq_length_filter]
  have e : has (a ^^^ b) = fun k => has a k != has b k := by funext n; exact has_xor a b n
  rw [e, decide_eq_decide]
  omega
end Cf
set_option maxRecDepth 100000 in
set_option maxHeartbeats 2000000 in
theorem rlist_any10 (m : Nat) (hm : m < 256) (w : World) : Calls Try.prog 10 #[.int .u8 (m : Int)] w (RetN (Cf.mem m) w) := by
  obtain ⟨i0, hi, hz0, hz1, hz2⟩ := info_parts Try.infoByte
  go_enter Try.func10, Try.ntmps10
  go_wp2
  go_loopw [0, 3, 4] (fun q v i wr => ∃ n p : Nat, 1 ≤ n ∧ n ≤ 6 ∧ i = .int .u8 (n : Int) ∧ q = .int .u8 (p : Int) ∧ p = m / 2 ^ (n - 1) ∧ OwnN wr w.heap.size v (Cf.upto m n) ∧ Below w.heap.size w wr) (fun _ _ i _ => 6 - (intOf i).toNat)
  case atStart => exact ⟨1, m, by omega, by omega, rfl, rfl, by simp, by rw [Cf.upto_one]; exact OwnN.nil _ _, Below.refl _ _⟩
  case round =>
    obtain ⟨n, p, h1, h6, rfl, rfl, hp, ho, hb⟩ := hrel
    have hbs := hb.size
    have hp256 : p < 256 := by rw [hp]; exact Nat.lt_of_le_of_lt (Nat.div_le_self _ _) hm
    have hp2 : p / 2 = m / 2 ^ (n + 1 - 1) := by
      rw [hp, Nat.div_div_eq_div_mul]
      congr 1
      obtain ⟨k, rfl⟩ : ∃ k, n = k + 1 := ⟨n - 1, by omega⟩
      simp only [Nat.add_sub_cancel]; rw [Nat.pow_succ]
    have hq2 : (p : Int) / 2 = ((p / 2 : Nat) : Int) := by omega
    by_cases hlt : n ≤ 5
    · have hl1 : decide (n ≤ 5) = true := by simpa using hlt
      have hl2 : ((n : Int) ≤ 5) = True := by simp; omega
      have hst := Cf.upto_add m n h1 hlt
      have hln := Cf.upto_len m n
      have hbd := Cf.bit_div ⟨m, hm⟩ ⟨n, by omega⟩ h1
      simp only at hbd
      rw [← hp] at hbd
      by_cases ht : Cf.has m n = true
      · rw [ht] at hst hbd
        have hb1 : p % 2 = 1 := of_decide_eq_true hbd
        have hb2 : ((p : Int) % 2 == 1) = true := by simp; omega
        have hb3 : (p : Int) % 2 = 1 := by omega
        rw [if_pos rfl] at hst
        have Hy := Lib.hid hst
        have HO := Lib.hid ho
        have HB := Lib.hid hb
        have HP := Lib.hid (And.intro hp2 hq2)
        clear hb hst ht hbd hb1 hp hp2 hq2
        go_wp2_with (at_builtin; refine wpList_append_own _ rfl (.tmp 12) (.tmp 14) 24 rfl w.heap.size 5 i0 (.int .u8 0) 1 1 Try.underlying24 hi hz0 hz1 hz2 rfl (by decide) _ _ _ rfl (World.ownsRow.alloc ho _) ⟨wr.heap.size, 0, none⟩ 1 1 [_] rfl rfl (cell_one_new _ _ _) (fun u hu => by simp at hu; subst hu; rfl) (by simp only [maxLen]; omega) (by omega) (by simp; omega) ?_; intro v' w1 ho1 hg1 _)
        have R := ownN_step HO.out HB.out hbs ho1 hg1
        clear ho1 hg1
        go_roundw
        case rel => exact ⟨n + 1, p / 2, by omega, by omega, by go_num, by first | rfl | (rw [← HP.out.2]), HP.out.1, by rw [Hy.out]; exact R.1, R.2⟩
        case measure => simp [intOf]; omega
      · rw [Bool.not_eq_true] at ht
        rw [ht] at hst hbd
        have hb1 : ¬ p % 2 = 1 := of_decide_eq_false hbd
        have hb2 : ((p : Int) % 2 == 1) = false := by simp; omega
        have Hy := Lib.hid hst
        have HO := Lib.hid ho
        have HB := Lib.hid hb
        have HP := Lib.hid (And.intro hp2 hq2)
        clear ho hb hst ht hbd hb1 hp hp2 hq2
        go_wp2_with fail
        go_roundw
        case rel => exact ⟨n + 1, p / 2, by omega, by omega, by go_num, by first | rfl | (rw [← HP.out.2]), HP.out.1, by rw [Hy.out]; simpa using HO.out, HB.out⟩
        case measure => simp [intOf]; omega
    · obtain rfl : n = 6 := by omega
      rw [Cf.upto_six] at ho
      have HO := Lib.hid ho
      have HB := Lib.hid hb
      clear ho hb hp hp2 hq2
      go_wp2_with fail
      go_ret
      exact ⟨_, rfl, HO.out, HB.out⟩
theorem nc_cell {w : World} {A : Option Addr} {l : List Nat} (h : Lies w A (nc l)) {j x : Nat} (hj : j < l.length) (hx : x = l[j]) : ∃ bb oo, A = some ⟨bb, oo, none⟩ ∧ w.cell? ⟨bb, oo + j, none⟩ = some (.int .u8 (x : Int)) := by
  rcases h with h | ⟨bb, oo, rfl, _, hc⟩
  · exfalso
    have := congrArg List.length h
    simp [nc] at this; simp [this] at hj
  · exact ⟨bb, oo, rfl, hc j _ (by simp [nc, hj, hx])⟩
set_option maxRecDepth 100000 in
theorem in_any (l : List Nat) (A : Option Addr) (cap : Nat) (w : World) (hA : Lies w A (nc l)) (hlen : l.length ≤ 140737488355328) (n : Nat) : Calls Try.prog 26 #[.slice A l.length cap, .int .u8 (n : Int)] w fun e w' => e = .returned (.bool (decide (n ∈ l))) ∧ w = w' := by
  have HA := Lib.hid hA
  clear hA
  go_enter Try.func26, Try.ntmps26
  go_wp2_with fail
  go_loopw [5] (fun i wr => ∃ j, j ≤ l.length ∧ i = .int .i64 (j : Int) ∧ ¬ n ∈ l.take j ∧ w = wr) (fun i _ => l.length - (intOf i).toNat)
  case atStart => exact ⟨0, Nat.zero_le _, rfl, by simp, rfl⟩
  case round =>
    obtain ⟨j, hj, rfl, hno, rfl⟩ := hrel
    by_cases hlt : j < l.length
    · obtain ⟨x, hx⟩ : ∃ x, x = l[j] := ⟨_, rfl⟩
      obtain ⟨bb, oo, rfl, hcell⟩ := nc_cell HA.out hlt hx
      have Hno := Lib.hid hno
      have Hx := Lib.hid hx
      clear hno hx
      by_cases hxn : x = n
      · have hq : ((x : Int) == (n : Int)) = true := by simp; omega
        have hq2 : ((x : Int) = (n : Int)) = True := by simp; omega
        have E : Hid (decide (n ∈ l) = true) := Lib.hid (by rw [decide_eq_true_iff, ← hxn, Hx.out]; exact List.getElem_mem hlt)
        clear hxn
        go_wp2_with fail
        go_ret
        exact ⟨by rw [E.out]; rfl, rfl⟩
      · have hq : ((x : Int) == (n : Int)) = false := by simp; omega
        have hq2 : ((x : Int) = (n : Int)) = False := by simp; omega
        have E : Hid (¬ n ∈ l.take (j + 1)) := Lib.hid (by
          rw [List.take_succ_eq_append_getElem hlt, List.mem_append]
          rintro (h | h)
          · exact Hno.out h
          · rw [List.mem_singleton] at h; exact hxn (by rw [Hx.out, h]))
        clear hxn
        go_wp2_with fail
        go_roundw
        case rel => exact ⟨j + 1, by omega, by go_num, E.out, by trivial⟩
        case measure => simp [intOf]; omega
    · obtain rfl : j = l.length := by omega
      rw [List.take_of_length_le (Nat.le_refl _)] at hno
      have E : Hid (decide (n ∈ l) = false) := Lib.hid (by simpa using hno)
      clear hno
      go_wp2_with fail
      go_ret
      exact ⟨by rw [E.out]; rfl, rfl⟩
set_option maxRecDepth 100000 in
theorem rof_any (l : List Nat) (A : Option Addr) (cap : Nat) (w : World) (hA : Lies w A (nc l)) (hlen : l.length ≤ 140737488355328) : Calls Try.prog 12 #[.slice A l.length cap] w fun e w' => e = .returned (.int .u8 (Cf.of l : Int)) ∧ w = w' := by
  have HI := Lib.hid (fun n => in_any l A cap w hA hlen n)
  clear hA
  go_enter Try.func12, Try.ntmps12
  go_wp2_with fail
  go_loopw [3, 4, 5] (fun v b i wr => ∃ n x y : Nat, 1 ≤ n ∧ n ≤ 6 ∧ i = .int .u8 (n : Int) ∧ v = .int .u8 (x : Int) ∧ b = .int .u8 (y : Int) ∧ x = Cf.low l n ∧ y = 2 ^ (n - 1) ∧ w = wr) (fun _ _ i _ => 6 - (intOf i).toNat)
  case atStart => exact ⟨1, 0, 1, by omega, by omega, rfl, rfl, rfl, (Cf.low_one l).symm, rfl, rfl⟩
  case round =>
    obtain ⟨n, x, y, h1, h6, rfl, rfl, rfl, hx, hy, rfl⟩ := hrel
    by_cases hlt : n ≤ 5
    · have hl1 : decide (n ≤ 5) = true := by simpa using hlt
      have hl2 : ((n : Int) ≤ 5) = True := by simp; omega
      have hxy : x < y := by rw [hx, hy]; exact Cf.low_lt l n h1 h6
      have hy16 : y ≤ 16 := by rw [hy]; exact Nat.pow_le_pow_right (n := 2) (by decide) (show n - 1 ≤ 4 by omega)
      have E2 : Hid (y * 2 = 2 ^ (n + 1 - 1)) := Lib.hid (by
        rw [hy]
        obtain ⟨k, rfl⟩ : ∃ k, n = k + 1 := ⟨n - 1, by omega⟩
        simp only [Nat.add_sub_cancel]; rw [Nat.pow_succ])
      have hst := Cf.low_add l n h1 hlt
      have HIn := Lib.hid (HI.out n)
      rw [← hx, ← hy] at hst
      clear hx hy
      by_cases ht : n ∈ l
      · rw [decide_eq_true ht] at HIn
        rw [if_pos ht] at hst
        have E := Lib.hid hst
        clear hst ht
        go_wp2_with (go_at_call 26; refine HIn.out.mono ?_; rintro e w1 ⟨rfl, rfl⟩)
        go_roundw
        case rel => exact ⟨n + 1, x + y, y * 2, by omega, by omega, by go_num, by go_num, by go_num, E.out.symm, E2.out, by trivial⟩
        case measure => simp [intOf]; omega
      · rw [decide_eq_false ht] at HIn
        rw [if_neg ht] at hst
        have E := Lib.hid hst
        clear hst ht
        go_wp2_with (go_at_call 26; refine HIn.out.mono ?_; rintro e w1 ⟨rfl, rfl⟩)
        go_roundw
        case rel => exact ⟨n + 1, x, y * 2, by omega, by omega, by go_num, by go_num, by go_num, E.out.symm, E2.out, by trivial⟩
        case measure => simp [intOf]; omega
    · obtain rfl : n = 6 := by omega
      have E := Lib.hid (hx.trans (Cf.low_six l))
      clear hx hy
      go_wp2_with fail
      go_ret
      exact ⟨by rw [← E.out]; rfl, rfl⟩
/-- A contract's end: a value; what was there is as it was. -/
def RetV (v : Value) (w : World) (e : Ending) (w' : World) : Prop := e = .returned v ∧ Below w.heap.size w w'
set_option maxRecDepth 100000 in
theorem rhas_any (m n : Nat) (hm : m < 256) (w : World) : Calls Try.prog 14 #[.int .u8 (m : Int), .int .u8 (n : Int)] w (RetV (.bool (Cf.has m n)) w) := by
  have HL := Lib.hid (rlist_any10 m hm w)
  have hlen := Cf.mem_len m
  have E : Hid (decide (n ∈ Cf.mem m) = Cf.has m n) := Lib.hid (by rw [Bool.eq_iff_iff, decide_eq_true_iff, Cf.mem_iff])
  obtain ⟨l, hl⟩ : ∃ l, l = Cf.mem m := ⟨_, rfl⟩
  rw [← hl] at HL hlen E
  clear hl
  go_enter Try.func14, Try.ntmps14
  go_wp2_with fail
  refine HL.out.mono ?_
  rintro e w1 ⟨lv, rfl, hlo, hb1⟩
  obtain ⟨A, cap, rfl, hli⟩ := hlo.lies
  have HI := Lib.hid (in_any l A cap w1 hli (by omega) n)
  have HB := Lib.hid hb1
  clear hlo hli hb1
  go_wp2_with fail
  refine HI.out.mono ?_
  rintro e w2 ⟨rfl, rfl⟩
  go_wp2_with fail
  go_ret
  exact ⟨by rw [← E.out]; rfl, HB.out⟩
end Go.Proofs.Ytdodpocckjcomaa
