/-
  The document's answers for layer 10, walked: majorities, what is near, what is more or less by one, levels.
-/
import Derived.Test.YtdodpocckjcomaaRCfRef
set_option linter.unusedSimpArgs false
set_option linter.unusedVariables false
namespace Go.Proofs.Ytdodpocckjcomaa
open Go.RowKit
theorem mem_cp (l : List Nat) (p : Nat → Bool) (j : Nat) (h : j < l.length) : (l.take (j + 1)).countP p = (l.take j).countP p + (if p l[j] = true then 1 else 0) := by
  rw [List.take_succ_eq_append_getElem h, List.countP_append, List.countP_singleton]
theorem cp_le (l : List Nat) (p : Nat → Bool) (j : Nat) : (l.take j).countP p ≤ l.length := Nat.le_trans List.countP_le_length (by rw [List.length_take]; omega)
set_option maxRecDepth 100000 in
theorem rwon_any (m v : Nat) (hm : m < 256) (hv : v < 256) (w : World) : Calls Try.prog 20 #[.int .u8 (m : Int), .int .u8 (v : Int)] w (RetV (.bool (Cf.won m v)) w) := by
  have HL := Lib.hid (rlist_any10 m hm w)
  have HH := Lib.hid (fun n w => rhas_any v n hv w)
  have hlen := Cf.mem_len m
  have E : Hid (Cf.won m v = decide ((Cf.mem m).length < 2 * (Cf.mem m).countP (Cf.has v))) := Lib.hid (Cf.won_eq m v)
  obtain ⟨l, hl⟩ : ∃ l, l = Cf.mem m := ⟨_, rfl⟩
  rw [← hl] at HL hlen E
  clear hl
  go_enter Try.func20, Try.ntmps20
  go_wp2_with fail
  refine HL.out.mono ?_
  rintro e w1 ⟨lv, rfl, hlo, hb1⟩
  obtain ⟨A, cap, rfl, hli⟩ := hlo.lies
  have H1 := Lib.hid (And.intro hb1 hli)
  clear hlo hli hb1
  go_wp2_with fail
  go_loopw [6, 7] (fun c i wr => ∃ j n : Nat, j ≤ l.length ∧ i = .int .i64 (j : Int) ∧ c = .int .i64 (n : Int) ∧ n = (l.take j).countP (Cf.has v) ∧ Below w1.heap.size w1 wr) (fun _ i _ => l.length - (intOf i).toNat)
  case atStart => exact ⟨0, 0, Nat.zero_le _, rfl, rfl, rfl, Below.refl _ _⟩
  case round =>
    obtain ⟨j, n, hj, rfl, rfl, hn, hb⟩ := hrel
    have hn5 : n ≤ 5 := by rw [hn]; exact Nat.le_trans (cp_le l _ j) hlen
    by_cases hlt : j < l.length
    · obtain ⟨x, hx⟩ : ∃ x, x = l[j] := ⟨_, rfl⟩
      obtain ⟨bb, oo, rfl, hcell⟩ := nc_cell (H1.out.2.below hb) hlt hx
      have hst := mem_cp l (Cf.has v) j hlt
      rw [← hn, ← hx] at hst
      have HHx := Lib.hid (HH.out x wr)
      have HB := Lib.hid hb
      clear hn hx hb
      cases ht : Cf.has v x with
      | true =>
        rw [ht] at HHx hst
        have E2 := Lib.hid hst
        clear hst ht
        go_wp2_with fail
        refine HHx.out.mono ?_
        rintro e w2 ⟨rfl, hb2⟩
        have HB2 := Lib.hid (bnext HB.out hb2)
        clear hb2
        go_wp2_with fail
        go_roundw
        case rel => exact ⟨j + 1, n + 1, by omega, by go_num, by go_num, by rw [E2.out]; rfl, HB2.out⟩
        case measure => simp [intOf]; omega
      | false =>
        rw [ht] at HHx hst
        have E2 := Lib.hid hst
        clear hst ht
        go_wp2_with fail
        refine HHx.out.mono ?_
        rintro e w2 ⟨rfl, hb2⟩
        have HB2 := Lib.hid (bnext HB.out hb2)
        clear hb2
        go_wp2_with fail
        go_roundw
        case rel => exact ⟨j + 1, n, by omega, by go_num, by go_num, by rw [E2.out]; rfl, HB2.out⟩
        case measure => simp [intOf]; omega
    · obtain rfl : j = l.length := by omega
      rw [List.take_of_length_le (Nat.le_refl _)] at hn
      have HF := Lib.hid (And.intro hn (H1.out.1.trans (hb.mono H1.out.1.size)))
      clear hn hb
      go_wp2_with fail
      go_ret
      refine ⟨?_, HF.out.2⟩
      rw [E.out, ← HF.out.1]
      show Ending.returned (Value.bool _) = Ending.returned (Value.bool _)
      congr 2
      rw [decide_eq_decide]
      omega
set_option maxRecDepth 100000 in
theorem rnear_any (a b : Nat) (ha : a < 256) (hb : b < 256) (w : World) : Calls Try.prog 24 #[.int .u8 (a : Int), .int .u8 (b : Int)] w (RetV (.bool (Cf.near a b)) w) := by
  have HHa := Lib.hid (fun n w => rhas_any a n ha w)
  have HHb := Lib.hid (fun n w => rhas_any b n hb w)
  have E := Lib.hid (Cf.diff_six a b)
  go_enter Try.func24, Try.ntmps24
  go_wp2_with fail
  go_loopw [5, 6] (fun c i wr => ∃ k n : Nat, 1 ≤ k ∧ k ≤ 6 ∧ i = .int .u8 (k : Int) ∧ c = .int .i64 (n : Int) ∧ n = Cf.diff a b k ∧ Below w.heap.size w wr) (fun _ i _ => 6 - (intOf i).toNat)
  case atStart => exact ⟨1, 0, by omega, by omega, rfl, rfl, (Cf.diff_one a b).symm, Below.refl _ _⟩
  case round =>
    obtain ⟨k, n, h1, h6, rfl, rfl, hn, hbl⟩ := hrel
    have hn5 : n ≤ 5 := by rw [hn]; exact Cf.diff_le a b k
    by_cases hlt : k ≤ 5
    · have hl1 : decide (k ≤ 5) = true := by simpa using hlt
      have hl2 : ((k : Int) ≤ 5) = True := by simp; omega
      have hst := Cf.diff_add a b k h1 hlt
      rw [← hn] at hst
      have HXa := Lib.hid (fun w => HHa.out k w)
      have HXb := Lib.hid (fun w => HHb.out k w)
      have HB := Lib.hid hbl
      clear hn hbl
      cases hta : Cf.has a k <;> cases htb : Cf.has b k
      all_goals
        rw [hta, htb] at hst
        rw [hta] at HXa
        rw [htb] at HXb
        have E2 := Lib.hid hst
        clear hst hta htb
        go_wp2_with fail
        refine (HXa.out _).mono ?_
        rintro e w2 ⟨rfl, hb2⟩
        have HB2 := Lib.hid (bnext HB.out hb2)
        clear hb2
        go_wp2_with fail
        refine (HXb.out _).mono ?_
        rintro e w3 ⟨rfl, hb3⟩
        have HB3 := Lib.hid (bnext HB2.out hb3)
        clear hb3
        go_wp2_with fail
        go_roundw
        case rel => first | exact ⟨k + 1, n, by omega, by omega, by go_num, by go_num, by rw [E2.out]; rfl, HB3.out⟩ | exact ⟨k + 1, n + 1, by omega, by omega, by go_num, by go_num, by rw [E2.out]; rfl, HB3.out⟩
        case measure => simp [intOf]; omega
    · obtain rfl : k = 6 := by omega
      have HF := Lib.hid (And.intro hn hbl)
      clear hn hbl
      go_wp2_with fail
      go_ret
      refine ⟨?_, HF.out.2⟩
      rw [E.out, ← HF.out.1]
      show Ending.returned (Value.bool _) = Ending.returned (Value.bool _)
      congr 2
      rw [decide_eq_decide]
      omega
set_option maxRecDepth 100000 in
set_option maxHeartbeats 2000000 in
theorem radd_any (m n : Nat) (hm : m < 256) (hn : n < 256) (w : World) : Calls Try.prog 16 #[.int .u8 (m : Int), .int .u8 (n : Int)] w (RetV (ax (Cf.add m n)) w) := by
  have HH := Lib.hid (rhas_any m n hm w)
  by_cases h1 : 1 ≤ n
  · have a1 : decide (n < 1) = false := decide_eq_false (by omega)
    have a2 : ((n : Int) < 1) = False := by simp; omega
    by_cases h2 : n ≤ 5
    · have b1 : decide (5 < n) = false := decide_eq_false (by omega)
      have b2 : ((5 : Int) < (n : Int)) = False := by simp; omega
      cases ht : Cf.has m n with
      | true =>
        rw [ht] at HH
        have E : Hid (Cf.add m n = (0, 5)) := Lib.hid (by unfold Cf.add; rw [if_pos ⟨h1, h2⟩, if_pos ht])
        clear ht
        go_enter Try.func16, Try.ntmps16
        go_wp2_with fail
        refine HH.out.mono ?_
        rintro e w2 ⟨rfl, hb2⟩
        have HB2 := Lib.hid hb2
        clear hb2
        go_wp2_with fail
        go_ret2
        exact ⟨by rw [E.out]; rfl, HB2.out⟩
      | false =>
        rw [ht] at HH
        have E : Hid (Cf.add m n = (Cf.of (Cf.mem m ++ [n]), 0)) := Lib.hid (by rw [Cf.add_ref m n hm h1 h2 ht]; unfold Cf.add; rw [if_pos ⟨h1, h2⟩, ht]; rfl)
        obtain ⟨i0, hi, hz0, hz1, hz2⟩ := info_parts Try.infoByte
        have HI := Lib.hid (And.intro hi (And.intro hz0 (And.intro hz1 hz2)))
        have HL := Lib.hid (fun w => rlist_any10 m hm w)
        have hlen := Cf.mem_len m
        obtain ⟨l, hl⟩ : ∃ l, l = Cf.mem m := ⟨_, rfl⟩
        rw [← hl] at HL hlen E
        clear ht hl hi hz0 hz1 hz2
        go_enter Try.func16, Try.ntmps16
        go_wp2_with fail
        refine HH.out.mono ?_
        rintro e w2 ⟨rfl, hb2⟩
        have HB2 := Lib.hid hb2
        clear hb2
        go_wp2_with fail
        refine (HL.out _).mono ?_
        rintro e w3 ⟨lv, rfl, hlo, hb3⟩
        have HB3 := Lib.hid (And.intro (bnext HB2.out hb3) (And.intro hb3 hlo))
        have hsz := hb3.size
        clear hb3 hlo
        go_wp2_with (at_builtin; refine wpList_append_own _ rfl (.tmp 16) (.tmp 18) 24 rfl w2.heap.size 5 i0 (.int .u8 0) 1 1 Try.underlying24 HI.out.1 HI.out.2.1 HI.out.2.2.1 HI.out.2.2.2 rfl (by decide) _ _ _ rfl (World.ownsRow.alloc HB3.out.2.2 _) ⟨w3.heap.size, 0, none⟩ 1 1 [_] rfl rfl (cell_one_new _ _ _) (fun u hu => by simp at hu; subst hu; rfl) (by simp only [maxLen]; omega) (by omega) (by simp; omega) ?_; intro v' w5 ho1 hg1 _)
        have R := ownN_step HB3.out.2.2 HB3.out.2.1 hsz ho1 hg1
        clear ho1 hg1
        obtain ⟨A, cap, rfl, hli⟩ := R.1.lies
        have HO := Lib.hid (rof_any (l ++ [n]) A cap w5 hli (by rw [List.length_append, List.length_singleton]; omega))
        have HF := Lib.hid (HB2.out.trans (R.2.mono HB2.out.size))
        clear R hli
        go_wp2_with fail
        refine HO.out.mono ?_
        rintro e w6 ⟨rfl, rfl⟩
        go_wp2_with fail
        go_ret2
        exact ⟨by rw [E.out]; rfl, HF.out⟩
    · have b1 : decide (5 < n) = true := decide_eq_true (by omega)
      have b2 : ((5 : Int) < (n : Int)) = True := by simp; omega
      have E : Hid (Cf.add m n = (0, 1)) := Lib.hid (by unfold Cf.add; rw [if_neg (by omega)])
      clear HH
      go_enter Try.func16, Try.ntmps16
      go_wp2_with fail
      go_ret2
      exact ⟨by rw [E.out]; rfl, Below.refl _ _⟩
  · have a1 : decide (n < 1) = true := decide_eq_true (by omega)
    have a2 : ((n : Int) < 1) = True := by simp; omega
    have E : Hid (Cf.add m n = (0, 1)) := Lib.hid (by unfold Cf.add; rw [if_neg (by omega)])
    clear HH
    go_enter Try.func16, Try.ntmps16
    go_wp2_with fail
    go_ret2
    exact ⟨by rw [E.out]; rfl, Below.refl _ _⟩
theorem ft_snoc (l : List Nat) (p : Nat → Bool) (j : Nat) (h : j < l.length) : (l.take (j + 1)).filter p = (l.take j).filter p ++ (if p l[j] = true then [l[j]] else []) := by
  rw [List.take_succ_eq_append_getElem h, List.filter_append]
  congr 1
  cases hp : p l[j] <;> simp [hp]
set_option maxRecDepth 100000 in
set_option maxHeartbeats 2000000 in
theorem rout_any (m n : Nat) (hm : m < 256) (hn : n < 256) (w : World) : Calls Try.prog 18 #[.int .u8 (m : Int), .int .u8 (n : Int)] w (RetV (ax (Cf.out m n)) w) := by
  have HH := Lib.hid (rhas_any m n hm w)
  by_cases h1 : 1 ≤ n
  · have a1 : decide (n < 1) = false := decide_eq_false (by omega)
    have a2 : ((n : Int) < 1) = False := by simp; omega
    by_cases h2 : n ≤ 5
    · have b1 : decide (5 < n) = false := decide_eq_false (by omega)
      have b2 : ((5 : Int) < (n : Int)) = False := by simp; omega
      cases ht : Cf.has m n with
      | false =>
        rw [ht] at HH
        have E : Hid (Cf.out m n = (0, 4)) := Lib.hid (by unfold Cf.out; rw [if_pos ⟨h1, h2⟩, ht]; rfl)
        clear ht
        go_enter Try.func18, Try.ntmps18
        go_wp2_with fail
        refine HH.out.mono ?_
        rintro e w2 ⟨rfl, hb2⟩
        have HB2 := Lib.hid hb2
        clear hb2
        go_wp2_with fail
        go_ret2
        exact ⟨by rw [E.out]; rfl, HB2.out⟩
      | true =>
        rw [ht] at HH
        have E : Hid (Cf.out m n = (Cf.of ((Cf.mem m).filter fun k => decide (k ≠ n)), 0)) := Lib.hid (by
          have := Cf.out_ref ⟨m, hm⟩ ⟨n, by omega⟩ h1 ht
          simp only at this
          rw [this]; unfold Cf.out; rw [if_pos ⟨h1, h2⟩, if_pos ht])
        obtain ⟨i0, hi, hz0, hz1, hz2⟩ := info_parts Try.infoByte
        have HI := Lib.hid (And.intro hi (And.intro hz0 (And.intro hz1 hz2)))
        have HL := Lib.hid (fun w => rlist_any10 m hm w)
        have hlen := Cf.mem_len m
        obtain ⟨l, hl⟩ : ∃ l, l = Cf.mem m := ⟨_, rfl⟩
        rw [← hl] at HL hlen E
        clear ht hl hi hz0 hz1 hz2
        go_enter Try.func18, Try.ntmps18
        go_wp2_with fail
        refine HH.out.mono ?_
        rintro e w2 ⟨rfl, hb2⟩
        have HB2 := Lib.hid hb2
        clear hb2
        go_wp2_with fail
        refine (HL.out _).mono ?_
        rintro e w3 ⟨lv, rfl, hlo, hb3⟩
        obtain ⟨A, cap, rfl, hli⟩ := hlo.lies
        have HB3 := Lib.hid (And.intro (bnext HB2.out hb3) hli)
        clear hb3 hlo hli
        go_wp2_with fail
        go_loopw [7, 8] (fun v i wr => ∃ j, j ≤ l.length ∧ i = .int .i64 (j : Int) ∧ OwnN wr w3.heap.size v ((l.take j).filter fun k => decide (k ≠ n)) ∧ Below w3.heap.size w3 wr) (fun _ i _ => l.length - (intOf i).toNat)
        case atStart => exact ⟨0, Nat.zero_le _, rfl, OwnN.nil _ _, Below.refl _ _⟩
        case round =>
          obtain ⟨j, hj, rfl, ho, hb⟩ := hrel
          by_cases hlt : j < l.length
          · obtain ⟨x, hx⟩ : ∃ x, x = l[j] := ⟨_, rfl⟩
            obtain ⟨bb, oo, rfl, hcell⟩ := nc_cell (HB3.out.2.below hb) hlt hx
            have hst := ft_snoc l (fun k => decide (k ≠ n)) j hlt
            rw [← hx] at hst
            have hql : ((l.take j).filter fun k => decide (k ≠ n)).length ≤ 5 := Nat.le_trans (List.length_filter_le _ _) (by rw [List.length_take]; omega)
            obtain ⟨q, hq⟩ : ∃ q, q = (l.take j).filter fun k => decide (k ≠ n) := ⟨_, rfl⟩
            rw [← hq] at hst ho hql
            have hbs := hb.size
            by_cases hxn : x = n
            · have e1 : ((x : Int) != (n : Int)) = false := by simp; omega
              have e2 : ((x : Int) = (n : Int)) = True := by simp; omega
              have E2 : Hid ((l.take (j + 1)).filter (fun k => decide (k ≠ n)) = q) := Lib.hid (by rw [hst]; simp [hxn])
              have HB := Lib.hid (And.intro ho hb)
              clear hst hx hq ho hb hxn
              go_wp2_with fail
              go_roundw
              case rel => exact ⟨j + 1, by omega, by go_num, by rw [E2.out]; exact HB.out.1, HB.out.2⟩
              case measure => simp [intOf]; omega
            · have e1 : ((x : Int) != (n : Int)) = true := by simp; omega
              have e2 : ((x : Int) = (n : Int)) = False := by simp; omega
              have E2 : Hid ((l.take (j + 1)).filter (fun k => decide (k ≠ n)) = q ++ [x]) := Lib.hid (by rw [hst]; simp [hxn])
              have HB := Lib.hid (And.intro ho hb)
              clear hst hx hq ho hb hxn
              go_wp2_with (at_builtin; refine wpList_append_own _ rfl (.tmp 33) (.tmp 38) 24 rfl w3.heap.size 5 i0 (.int .u8 0) 1 1 Try.underlying24 HI.out.1 HI.out.2.1 HI.out.2.2.1 HI.out.2.2.2 rfl (by decide) _ _ _ rfl (World.ownsRow.alloc HB.out.1 _) ⟨wr.heap.size, 0, none⟩ 1 1 [_] rfl rfl (cell_one_new _ _ _) (fun u hu => by simp at hu; subst hu; rfl) (by simp only [maxLen]; omega) (by omega) (by simp; omega) ?_; intro v' w5 ho1 hg1 _)
              have R := Lib.hid (ownN_step HB.out.1 HB.out.2 hbs ho1 hg1)
              clear ho1 hg1
              go_roundw
              case rel => exact ⟨j + 1, by omega, by go_num, by rw [E2.out]; exact R.out.1, R.out.2⟩
              case measure => simp [intOf]; omega
          · obtain rfl : j = l.length := by omega
            rw [List.take_of_length_le (Nat.le_refl _)] at ho
            obtain ⟨q, hq⟩ : ∃ q, q = l.filter fun k => decide (k ≠ n) := ⟨_, rfl⟩
            have hql : q.length ≤ 5 := by rw [hq]; exact Nat.le_trans (List.length_filter_le _ _) hlen
            rw [← hq] at ho E
            obtain ⟨D, dc, rfl, hli⟩ := ho.lies
            have HO := Lib.hid (rof_any q D dc wr hli (by omega))
            have HF := Lib.hid (HB3.out.1.trans (hb.mono HB3.out.1.size))
            clear ho hb hli hq
            go_wp2_with fail
            refine HO.out.mono ?_
            rintro e w6 ⟨rfl, rfl⟩
            go_wp2_with fail
            go_ret2
            exact ⟨by rw [E.out]; rfl, HF.out⟩
    · have b1 : decide (5 < n) = true := decide_eq_true (by omega)
      have b2 : ((5 : Int) < (n : Int)) = True := by simp; omega
      have E : Hid (Cf.out m n = (0, 1)) := Lib.hid (by unfold Cf.out; rw [if_neg (by omega)])
      clear HH
      go_enter Try.func18, Try.ntmps18
      go_wp2_with fail
      go_ret2
      exact ⟨by rw [E.out]; rfl, Below.refl _ _⟩
  · have a1 : decide (n < 1) = true := decide_eq_true (by omega)
    have a2 : ((n : Int) < 1) = True := by simp; omega
    have E : Hid (Cf.out m n = (0, 1)) := Lib.hid (by unfold Cf.out; rw [if_neg (by omega)])
    clear HH
    go_enter Try.func18, Try.ntmps18
    go_wp2_with fail
    go_ret2
    exact ⟨by rw [E.out]; rfl, Below.refl _ _⟩
end Go.Proofs.Ytdodpocckjcomaa
