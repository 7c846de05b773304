/-
  NumBack walked, but for a text of more than 20000 bytes.
-/
import Derived.Test.YtnfghgkdedmphaaNumAwake
import Derived.Test.YtnfghgkdedmphaaNumGreat
import Derived.Test.YtnfghgkdedmphaaOpen
import Derived.Test.YtnfghgkdedmphaaNumBackA
import Derived.Test.YtnfghgkdedmphaaNumBackB
import Derived.Deep.RegionHeld3
import Derived.Deep.QuietTactic
import Derived.Lib.QuietBelow
import Derived.BigQuiet
namespace Go.Proofs.Ytnfghgkdedmphaa
open Go.RowKit
set_option linter.unusedVariables false

theorem vs_drop (ns : List Nat) (k : Nat) (hk : k < ns.length) : vs (ns.drop k) = Nm.grp ns[k] ++ vs (ns.drop (k + 1)) := by
  unfold vs
  rw [List.drop_eq_getElem_cons hk, List.map_cons, List.flatten_cons]
theorem sr_drop (ss : List ByteArray) (k : Nat) (hk : k < ss.length) : sr (ss.drop k) = row ss[k].data.toList ++ sr (ss.drop (k + 1)) := by
  unfold sr
  rw [List.drop_eq_getElem_cons hk, List.map_cons, List.flatten_cons]

theorem below_drewN {B : Nat} {a w : World} (h : Below B a w) (n : Nat) : Below B a (w.drewN n) := ⟨h.os, h.tape, h.output, h.size, h.block⟩

/-- A row is read again, whatever follows. -/
theorem readS_row (l r : List UInt8) (h : l.length < Nm.top) : Nm.readS (row l ++ r) = some (l, (row l).length) := by
  unfold Nm.readS row
  rw [List.append_assoc, Nm.readV_grp _ h]
  simp only []
  rw [if_pos (by simp)]
  simp

/-- The first loop's round: the next number is read. -/
theorem back_v (t : ByteArray) (n : Nat) (r : List UInt8) (hn : n < Nm.top) (ht : t.data.toList = Nm.grp n ++ r) (hz : t.size ≤ 1000000000) : ∃ k : Nat, 1 ≤ k ∧ k ≤ t.size ∧ (t.extract k t.size).data.toList = r ∧
    ∀ W, Calls Try.prog 10 #[.string t] W fun e w' => e = .returned (.tuple #[.int .u64 (n : Int), .int .i64 (k : Int), .bool true]) ∧ W = w' := by
  have hl : (Nm.grp n).length = Nm.cnt n + 1 := Nm.grp_length n
  have hs : t.size = (Nm.grp n).length + r.length := by rw [Lib.size_eq, ht, List.length_append]
  refine ⟨(Nm.grp n).length, by omega, by omega, ?_, fun W => ?_⟩
  · rw [Lib.extract_data, ht, List.drop_left' rfl, List.take_of_length_le (by omega)]
  · have := ReadV_any t W (by omega)
    rw [ht, Nm.readV_grp n hn] at this
    exact this

theorem back_s (t x : ByteArray) (r : List UInt8) (ht : t.data.toList = row x.data.toList ++ r) (hz : t.size ≤ 1000000000) : ∃ k : Nat, x.size < k ∧ k ≤ t.size ∧ (t.extract k t.size).data.toList = r ∧
    ∀ W, Calls Try.prog 11 #[.string t] W fun e w' => e = .returned (.tuple #[.string x, .int .i64 (k : Int), .bool true]) ∧ Below W.heap.size W w' := by
  have hl : (row x.data.toList).length = Nm.cnt x.data.toList.length + 1 + x.size := by
    unfold row; rw [List.length_append, Nm.grp_length, Lib.size_eq]
  have hs : t.size = (row x.data.toList).length + r.length := by rw [Lib.size_eq, ht, List.length_append]
  refine ⟨(row x.data.toList).length, by omega, by omega, ?_, fun W => ?_⟩
  · rw [Lib.extract_data, ht, List.drop_left' rfl, List.take_of_length_le (by omega)]
  · have := ReadS_any t W (by omega)
    rw [ht, readS_row _ _ (by rw [← Lib.size_eq]; unfold Nm.top; omega)] at this
    simp only [rs] at this
    rw [Lib.mk_data] at this
    exact this

set_option maxRecDepth 100000 in
set_option maxHeartbeats 2000000 in
theorem numBack_main (w : World) (A : Option Addr) (cap : Nat) (ns : List Nat) (hl : Lies w A (uc ns)) (hn : ∀ n ∈ ns, n < Nm.top) (hm : ns.length ≤ 120)
    (B : Option Addr) (cap' : Nat) (ss : List ByteArray) (hl' : Lies w B (sc ss)) (hm' : ss.length ≤ 120) (htot : tot ss ≤ 20000) (hs : ∀ s ∈ ss, s.size ≤ maxLen) (s : ByteArray) (hsz : s.size ≤ 20000) :
    Calls Try.prog 6 #[.slice A ns.length cap, .slice B ss.length cap', .string s] w fun e w' => e = .returned (.bool true) ∧ Below w.heap.size w w' := by
  have hG := Great_any ss B cap' w hl' (by unfold maxLen; omega) hs
  rw [decide_eq_false (by omega)] at hG
  have HG := Lib.hid hG
  have hvl := vs_len ns hn
  have hsl : (sr ss).length ≤ 22000 := by
    have := sr_len ss (fun s h => by have := tot_mem ss s h; omega)
    omega
  obtain ⟨xv, hxv⟩ : ∃ x : ByteArray, x = ⟨(vs ns).toArray⟩ := ⟨_, rfl⟩
  obtain ⟨xs, hxs⟩ : ∃ x : ByteArray, x = ⟨(sr ss).toArray⟩ := ⟨_, rfl⟩
  have hv1 : ∀ W, Below w.heap.size w W → Calls Try.prog 13 #[.slice A ns.length cap] W fun e w' => e = .returned (.string xv) ∧ Below W.heap.size W w' := fun W hb => by
    have := V_any ns hn A cap W (hl.below hb) (by omega); unfold RetS at this; rw [← hxv] at this; exact this
  have hs1 : ∀ W, Below w.heap.size w W → Calls Try.prog 14 #[.slice B ss.length cap'] W fun e w' => e = .returned (.string xs) ∧ Below W.heap.size W w' := fun W hb => by
    have := S_any ss B cap' W (hl'.below hb) (by omega) (by omega); unfold RetS at this; rw [← hxs] at this; exact this
  have hzv : xv.size ≤ 1200 := by rw [hxv, Lib.size_eq]; simp only; omega
  have hzs : xs.size ≤ 22000 := by rw [hxs, Lib.size_eq]; simpa using hsl
  have hrest : (xv ++ xs ++ s).data.toList = vs ns ++ (sr ss ++ s.data.toList) := by
    rw [hxv, hxs]; simp [ByteArray.data_append]
  have Hv1 := Lib.hid hv1
  have Hs1 := Lib.hid hs1
  have Hrest := Lib.hid hrest
  have Hl := Lib.hid hl
  have Hl' := Lib.hid hl'
  have Hn := Lib.hid hn
  clear hG hv1 hs1 hrest hl hl' hn hs hxv hxs hvl
  have d1 : decide ((120 : Int) < (ns.length : Int)) = false := by simp; omega
  have d2 : decide ((20000 : Int) < (s.size : Int)) = false := by simp; omega
  have hzz : (xv ++ xs).size ≤ 23200 := by rw [ByteArray.size_append]; omega
  go_enter Try.func6, Try.ntmps6
  go_wp2_with (first | (go_at_call 16; refine HG.out.mono ?_; rintro e w' ⟨rfl, rfl⟩) | (go_at_call 13; refine (Hv1.out _ (Below.refl _ _)).mono ?_; rintro e w1 ⟨rfl, hb1⟩) | (go_at_call 14; refine (Hs1.out _ hb1).mono ?_; rintro e w2 ⟨rfl, hb2⟩; have hc2 := bnext hb1 hb2))
  have hzr : (xv ++ xs ++ s).size ≤ 50000 := by rw [ByteArray.size_append]; omega
  obtain ⟨r0, hr0⟩ : ∃ r, r = xv ++ xs ++ s := ⟨_, rfl⟩
  rw [← hr0] at hzr Hrest ⊢
  clear hr0 hzz
  go_loop [7, 8, 9, 10, 11] (fun v i _ _ _ => ∃ (k : Nat) (r : ByteArray), k ≤ ns.length ∧ v = .string r ∧ i = .int .i64 (k : Int) ∧ r.size ≤ 50000 ∧ r.data.toList = vs (ns.drop k) ++ (sr ss ++ s.data.toList)) (fun _ i _ _ _ => ns.length - (intOf i).toNat)
  case atStart => exact ⟨0, r0, Nat.zero_le _, rfl, rfl, hzr, Hrest.out⟩
  case round =>
    obtain ⟨k, r, hk, rfl, rfl, hrz, hrl⟩ := hrel
    by_cases hlt : k < ns.length
    · rcases Hl.out with hl | ⟨b, off, rfl, hlb, hc⟩
      · exfalso; have := congrArg List.length hl; simp [uc] at this; simp [this] at hlt
      · have hcell : w2.cell? ⟨b, off + k, none⟩ = some (.int .u64 (ns[k] : Nat)) := (hc2.cell (p := ⟨b, off + k, none⟩) hlb).trans (hc k _ (by simp [uc, hlt]))
        have hnk : ns[k] < Nm.top := Hn.out _ (List.getElem_mem hlt)
        rw [vs_drop ns k hlt, List.append_assoc] at hrl
        obtain ⟨j, hj1, hj2, hj3, hcall⟩ := back_v r ns[k] _ hnk hrl (by omega)
        have Hcall := Lib.hid hcall
        have Hj3 := Lib.hid hj3
        clear hcall hj3 hrl hnk hc
        have hxz : (r.extract j r.size).size ≤ 50000 := by rw [ByteArray.size_extract]; omega
        go_wp2_with (go_at_call 10; refine (Hcall.out _).mono ?_; rintro e w' ⟨rfl, rfl⟩)
        go_round
        case rel => exact ⟨k + 1, r.extract j r.size, by omega, rfl, by go_num, hxz, Hj3.out⟩
        case measure => simp [intOf]; omega
    · obtain rfl : k = ns.length := by omega
      have hrl2 : r.data.toList = sr ss ++ s.data.toList := by rw [hrl]; simp [vs]
      have Hrl2 := Lib.hid hrl2
      clear hrl hrl2
      go_wp2
      go_loopw [7, 12, 13, 14, 15] (fun v i _ _ _ wr => ∃ (k : Nat) (r : ByteArray), k ≤ ss.length ∧ v = .string r ∧ i = .int .i64 (k : Int) ∧ r.size ≤ 50000 ∧ r.data.toList = sr (ss.drop k) ++ s.data.toList ∧ Below w.heap.size w wr) (fun _ i _ _ _ _ => ss.length - (intOf i).toNat)
      case atStart => exact ⟨0, r, Nat.zero_le _, rfl, rfl, hrz, Hrl2.out, hc2⟩
      case round =>
        clear hrz Hrl2
        obtain ⟨k, t, hk, rfl, rfl, htz, htl, hbr⟩ := hrel
        by_cases hlt : k < ss.length
        · rcases Hl'.out with hl | ⟨b, off, rfl, hlb, hc⟩
          · exfalso; have := congrArg List.length hl; simp [sc] at this; simp [this] at hlt
          · have hcell : wr.cell? ⟨b, off + k, none⟩ = some (.string ss[k]) := (hbr.cell (p := ⟨b, off + k, none⟩) hlb).trans (hc k _ (by simp [sc, hlt]))
            rw [sr_drop ss k hlt, List.append_assoc] at htl
            obtain ⟨x, hx⟩ : ∃ x, x = ss[k] := ⟨_, rfl⟩
            rw [← hx] at hcell htl
            clear hx
            obtain ⟨j, hj1, hj2, hj3, hcall⟩ := back_s t x _ htl (by omega)
            have hcell2 : ∀ W, Below wr.heap.size wr W → W.cell? ⟨b, off + k, none⟩ = some (.string x) := fun W hb => (hb.cell (p := ⟨b, off + k, none⟩) (Nat.lt_of_lt_of_le hlb hbr.size)).trans hcell
            have Hcell2 := Lib.hid hcell2
            have Hcall := Lib.hid hcall
            have Hj3 := Lib.hid hj3
            clear hcall hj3 htl hc hcell2
            have hxz : (t.extract j t.size).size ≤ 50000 := by rw [ByteArray.size_extract]; omega
            go_wp2_with (go_at_call 11; refine (Hcall.out _).mono ?_; rintro e w3 ⟨rfl, hb3⟩; have hcell3 := Hcell2.out _ hb3)
            go_roundw
            case rel => exact ⟨k + 1, t.extract j t.size, by omega, rfl, by go_num, hxz, Hj3.out, bnext hbr hb3⟩
            case measure => simp [intOf]; omega
        · obtain rfl : k = ss.length := by omega
          have htl2 : t = s := by
            rw [List.drop_length] at htl
            exact ByteArray.ext (Array.toList_inj.1 (by simpa [sr] using htl))
          subst htl2
          clear htl htz hc2
          have hv := ReadV_any t
          have hs := ReadS_any t
          rcases hrv : Nm.readV t.data.toList with _ | ⟨n, j⟩
          · have hrs : Nm.readS t.data.toList = none := by unfold Nm.readS; rw [hrv]
            rw [hrv, rv] at hv
            rw [hrs, rs] at hs
            have Hv := Lib.hid (fun W => hv W (by omega))
            have Hs := Lib.hid (fun W => hs W (by omega))
            clear hv hs hrv hrs
            go_wp2_with (go_at_call 10; refine (Hv.out _).mono ?_; rintro e w' ⟨rfl, rfl⟩)
            go_quiet (fail)
            go_wp2_with (go_at_call 11; refine (Hs.out _).mono ?_; rintro e w3 ⟨rfl, hb3⟩)
            clear HG Hv1 Hs1 Hrest Hl Hl' Hn Hv Hs
            refine wp_region_quiet_below (by kernel_rfl) (by kernel_rfl) ?_
            repeat (go_big_quiet_step ((go_at_call 15; exact Calls.regrown_of (awake_any _))))
            refine wpQuiet_nil ?_
            intro _ hw'
            obtain ⟨pq, hw''⟩ := hw'
            subst hw''
            have hb4 := below_regrown w3 pq.d pq.os
            generalize Go.Sort.grow (redrawn w3 pq.d) pq.os = w4 at *
            go_wp2
            go_ret
            exact ⟨rfl, bnext (bnext (below_drewN hbr _) hb3) hb4⟩
          · obtain ⟨hnt, hj1, hj2, hj3⟩ := Nm.readV_le hrv
            obtain ⟨_, _, _, _, hgr, _⟩ := Nm.readV_shape hrv
            rw [← Lib.size_eq] at hj2
            rw [hrv, rv] at hv
            obtain ⟨x, hx⟩ : ∃ x : ByteArray, x = ⟨(Nm.grp n).toArray⟩ := ⟨_, rfl⟩
            have hxe : (x.toList == (t.extract 0 j).toList) = true := by
              rw [hx, ByteArray.toList_mk, Lib.extract_toList, List.drop_zero, Nat.sub_zero, hgr]; simp
            have hV : ∀ (W : World) (A : Option Addr), Lies W A (uc [n]) → Calls Try.prog 13 #[.slice A 1 1] W fun e w' => e = .returned (.string x) ∧ Below W.heap.size W w' := fun W A hl => by
              have := V_any [n] (by simpa using hnt) A 1 W hl (by simp)
              have e : vs [n] = Nm.grp n := by simp [vs]
              rw [e] at this
              unfold RetS at this
              rw [← hx] at this
              exact this
            have Hv := Lib.hid (fun W => hv W (by omega))
            have HV := Lib.hid hV
            have Hxe := Lib.hid hxe
            clear hv hV hxe hx hgr hnt
            rcases hrs : Nm.readS t.data.toList with _ | ⟨y, m⟩
            · rw [hrs, rs] at hs
              have Hs := Lib.hid (fun W => hs W (by omega))
              clear hs hrs hrv
              go_wp2_with (go_at_call 10; refine (Hv.out _).mono ?_; rintro e w' ⟨rfl, rfl⟩)
              refine r23_yes t x n j _ hj1 hj2 (by omega) Hxe.out HV.out _ ?_
              intro u w3 hb3
              go_wp2_with (go_at_call 11; refine (Hs.out _).mono ?_; rintro e w4 ⟨rfl, hb4⟩)
              clear HG Hv1 Hs1 Hrest Hl Hl' Hn Hv Hs HV Hxe
              refine wp_region_quiet_below (by kernel_rfl) (by kernel_rfl) ?_
              repeat (go_big_quiet_step ((go_at_call 15; exact Calls.regrown_of (awake_any _))))
              refine wpQuiet_nil ?_
              intro _ hw'
              obtain ⟨pq, hw''⟩ := hw'
              subst hw''
              have hb5 := below_regrown w4 pq.d pq.os
              generalize Go.Sort.grow (redrawn w4 pq.d) pq.os = w5 at *
              go_wp2
              go_ret
              exact ⟨rfl, bnext (bnext (bnext hbr hb3) hb4) hb5⟩
            · have hm := hrs
              unfold Nm.readS at hm
              rw [hrv] at hm
              simp only [] at hm
              rw [← Lib.size_eq] at hm
              by_cases hle : n ≤ t.size - j
              · rw [if_pos hle] at hm
                injection hm with hm
                injection hm with hy hmm
                obtain ⟨z, hz⟩ : ∃ z : ByteArray, z = ⟨y.toArray⟩ := ⟨_, rfl⟩
                have hrow : row y = t.data.toList.take m := by
                  obtain ⟨hn, r, hl, hjl⟩ := (Nm.readV_iff _ _ _).1 hrv
                  have hd : t.data.toList.drop j = r := by rw [hl, hjl, List.drop_left' rfl]
                  have hyl : y.length = n := by
                    rw [← hy, List.length_take, List.length_drop, ← Lib.size_eq]; omega
                  unfold row
                  rw [hyl, ← hmm, hl, List.take_append, hjl, List.take_of_length_le (by omega), ← hy, hd]
                  congr 2; omega
                have hrl : (row y).length ≤ 20000 := by rw [hrow, List.length_take, ← Lib.size_eq]; omega
                obtain ⟨x2, hx2⟩ : ∃ x : ByteArray, x = ⟨(row y).toArray⟩ := ⟨_, rfl⟩
                have hxe2 : (x2.toList == (t.extract 0 m).toList) = true := by
                  rw [hx2, ByteArray.toList_mk, Lib.extract_toList, List.drop_zero, Nat.sub_zero, hrow]; simp
                have hS : ∀ (W : World) (A : Option Addr), Lies W A (sc [z]) → Calls Try.prog 14 #[.slice A 1 1] W fun e w' => e = .returned (.string x2) ∧ Below W.heap.size W w' := fun W A hl => by
                  have e : sr [z] = row y := by simp [sr, hz]
                  have := S_any [z] A 1 W hl (by simp) (by rw [e]; omega)
                  rw [e] at this
                  unfold RetS at this
                  rw [← hx2] at this
                  exact this
                rw [hrs, rs] at hs
                rw [← hz] at hs
                have hm1 : 1 ≤ m := by omega
                have hm2 : m ≤ t.size := by omega
                have Hs := Lib.hid (fun W => hs W (by omega))
                have HS := Lib.hid hS
                have Hxe2 := Lib.hid hxe2
                clear hs hS hxe2 hx2 hrl hrow hz hy hmm hrs hrv
                go_wp2_with (go_at_call 10; refine (Hv.out _).mono ?_; rintro e w' ⟨rfl, rfl⟩)
                refine r23_yes t x n j _ hj1 hj2 (by omega) Hxe.out HV.out _ ?_
                intro u w3 hb3
                go_wp2_with (go_at_call 11; refine (Hs.out _).mono ?_; rintro e w4 ⟨rfl, hb4⟩)
                refine r26_yes t x2 z m _ hm1 hm2 (by omega) Hxe2.out HS.out _ ?_
                intro u2 w5 hb5
                go_wp2
                go_ret
                exact ⟨rfl, bnext (bnext (bnext hbr hb3) hb4) hb5⟩
              · rw [if_neg hle] at hm
                cases hm

set_option maxRecDepth 100000 in
set_option maxHeartbeats 1000000 in
theorem numBack_great (w : World) (A : Option Addr) (cap : Nat) (ns : List Nat) (hm : ns.length ≤ maxLen)
    (B : Option Addr) (cap' : Nat) (ss : List ByteArray) (hl' : Lies w B (sc ss)) (hm' : ss.length ≤ maxLen) (hs : ∀ s ∈ ss, s.size ≤ maxLen) (s : ByteArray) (hg : 120 < ns.length ∨ 120 < ss.length ∨ 20000 < tot ss) :
    Calls Try.prog 6 #[.slice A ns.length cap, .slice B ss.length cap', .string s] w fun e w' => e = .returned (.bool true) ∧ Below w.heap.size w w' := by
  have hG := Great_any ss B cap' w hl' hm' hs
  by_cases h1 : 120 < ns.length
  · unfold maxLen at hm
    clear hl' hs hG hg
    go_enter Try.func6, Try.ntmps6
    go_wp2_with (go_at_call 15; refine (awake_any _).mono ?_; rintro e w1 ⟨rfl, hb1⟩)
    go_ret
    exact ⟨rfl, hb1⟩
  · have d1 : decide ((120 : Int) < (ns.length : Int)) = false := by simp; omega
    rw [decide_eq_true (by omega)] at hG
    have HG := Lib.hid hG
    clear hl' hs hG hg
    go_enter Try.func6, Try.ntmps6
    go_wp2_with (first | (go_at_call 15; refine (awake_any _).mono ?_; rintro e w1 ⟨rfl, hb1⟩) | (go_at_call 16; refine HG.out.mono ?_; rintro e w' ⟨rfl, rfl⟩))
    go_ret
    exact ⟨rfl, hb1⟩
end Go.Proofs.Ytnfghgkdedmphaa
