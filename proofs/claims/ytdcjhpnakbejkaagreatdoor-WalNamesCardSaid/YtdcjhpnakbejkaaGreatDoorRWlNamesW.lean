/-
  WalNames walked.
-/
import Derived.Test.YtdcjhpnakbejkaaGreatDoorRWwX
import Derived.Test.YtdcjhpnakbejkaaGreatDoorRWwNumb
import Derived.Test.YtdcjhpnakbejkaaGreatDoorROpen
set_option linter.unusedSimpArgs false
set_option linter.unusedVariables false
namespace Go.Proofs.YtdcjhpnakbejkaaGreatDoor
open Go.RowKit
section
variable {At : DkAt}
set_option maxRecDepth 100000 in
set_option maxHeartbeats 2000000 in
theorem names_short (K : DiskK At) (n : Nat) (hn : n < Nm.top) (s : ByteArray) (hs : s.size ≤ 9223372036854775807) (w : World) (hE : EnvT w) (hF : EnvE w) : Calls Tryz.prog 4 #[.int .u64 (n : Int), .string s] w fun e w' => e = .returned (.bool true) ∧ Below w.heap.size w w' := by
  obtain ⟨x, hx⟩ : ∃ x, x = if 100 < s.size then s.extract 0 100 else s := ⟨_, rfl⟩
  have hxz : x.size ≤ 100 := by
    rw [hx]; split
    · rw [ByteArray.size_extract]; omega
    · omega
  have HEn := Lib.hid (fun W' (hb : Below w.heap.size w W') => hE.below hb (Nat.le_refl _))
  have HEf := Lib.hid (fun W' (hb : Below w.heap.size w W') => hF.below hb (Nat.le_refl _))
  have HW := Lib.hid (fun W hb => wnumber_any x W (HEn.out W hb) (HEf.out W hb) (by omega))
  have HR := Lib.hid (fun W => refNumber_any x W (by omega))
  have HN := Lib.hid (fun W hb => nameSays n W hn (HEn.out W hb))
  have HRn := Lib.hid (fun W => refName_any n hn W)
  have hnz := (Wl.name_size hn).2
  have HB := Lib.hid (fun W hb => wnumber_any (Wl.name n) W (HEn.out W hb) (HEf.out W hb) (by omega))
  have HA := Lib.hid (fun W hb => walAwake_any K W (HEn.out W hb))
  have Hn := Lib.hid hn
  have hself : ((Wl.name n).toList == (Wl.name n).toList) = true := by simp
  obtain ⟨nm, hnm⟩ : ∃ nm, nm = Wl.name n := ⟨_, rfl⟩
  have HNn := Lib.hid hnm
  rw [← hnm] at HN HRn HB hself hnz
  clear hE hF K hn hnm
  by_cases hl : 100 < s.size
  case pos =>
    rw [if_pos hl] at hx
    have d1 : decide ((100 : Int) < (s.size : Int)) = true := by simp; omega
    have d2 : (100 : Int) ≤ (s.size : Int) := by omega
    have Hx := Lib.hid hx
    clear hx
    go_enter Tryz.func4, Tryz.ntmps4
    go_wp2_with fail
    rw [← Hx.out]
    refine (HW.out _ (Below.refl _ _)).mono ?_
    rintro e w1 ⟨v, ok, rfl, hv, hok, hno, hb1⟩
    have H1 := Lib.hid (And.intro hv (And.intro hok (And.intro hno hb1)))
    clear hv hok hno hb1
    go_wp2_with fail
    refine (HR.out _).mono ?_
    rintro e w2 ⟨v2, ok2, rfl, hv2, hok2, hno2, hb2⟩
    have hag : ok = ok2 ∧ (ok = true → v = v2) ∧ (ok = false → v = 0) := by
      obtain ⟨hv, hok, hno, _⟩ := H1.out
      cases ok <;> cases ok2
      · exact ⟨rfl, fun h => Bool.noConfusion h, fun _ => (hno rfl).1⟩
      · exact absurd (hok2 rfl) ((hno rfl).2 v2 hv2)
      · exact absurd (hok rfl) (hno2 rfl v hv)
      · exact ⟨rfl, fun _ => Wl.name_inj hv hv2 ((hok rfl).trans (hok2 rfl).symm), fun h => Bool.noConfusion h⟩
    obtain ⟨rfl, hg1, hg2⟩ := hag
    have H2 := Lib.hid (bnext H1.out.2.2.2 hb2)
    clear hv2 hok2 hno2 hb2
    cases ok
    · obtain rfl := hg2 rfl
      clear hg1 hg2
      go_wp2_with fail
      refine (HN.out _ H2.out).mono ?_
      rintro e w3 ⟨rfl, hb3⟩
      have H3 := Lib.hid (bnext H2.out hb3)
      clear hb3
      go_wp2_with fail
      refine (HB.out _ H3.out).mono ?_
      rintro e w4 ⟨m, bk, rfl, hm, hbk, hnb, hb4⟩
      obtain rfl : bk = true := by
        cases bk
        · exact absurd HNn.out.symm ((hnb rfl).2 n Hn.out)
        · rfl
      obtain rfl : m = n := Wl.name_inj hm Hn.out ((hbk rfl).trans HNn.out)
      have H4 := Lib.hid (bnext H3.out hb4)
      clear hm hbk hnb hb4
      go_wp2_with fail
      refine (HN.out _ H4.out).mono ?_
      rintro e w5 ⟨rfl, hb5⟩
      have H5 := Lib.hid (bnext H4.out hb5)
      clear hb5
      go_wp2_with fail
      refine (HRn.out _).mono ?_
      rintro e w6 ⟨rfl, hb6⟩
      have H6 := Lib.hid (bnext H5.out hb6)
      clear hb6
      go_wp2_with fail
      refine (HA.out _ H6.out).mono ?_
      rintro e w7 ⟨rfl, hb7⟩
      go_wp2_with fail
      go_ret
      exact ⟨rfl, bnext H6.out hb7⟩
    · obtain rfl := hg1 rfl
      clear hg1 hg2
      go_wp2_with fail
      refine (HN.out _ H2.out).mono ?_
      rintro e w3 ⟨rfl, hb3⟩
      have H3 := Lib.hid (bnext H2.out hb3)
      clear hb3
      go_wp2_with fail
      refine (HB.out _ H3.out).mono ?_
      rintro e w4 ⟨m, bk, rfl, hm, hbk, hnb, hb4⟩
      obtain rfl : bk = true := by
        cases bk
        · exact absurd HNn.out.symm ((hnb rfl).2 n Hn.out)
        · rfl
      obtain rfl : m = n := Wl.name_inj hm Hn.out ((hbk rfl).trans HNn.out)
      have H4 := Lib.hid (bnext H3.out hb4)
      clear hm hbk hnb hb4
      go_wp2_with fail
      refine (HN.out _ H4.out).mono ?_
      rintro e w5 ⟨rfl, hb5⟩
      have H5 := Lib.hid (bnext H4.out hb5)
      clear hb5
      go_wp2_with fail
      refine (HRn.out _).mono ?_
      rintro e w6 ⟨rfl, hb6⟩
      have H6 := Lib.hid (bnext H5.out hb6)
      clear hb6
      go_wp2_with fail
      refine (HA.out _ H6.out).mono ?_
      rintro e w7 ⟨rfl, hb7⟩
      go_wp2_with fail
      go_ret
      exact ⟨rfl, bnext H6.out hb7⟩
  rw [if_neg hl] at hx
  subst hx
  have d1 : decide ((100 : Int) < (x.size : Int)) = false := by simp; omega
  go_enter Tryz.func4, Tryz.ntmps4
  go_wp2_with fail
  refine (HW.out _ (Below.refl _ _)).mono ?_
  rintro e w1 ⟨v, ok, rfl, hv, hok, hno, hb1⟩
  have H1 := Lib.hid (And.intro hv (And.intro hok (And.intro hno hb1)))
  clear hv hok hno hb1
  go_wp2_with fail
  refine (HR.out _).mono ?_
  rintro e w2 ⟨v2, ok2, rfl, hv2, hok2, hno2, hb2⟩
  have hag : ok = ok2 ∧ (ok = true → v = v2) ∧ (ok = false → v = 0) := by
    obtain ⟨hv, hok, hno, _⟩ := H1.out
    cases ok <;> cases ok2
    · exact ⟨rfl, fun h => Bool.noConfusion h, fun _ => (hno rfl).1⟩
    · exact absurd (hok2 rfl) ((hno rfl).2 v2 hv2)
    · exact absurd (hok rfl) (hno2 rfl v hv)
    · exact ⟨rfl, fun _ => Wl.name_inj hv hv2 ((hok rfl).trans (hok2 rfl).symm), fun h => Bool.noConfusion h⟩
  obtain ⟨rfl, hg1, hg2⟩ := hag
  have H2 := Lib.hid (bnext H1.out.2.2.2 hb2)
  clear hv2 hok2 hno2 hb2
  cases ok
  · obtain rfl := hg2 rfl
    clear hg1 hg2
    go_wp2_with fail
    refine (HN.out _ H2.out).mono ?_
    rintro e w3 ⟨rfl, hb3⟩
    have H3 := Lib.hid (bnext H2.out hb3)
    clear hb3
    go_wp2_with fail
    refine (HB.out _ H3.out).mono ?_
    rintro e w4 ⟨m, bk, rfl, hm, hbk, hnb, hb4⟩
    obtain rfl : bk = true := by
      cases bk
      · exact absurd HNn.out.symm ((hnb rfl).2 n Hn.out)
      · rfl
    obtain rfl : m = n := Wl.name_inj hm Hn.out ((hbk rfl).trans HNn.out)
    have H4 := Lib.hid (bnext H3.out hb4)
    clear hm hbk hnb hb4
    go_wp2_with fail
    refine (HN.out _ H4.out).mono ?_
    rintro e w5 ⟨rfl, hb5⟩
    have H5 := Lib.hid (bnext H4.out hb5)
    clear hb5
    go_wp2_with fail
    refine (HRn.out _).mono ?_
    rintro e w6 ⟨rfl, hb6⟩
    have H6 := Lib.hid (bnext H5.out hb6)
    clear hb6
    go_wp2_with fail
    refine (HA.out _ H6.out).mono ?_
    rintro e w7 ⟨rfl, hb7⟩
    go_wp2_with fail
    go_ret
    exact ⟨rfl, bnext H6.out hb7⟩
  · obtain rfl := hg1 rfl
    clear hg1 hg2
    go_wp2_with fail
    refine (HN.out _ H2.out).mono ?_
    rintro e w3 ⟨rfl, hb3⟩
    have H3 := Lib.hid (bnext H2.out hb3)
    clear hb3
    go_wp2_with fail
    refine (HB.out _ H3.out).mono ?_
    rintro e w4 ⟨m, bk, rfl, hm, hbk, hnb, hb4⟩
    obtain rfl : bk = true := by
      cases bk
      · exact absurd HNn.out.symm ((hnb rfl).2 n Hn.out)
      · rfl
    obtain rfl : m = n := Wl.name_inj hm Hn.out ((hbk rfl).trans HNn.out)
    have H4 := Lib.hid (bnext H3.out hb4)
    clear hm hbk hnb hb4
    go_wp2_with fail
    refine (HN.out _ H4.out).mono ?_
    rintro e w5 ⟨rfl, hb5⟩
    have H5 := Lib.hid (bnext H4.out hb5)
    clear hb5
    go_wp2_with fail
    refine (HRn.out _).mono ?_
    rintro e w6 ⟨rfl, hb6⟩
    have H6 := Lib.hid (bnext H5.out hb6)
    clear hb6
    go_wp2_with fail
    refine (HA.out _ H6.out).mono ?_
    rintro e w7 ⟨rfl, hb7⟩
    go_wp2_with fail
    go_ret
    exact ⟨rfl, bnext H6.out hb7⟩
theorem walNames_walk (K : DiskK At) (W : World) (a : Int) (ha : (Lit.int .u64 a).wf = true) (s : ByteArray) (hs : s.size ≤ maxLen) (hE : EnvT W ∧ EnvE W) : Calls Tryz.prog 4 #[.int .u64 a, .string s] W fun e w' => e = .returned (.bool true) ∧ Below W.heap.size W w' := by
  obtain ⟨n, rfl, hn⟩ := u64_nat ha
  exact names_short K n hn s (by unfold maxLen at hs; omega) W hE.1 hE.2
end
end Go.Proofs.YtdcjhpnakbejkaaGreatDoor
