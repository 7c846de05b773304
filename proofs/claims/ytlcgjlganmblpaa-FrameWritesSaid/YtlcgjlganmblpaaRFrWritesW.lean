/-
  FrameWrites walked. WRITTEN BY wip/tools/gen_frww.py.
-/
import Derived.Test.YtlcgjlganmblpaaRFrAw
import Derived.Test.YtlcgjlganmblpaaRFrLawR
import Derived.Test.YtlcgjlganmblpaaROpen
set_option linter.unusedSimpArgs false
set_option linter.unusedVariables false
namespace Go.Proofs.Ytlcgjlganmblpaa
open Go.RowKit
set_option linter.unusedVariables false
set_option maxRecDepth 100000 in
set_option maxHeartbeats 8000000 in
theorem frameWrites_walk (w : World) (f : Fr.F) (A : Option Addr) (cap : Nat) (gv : GivenF w f A cap) (r : Fr.R) (B : Option Addr) (cb : Nat) (gw : GivenP w r B cb) :
    Calls Try.prog 4 #[.agg (frC f A cap), .agg (rpC r B cb)] w fun e w' => e = .returned (.bool true) ∧ Below w.heap.size w w' := by
  have HG := Lib.hid (fun W (hb : Below w.heap.size w W) => great_any6 f A cap W (gv.lies.below hb))
  have HGr := Lib.hid (fun W (hb : Below w.heap.size w W) => greatR_any r.res B cb W (gw.lies.below hb))
  have HAw := Lib.hid fAwake_any
  have HW := Lib.hid (fun (h : Fr.Ok f) W (hb : Below w.heap.size w W) => okW h A cap W (gv.lies.below hb))
  have HWr := Lib.hid (fun (h : Fr.Ok f) W (hb : Below w.heap.size w W) => okWr h A cap W (gv.lies.below hb))
  have HR := Lib.hid (fun (h : Fr.OkR r) W (hb : Below w.heap.size w W) => okR h B cb W (gw.lies.below hb))
  have HRr := Lib.hid (fun (h : Fr.OkR r) W (hb : Below w.heap.size w W) => okRr h B cb W (gw.lies.below hb))
  have HF := Lib.hid (And.intro gv.fits (And.intro gw.fit gw.rfits))
  have HSr := Lib.hid (subRes r B cb)
  have HzX := Lib.hid (sizeFrC f A cap)
  have HzY := Lib.hid (sizeRpC r B cb)
  have HzZ := Lib.hid (sizeResC r.res B cb)
  obtain ⟨X, hX⟩ : ∃ X, X = frC f A cap := ⟨_, rfl⟩
  obtain ⟨Y, hY⟩ : ∃ X, X = rpC r B cb := ⟨_, rfl⟩
  obtain ⟨Z, hZ⟩ : ∃ X, X = resC r.res B cb := ⟨_, rfl⟩
  rw [← hX] at HG HW HWr HzX ⊢
  rw [← hY] at HR HRr HSr HzY ⊢
  rw [← hZ] at HGr HSr HzZ
  unfold RetS at HW HWr HR HRr
  obtain ⟨t, ht⟩ : ∃ t : ByteArray, t = ⟨(Fr.write f).toArray⟩ := ⟨_, rfl⟩
  obtain ⟨u, hu⟩ : ∃ t : ByteArray, t = ⟨(Fr.rwrite r).toArray⟩ := ⟨_, rfl⟩
  rw [← ht] at HW HWr
  rw [← hu] at HR HRr
  clear hX hY hZ gv gw ht hu
  go_enter Try.func4, Try.ntmps4
  go_upto_region 1 with (fail)
  refine forget (Rows2 w w.heap.size X Y) (two_rowsT w X Y _ _) ?_
  intro W1 h1
  obtain ⟨g, hg⟩ : ∃ g, g = w.heap.size := ⟨_, rfl⟩
  rw [← hg] at h1 ⊢
  have HM := Lib.hid h1
  clear h1 hg
  go_wp2_with (refine wpList_load_sub rfl 32 _ rfl g 0 rfl 32 X X (0, 0) _ HM.out.2.1 (subAll _) Try.underlying32 rfl HzX.out ?_)
  refine (HG.out _ HM.out.1).mono ?_
  rintro e w1 ⟨rfl, hb⟩
  have HM1 := Lib.hid (Rows2.grow HM.out hb)
  clear hb HM
  cases hgr : Cm.great f.cmd
  case true =>
    clear hgr
    go_wp2_with fail
    refine (HAw.out _).mono ?_
    rintro e w2 ⟨rfl, hb2⟩
    have HB2 := Lib.hid (bnext HM1.out.1 hb2)
    clear hb2
    go_wp2_with fail
    go_ret
    exact ⟨rfl, HB2.out⟩
  have hs := Cm.small_of hgr
  have HS := Lib.hid hs
  clear hgr hs
  go_wp2_with (refine wpList_load_sub rfl 37 _ rfl (g + 1) 4 rfl 39 Y Z (0, 0) _ HM1.out.2.2 HSr.out Try.underlying37 rfl HzZ.out ?_)
  refine (HGr.out _ HM1.out.1).mono ?_
  rintro e w2 ⟨rfl, hb⟩
  have HM2 := Lib.hid (Rows2.grow HM1.out hb)
  clear hb HM1
  cases hgr : Rs.great r.res
  case true =>
    clear hgr
    go_wp2_with fail
    refine (HAw.out _).mono ?_
    rintro e w2 ⟨rfl, hb2⟩
    have HB2 := Lib.hid (bnext HM2.out.1 hb2)
    clear hb2
    go_wp2_with fail
    go_ret
    exact ⟨rfl, HB2.out⟩
  have HOk := Lib.hid (Fr.ok_small HF.out.1 HS.out)
  have HOkR := Lib.hid (Fr.okr_small HF.out.2.1 HF.out.2.2 (Rs.small_of hgr))
  clear hgr
  go_upto_region 3 with (fail)
  refine forget (Rows2 w g X Y) HM2.out ?_
  clear HM2
  intro W5 h5
  have HM := Lib.hid h5
  have htt : (t.toList == t.toList) = true := by simp
  have huu : (u.toList == u.toList) = true := by simp
  clear h5
  refine wp_region_quiet_below (by kernel_rfl) (by kernel_rfl) ?_
  repeat (first | (refine wpQuiet_load_sub rfl 32 _ rfl g 0 rfl 32 X X (0, 0) _ HM.out.2.1 (subAll _) Try.underlying32 rfl HzX.out ?_; conv => arg 6; simp [Act.put]) | (refine wpQuiet_load_sub rfl 39 _ rfl (g + 1) 0 rfl 39 Y Y (0, 0) _ HM.out.2.2 (subAll _) Try.underlying39 rfl HzY.out ?_; conv => arg 6; simp [Act.put]) | go_big_quiet_step ((first | (go_at_call 10; exact Calls.regrown_of (HW.out HOk.out _ (bnext HM.out.1 (below_regrown _ _ _)))) | (go_at_call 18; exact Calls.regrown_of (HWr.out HOk.out _ (bnext HM.out.1 (below_regrown _ _ _)))) | (go_at_call 11; exact Calls.regrown_of (HR.out HOkR.out _ (bnext HM.out.1 (below_regrown _ _ _)))) | (go_at_call 19; exact Calls.regrown_of (HRr.out HOkR.out _ (bnext HM.out.1 (below_regrown _ _ _)))) | (go_at_call 15; exact Calls.regrown_of (HAw.out _)))))
  refine wpQuiet_nil ?_
  intro _ hw'
  obtain ⟨pq, hw''⟩ := hw'
  subst hw''
  have hb1 := below_regrown W5 pq.d pq.os
  go_wp2_with fail
  go_ret
  exact ⟨rfl, bnext HM.out.1 hb1⟩
end Go.Proofs.Ytlcgjlganmblpaa
