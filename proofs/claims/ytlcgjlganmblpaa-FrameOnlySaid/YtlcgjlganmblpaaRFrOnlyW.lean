/-
  FrameOnly walked. WRITTEN BY wip/tools/gen_fronly.py.
-/
import Derived.Test.YtlcgjlganmblpaaRFrAw
set_option linter.unusedSimpArgs false
set_option linter.unusedVariables false
namespace Go.Proofs.Ytlcgjlganmblpaa
open Go.RowKit
set_option linter.unusedVariables false
theorem onlyW {f : Fr.F} {s : ByteArray} (h : Fr.Ok f) (hw : Fr.write f = s.data.toList) (A : Option Addr) (cap : Nat) (W : World) (hA : Lies W A (pc f.cmd.parts)) : Calls Try.prog 10 #[.agg (frC f A cap)] W fun e w' => e = .returned (.string s) ∧ Below W.heap.size W w' := by
  have := okW h A cap W hA
  rw [hw] at this
  exact this
theorem onlyR {r : Fr.R} {s : ByteArray} (h : Fr.OkR r) (hw : Fr.rwrite r = s.data.toList) (A : Option Addr) (cap : Nat) (W : World) (hA : Lies W A (rc r.res.rows)) : Calls Try.prog 11 #[.agg (rpC r A cap)] W fun e w' => e = .returned (.string s) ∧ Below W.heap.size W w' := by
  have := okR h A cap W hA
  rw [hw] at this
  exact this
set_option maxRecDepth 100000 in
set_option maxHeartbeats 8000000 in
theorem frameOnly_tt (s s' : ByteArray) (long : Bool) (f : Fr.F) (hf : Fr.Ok f) (hw : Fr.write f = s'.data.toList) (r : Fr.R) (hr : Fr.OkR r) (hv : Fr.rwrite r = s'.data.toList) (w : World) (hl1 : long = true → 4000 < s.size ∧ s.extract 0 4000 = s') (hl2 : long = false → s.size ≤ 4000 ∧ s = s')
    (H1 : GetsF 13 s' f true) (H3 : GetsP 14 s' r true) :
    Calls Try.prog 8 #[.string s] w fun r w' => r = .returned (.bool true) ∧ Below w.heap.size w w' := by
  have HA := Lib.hid fAwake_any
  have HS := Lib.hid (onlyW hf hw)
  clear hf hw
  have HP := Lib.hid (onlyR hr hv)
  clear hr hv
  unfold GetsF at H1
  unfold GetsP at H3
  have H1 := Lib.hid H1
  have H3 := Lib.hid H3
  have HM := Lib.hid (Below.refl w.heap.size w)
  have hne : (s'.toList != s'.toList) = false := by simp
  have heq : (s'.toList == s'.toList) = true := by simp
  cases long
  · skip
    obtain ⟨hk, rfl⟩ := hl2 rfl
    have d3 : decide ((4000 : Int) < (s.size : Int)) = false := by simp; omega
    clear hl1 hl2 hk
    go_enter Try.func8, Try.ntmps8
    go_wp2_with fail
    refine (H1.out _).mono ?_
    rintro e0 V1 ⟨A1, cap1, rfl, hl, hb⟩
    have HV := Lib.hid (And.intro hl hb)
    clear hl hb
    go_upto_region 4 with (refine wpList_store_sub rfl 32 _ _ rfl V1.heap.size 0 rfl 32 (frC Fr.F.zero none 0) (frC f A1 cap1) rfl ?_ (Nat.le_refl 37) (sizeFrC _ _ _) (frC_one _ _ _) ?_; exact heap_alloc_new V1 _)
    have hbb := (HV.out.2.trans ((laidB V1 (.cells (frC Fr.F.zero none 0) 32) (frC f A1 cap1).toList).mono HV.out.2.size))
    refine forget (fun W => Below w.heap.size w W ∧ HasF W V1.heap.size f A1 cap1) (And.intro (bnext HM.out hbb) (HasF.laid HV.out.1)) ?_
    clear HM HV hbb
    obtain ⟨g1, hg1⟩ : ∃ g, g = V1.heap.size := ⟨_, rfl⟩
    rw [← hg1]
    clear hg1 V1
    intro W hall
    have HM := Lib.hid hall
    clear hall
    go_wp2_with fail
    refine (H3.out _).mono ?_
    rintro e0 V2 ⟨A2, cap2, rfl, hl, hb⟩
    have HV := Lib.hid (And.intro hl hb)
    clear hl hb
    go_upto_region 5 with (refine wpList_store_sub rfl 39 _ _ rfl V2.heap.size 0 rfl 39 (rpC Fr.R.zero none 0) (rpC r A2 cap2) rfl ?_ (Nat.le_refl 8) (sizeRpC _ _ _) (rpC_one _ _ _) ?_; exact heap_alloc_new V2 _)
    have hbb := (HV.out.2.trans ((laidB V2 (.cells (rpC Fr.R.zero none 0) 39) (rpC r A2 cap2).toList).mono HV.out.2.size))
    refine forget (fun W => Below w.heap.size w W ∧ HasF W g1 f A1 cap1 ∧ HasP W V2.heap.size r A2 cap2) (And.intro (bnext HM.out.1 hbb) (And.intro ((HM.out.2).below hbb) (HasP.laid HV.out.1))) ?_
    clear HM HV hbb
    obtain ⟨g2, hg2⟩ : ∃ g, g = V2.heap.size := ⟨_, rfl⟩
    rw [← hg2]
    clear hg2 V2
    intro W hall
    have HM := Lib.hid hall
    clear hall
    clear H1 H3
    go_wp2_with (refine wpList_load_sub rfl 32 _ rfl g1 0 rfl 32 (frC f A1 cap1) (frC f A1 cap1) (0, 0) _ HM.out.2.1.row (subAll _) Try.underlying32 rfl (sizeFrC _ _ _) ?_)
    refine (HS.out _ _ _ HM.out.2.1.lies).mono ?_
    rintro e w1 ⟨rfl, hb⟩
    have HM := Lib.hid (And.intro (bnext HM.out.1 hb) (And.intro ((HM.out.2.1).below hb) ((HM.out.2.2).below hb)))
    clear hb
    go_wp2_with (refine wpList_load_sub rfl 39 _ rfl g2 0 rfl 39 (rpC r A2 cap2) (rpC r A2 cap2) (0, 0) _ HM.out.2.2.row (subAll _) Try.underlying39 rfl (sizeRpC _ _ _) ?_)
    refine (HP.out _ _ _ HM.out.2.2.lies).mono ?_
    rintro e w2 ⟨rfl, hb⟩
    have HM := Lib.hid (And.intro (bnext HM.out.1 hb) (And.intro ((HM.out.2.1).below hb) ((HM.out.2.2).below hb)))
    clear hb
    go_wp2_with fail
    refine (HA.out _).mono ?_
    rintro e w3 ⟨rfl, hb⟩
    have HM := Lib.hid (And.intro (bnext HM.out.1 hb) (And.intro ((HM.out.2.1).below hb) ((HM.out.2.2).below hb)))
    clear hb
    go_wp2_with fail
    go_ret
    exact ⟨rfl, HM.out.1⟩
  · skip
    obtain ⟨hk, hss⟩ := hl1 rfl
    have d3 : decide ((4000 : Int) < (s.size : Int)) = true := by simp; omega
    have d3' : (4000 : Int) ≤ (s.size : Int) := by omega
    have HSS := Lib.hid hss
    clear hl1 hl2 hk hss
    go_enter Try.func8, Try.ntmps8
    go_wp2_with fail
    rw [HSS.out]
    refine (H1.out _).mono ?_
    rintro e0 V1 ⟨A1, cap1, rfl, hl, hb⟩
    have HV := Lib.hid (And.intro hl hb)
    clear hl hb
    go_upto_region 4 with (refine wpList_store_sub rfl 32 _ _ rfl V1.heap.size 0 rfl 32 (frC Fr.F.zero none 0) (frC f A1 cap1) rfl ?_ (Nat.le_refl 37) (sizeFrC _ _ _) (frC_one _ _ _) ?_; exact heap_alloc_new V1 _)
    have hbb := (HV.out.2.trans ((laidB V1 (.cells (frC Fr.F.zero none 0) 32) (frC f A1 cap1).toList).mono HV.out.2.size))
    refine forget (fun W => Below w.heap.size w W ∧ HasF W V1.heap.size f A1 cap1) (And.intro (bnext HM.out hbb) (HasF.laid HV.out.1)) ?_
    clear HM HV hbb
    obtain ⟨g1, hg1⟩ : ∃ g, g = V1.heap.size := ⟨_, rfl⟩
    rw [← hg1]
    clear hg1 V1
    intro W hall
    have HM := Lib.hid hall
    clear hall
    go_wp2_with fail
    refine (H3.out _).mono ?_
    rintro e0 V2 ⟨A2, cap2, rfl, hl, hb⟩
    have HV := Lib.hid (And.intro hl hb)
    clear hl hb
    go_upto_region 5 with (refine wpList_store_sub rfl 39 _ _ rfl V2.heap.size 0 rfl 39 (rpC Fr.R.zero none 0) (rpC r A2 cap2) rfl ?_ (Nat.le_refl 8) (sizeRpC _ _ _) (rpC_one _ _ _) ?_; exact heap_alloc_new V2 _)
    have hbb := (HV.out.2.trans ((laidB V2 (.cells (rpC Fr.R.zero none 0) 39) (rpC r A2 cap2).toList).mono HV.out.2.size))
    refine forget (fun W => Below w.heap.size w W ∧ HasF W g1 f A1 cap1 ∧ HasP W V2.heap.size r A2 cap2) (And.intro (bnext HM.out.1 hbb) (And.intro ((HM.out.2).below hbb) (HasP.laid HV.out.1))) ?_
    clear HM HV hbb
    obtain ⟨g2, hg2⟩ : ∃ g, g = V2.heap.size := ⟨_, rfl⟩
    rw [← hg2]
    clear hg2 V2
    intro W hall
    have HM := Lib.hid hall
    clear hall
    clear H1 H3
    go_wp2_with (refine wpList_load_sub rfl 32 _ rfl g1 0 rfl 32 (frC f A1 cap1) (frC f A1 cap1) (0, 0) _ HM.out.2.1.row (subAll _) Try.underlying32 rfl (sizeFrC _ _ _) ?_)
    refine (HS.out _ _ _ HM.out.2.1.lies).mono ?_
    rintro e w1 ⟨rfl, hb⟩
    have HM := Lib.hid (And.intro (bnext HM.out.1 hb) (And.intro ((HM.out.2.1).below hb) ((HM.out.2.2).below hb)))
    clear hb
    go_wp2_with (refine wpList_load_sub rfl 39 _ rfl g2 0 rfl 39 (rpC r A2 cap2) (rpC r A2 cap2) (0, 0) _ HM.out.2.2.row (subAll _) Try.underlying39 rfl (sizeRpC _ _ _) ?_)
    refine (HP.out _ _ _ HM.out.2.2.lies).mono ?_
    rintro e w2 ⟨rfl, hb⟩
    have HM := Lib.hid (And.intro (bnext HM.out.1 hb) (And.intro ((HM.out.2.1).below hb) ((HM.out.2.2).below hb)))
    clear hb
    go_wp2_with fail
    refine (HA.out _).mono ?_
    rintro e w3 ⟨rfl, hb⟩
    have HM := Lib.hid (And.intro (bnext HM.out.1 hb) (And.intro ((HM.out.2.1).below hb) ((HM.out.2.2).below hb)))
    clear hb
    go_wp2_with fail
    go_ret
    exact ⟨rfl, HM.out.1⟩
set_option maxRecDepth 100000 in
set_option maxHeartbeats 8000000 in
theorem frameOnly_tf (s s' : ByteArray) (long : Bool) (f : Fr.F) (hf : Fr.Ok f) (hw : Fr.write f = s'.data.toList) (w : World) (hl1 : long = true → 4000 < s.size ∧ s.extract 0 4000 = s') (hl2 : long = false → s.size ≤ 4000 ∧ s = s')
    (H1 : GetsF 13 s' f true) (H3 : GetsP 14 s' Fr.R.zero false) :
    Calls Try.prog 8 #[.string s] w fun r w' => r = .returned (.bool true) ∧ Below w.heap.size w w' := by
  have HA := Lib.hid fAwake_any
  have HS := Lib.hid (onlyW hf hw)
  clear hf hw
  have HP := Lib.hid (sameP Fr.R.zero (Nat.zero_le _))
  unfold GetsF at H1
  unfold GetsP at H3
  have H1 := Lib.hid H1
  have H3 := Lib.hid H3
  have HM := Lib.hid (Below.refl w.heap.size w)
  have hne : (s'.toList != s'.toList) = false := by simp
  have heq : (s'.toList == s'.toList) = true := by simp
  cases long
  · skip
    obtain ⟨hk, rfl⟩ := hl2 rfl
    have d3 : decide ((4000 : Int) < (s.size : Int)) = false := by simp; omega
    clear hl1 hl2 hk
    go_enter Try.func8, Try.ntmps8
    go_wp2_with fail
    refine (H1.out _).mono ?_
    rintro e0 V1 ⟨A1, cap1, rfl, hl, hb⟩
    have HV := Lib.hid (And.intro hl hb)
    clear hl hb
    go_upto_region 4 with (refine wpList_store_sub rfl 32 _ _ rfl V1.heap.size 0 rfl 32 (frC Fr.F.zero none 0) (frC f A1 cap1) rfl ?_ (Nat.le_refl 37) (sizeFrC _ _ _) (frC_one _ _ _) ?_; exact heap_alloc_new V1 _)
    have hbb := (HV.out.2.trans ((laidB V1 (.cells (frC Fr.F.zero none 0) 32) (frC f A1 cap1).toList).mono HV.out.2.size))
    refine forget (fun W => Below w.heap.size w W ∧ HasF W V1.heap.size f A1 cap1) (And.intro (bnext HM.out hbb) (HasF.laid HV.out.1)) ?_
    clear HM HV hbb
    obtain ⟨g1, hg1⟩ : ∃ g, g = V1.heap.size := ⟨_, rfl⟩
    rw [← hg1]
    clear hg1 V1
    intro W hall
    have HM := Lib.hid hall
    clear hall
    go_wp2_with fail
    refine (H3.out _).mono ?_
    rintro e0 V2 ⟨A2, cap2, rfl, hl, hb⟩
    have HV := Lib.hid (And.intro hl hb)
    clear hl hb
    go_upto_region 5 with (refine wpList_store_sub rfl 39 _ _ rfl V2.heap.size 0 rfl 39 (rpC Fr.R.zero none 0) (rpC Fr.R.zero A2 cap2) rfl ?_ (Nat.le_refl 8) (sizeRpC _ _ _) (rpC_one _ _ _) ?_; exact heap_alloc_new V2 _)
    have hbb := (HV.out.2.trans ((laidB V2 (.cells (rpC Fr.R.zero none 0) 39) (rpC Fr.R.zero A2 cap2).toList).mono HV.out.2.size))
    refine forget (fun W => Below w.heap.size w W ∧ HasF W g1 f A1 cap1 ∧ HasP W V2.heap.size Fr.R.zero A2 cap2) (And.intro (bnext HM.out.1 hbb) (And.intro ((HM.out.2).below hbb) (HasP.laid HV.out.1))) ?_
    clear HM HV hbb
    obtain ⟨g2, hg2⟩ : ∃ g, g = V2.heap.size := ⟨_, rfl⟩
    rw [← hg2]
    clear hg2 V2
    intro W hall
    have HM := Lib.hid hall
    clear hall
    clear H1 H3
    go_wp2_with (refine wpList_load_sub rfl 32 _ rfl g1 0 rfl 32 (frC f A1 cap1) (frC f A1 cap1) (0, 0) _ HM.out.2.1.row (subAll _) Try.underlying32 rfl (sizeFrC _ _ _) ?_)
    refine (HS.out _ _ _ HM.out.2.1.lies).mono ?_
    rintro e w1 ⟨rfl, hb⟩
    have HM := Lib.hid (And.intro (bnext HM.out.1 hb) (And.intro ((HM.out.2.1).below hb) ((HM.out.2.2).below hb)))
    clear hb
    go_wp2_with (refine wpList_load_sub rfl 39 _ rfl g2 0 rfl 39 (rpC Fr.R.zero A2 cap2) (rpC Fr.R.zero A2 cap2) (0, 0) _ HM.out.2.2.row (subAll _) Try.underlying39 rfl (sizeRpC _ _ _) ?_)
    refine (HP.out _ none _ 0 _ HM.out.2.2.lies (.inl rfl)).mono ?_
    rintro e w2 ⟨rfl, hb⟩
    have HM := Lib.hid (And.intro (bnext HM.out.1 hb) (And.intro ((HM.out.2.1).below hb) ((HM.out.2.2).below hb)))
    clear hb
    go_wp2_with fail
    refine (HA.out _).mono ?_
    rintro e w3 ⟨rfl, hb⟩
    have HM := Lib.hid (And.intro (bnext HM.out.1 hb) (And.intro ((HM.out.2.1).below hb) ((HM.out.2.2).below hb)))
    clear hb
    go_wp2_with fail
    go_ret
    exact ⟨rfl, HM.out.1⟩
  · skip
    obtain ⟨hk, hss⟩ := hl1 rfl
    have d3 : decide ((4000 : Int) < (s.size : Int)) = true := by simp; omega
    have d3' : (4000 : Int) ≤ (s.size : Int) := by omega
    have HSS := Lib.hid hss
    clear hl1 hl2 hk hss
    go_enter Try.func8, Try.ntmps8
    go_wp2_with fail
    rw [HSS.out]
    refine (H1.out _).mono ?_
    rintro e0 V1 ⟨A1, cap1, rfl, hl, hb⟩
    have HV := Lib.hid (And.intro hl hb)
    clear hl hb
    go_upto_region 4 with (refine wpList_store_sub rfl 32 _ _ rfl V1.heap.size 0 rfl 32 (frC Fr.F.zero none 0) (frC f A1 cap1) rfl ?_ (Nat.le_refl 37) (sizeFrC _ _ _) (frC_one _ _ _) ?_; exact heap_alloc_new V1 _)
    have hbb := (HV.out.2.trans ((laidB V1 (.cells (frC Fr.F.zero none 0) 32) (frC f A1 cap1).toList).mono HV.out.2.size))
    refine forget (fun W => Below w.heap.size w W ∧ HasF W V1.heap.size f A1 cap1) (And.intro (bnext HM.out hbb) (HasF.laid HV.out.1)) ?_
    clear HM HV hbb
    obtain ⟨g1, hg1⟩ : ∃ g, g = V1.heap.size := ⟨_, rfl⟩
    rw [← hg1]
    clear hg1 V1
    intro W hall
    have HM := Lib.hid hall
    clear hall
    go_wp2_with fail
    refine (H3.out _).mono ?_
    rintro e0 V2 ⟨A2, cap2, rfl, hl, hb⟩
    have HV := Lib.hid (And.intro hl hb)
    clear hl hb
    go_upto_region 5 with (refine wpList_store_sub rfl 39 _ _ rfl V2.heap.size 0 rfl 39 (rpC Fr.R.zero none 0) (rpC Fr.R.zero A2 cap2) rfl ?_ (Nat.le_refl 8) (sizeRpC _ _ _) (rpC_one _ _ _) ?_; exact heap_alloc_new V2 _)
    have hbb := (HV.out.2.trans ((laidB V2 (.cells (rpC Fr.R.zero none 0) 39) (rpC Fr.R.zero A2 cap2).toList).mono HV.out.2.size))
    refine forget (fun W => Below w.heap.size w W ∧ HasF W g1 f A1 cap1 ∧ HasP W V2.heap.size Fr.R.zero A2 cap2) (And.intro (bnext HM.out.1 hbb) (And.intro ((HM.out.2).below hbb) (HasP.laid HV.out.1))) ?_
    clear HM HV hbb
    obtain ⟨g2, hg2⟩ : ∃ g, g = V2.heap.size := ⟨_, rfl⟩
    rw [← hg2]
    clear hg2 V2
    intro W hall
    have HM := Lib.hid hall
    clear hall
    clear H1 H3
    go_wp2_with (refine wpList_load_sub rfl 32 _ rfl g1 0 rfl 32 (frC f A1 cap1) (frC f A1 cap1) (0, 0) _ HM.out.2.1.row (subAll _) Try.underlying32 rfl (sizeFrC _ _ _) ?_)
    refine (HS.out _ _ _ HM.out.2.1.lies).mono ?_
    rintro e w1 ⟨rfl, hb⟩
    have HM := Lib.hid (And.intro (bnext HM.out.1 hb) (And.intro ((HM.out.2.1).below hb) ((HM.out.2.2).below hb)))
    clear hb
    go_wp2_with (refine wpList_load_sub rfl 39 _ rfl g2 0 rfl 39 (rpC Fr.R.zero A2 cap2) (rpC Fr.R.zero A2 cap2) (0, 0) _ HM.out.2.2.row (subAll _) Try.underlying39 rfl (sizeRpC _ _ _) ?_)
    refine (HP.out _ none _ 0 _ HM.out.2.2.lies (.inl rfl)).mono ?_
    rintro e w2 ⟨rfl, hb⟩
    have HM := Lib.hid (And.intro (bnext HM.out.1 hb) (And.intro ((HM.out.2.1).below hb) ((HM.out.2.2).below hb)))
    clear hb
    go_wp2_with fail
    refine (HA.out _).mono ?_
    rintro e w3 ⟨rfl, hb⟩
    have HM := Lib.hid (And.intro (bnext HM.out.1 hb) (And.intro ((HM.out.2.1).below hb) ((HM.out.2.2).below hb)))
    clear hb
    go_wp2_with fail
    go_ret
    exact ⟨rfl, HM.out.1⟩
set_option maxRecDepth 100000 in
set_option maxHeartbeats 8000000 in
theorem frameOnly_ft (s s' : ByteArray) (long : Bool) (r : Fr.R) (hr : Fr.OkR r) (hv : Fr.rwrite r = s'.data.toList) (w : World) (hl1 : long = true → 4000 < s.size ∧ s.extract 0 4000 = s') (hl2 : long = false → s.size ≤ 4000 ∧ s = s')
    (H1 : GetsF 13 s' Fr.F.zero false) (H3 : GetsP 14 s' r true) :
    Calls Try.prog 8 #[.string s] w fun r w' => r = .returned (.bool true) ∧ Below w.heap.size w w' := by
  have HA := Lib.hid fAwake_any
  have HS := Lib.hid (sameF Fr.F.zero (Nat.zero_le _))
  have HP := Lib.hid (onlyR hr hv)
  clear hr hv
  unfold GetsF at H1
  unfold GetsP at H3
  have H1 := Lib.hid H1
  have H3 := Lib.hid H3
  have HM := Lib.hid (Below.refl w.heap.size w)
  have hne : (s'.toList != s'.toList) = false := by simp
  have heq : (s'.toList == s'.toList) = true := by simp
  cases long
  · skip
    obtain ⟨hk, rfl⟩ := hl2 rfl
    have d3 : decide ((4000 : Int) < (s.size : Int)) = false := by simp; omega
    clear hl1 hl2 hk
    go_enter Try.func8, Try.ntmps8
    go_wp2_with fail
    refine (H1.out _).mono ?_
    rintro e0 V1 ⟨A1, cap1, rfl, hl, hb⟩
    have HV := Lib.hid (And.intro hl hb)
    clear hl hb
    go_upto_region 4 with (refine wpList_store_sub rfl 32 _ _ rfl V1.heap.size 0 rfl 32 (frC Fr.F.zero none 0) (frC Fr.F.zero A1 cap1) rfl ?_ (Nat.le_refl 37) (sizeFrC _ _ _) (frC_one _ _ _) ?_; exact heap_alloc_new V1 _)
    have hbb := (HV.out.2.trans ((laidB V1 (.cells (frC Fr.F.zero none 0) 32) (frC Fr.F.zero A1 cap1).toList).mono HV.out.2.size))
    refine forget (fun W => Below w.heap.size w W ∧ HasF W V1.heap.size Fr.F.zero A1 cap1) (And.intro (bnext HM.out hbb) (HasF.laid HV.out.1)) ?_
    clear HM HV hbb
    obtain ⟨g1, hg1⟩ : ∃ g, g = V1.heap.size := ⟨_, rfl⟩
    rw [← hg1]
    clear hg1 V1
    intro W hall
    have HM := Lib.hid hall
    clear hall
    go_wp2_with fail
    refine (H3.out _).mono ?_
    rintro e0 V2 ⟨A2, cap2, rfl, hl, hb⟩
    have HV := Lib.hid (And.intro hl hb)
    clear hl hb
    go_upto_region 5 with (refine wpList_store_sub rfl 39 _ _ rfl V2.heap.size 0 rfl 39 (rpC Fr.R.zero none 0) (rpC r A2 cap2) rfl ?_ (Nat.le_refl 8) (sizeRpC _ _ _) (rpC_one _ _ _) ?_; exact heap_alloc_new V2 _)
    have hbb := (HV.out.2.trans ((laidB V2 (.cells (rpC Fr.R.zero none 0) 39) (rpC r A2 cap2).toList).mono HV.out.2.size))
    refine forget (fun W => Below w.heap.size w W ∧ HasF W g1 Fr.F.zero A1 cap1 ∧ HasP W V2.heap.size r A2 cap2) (And.intro (bnext HM.out.1 hbb) (And.intro ((HM.out.2).below hbb) (HasP.laid HV.out.1))) ?_
    clear HM HV hbb
    obtain ⟨g2, hg2⟩ : ∃ g, g = V2.heap.size := ⟨_, rfl⟩
    rw [← hg2]
    clear hg2 V2
    intro W hall
    have HM := Lib.hid hall
    clear hall
    clear H1 H3
    go_wp2_with (refine wpList_load_sub rfl 32 _ rfl g1 0 rfl 32 (frC Fr.F.zero A1 cap1) (frC Fr.F.zero A1 cap1) (0, 0) _ HM.out.2.1.row (subAll _) Try.underlying32 rfl (sizeFrC _ _ _) ?_)
    refine (HS.out _ none _ 0 _ HM.out.2.1.lies (.inl rfl)).mono ?_
    rintro e w1 ⟨rfl, hb⟩
    have HM := Lib.hid (And.intro (bnext HM.out.1 hb) (And.intro ((HM.out.2.1).below hb) ((HM.out.2.2).below hb)))
    clear hb
    go_wp2_with (refine wpList_load_sub rfl 39 _ rfl g2 0 rfl 39 (rpC r A2 cap2) (rpC r A2 cap2) (0, 0) _ HM.out.2.2.row (subAll _) Try.underlying39 rfl (sizeRpC _ _ _) ?_)
    refine (HP.out _ _ _ HM.out.2.2.lies).mono ?_
    rintro e w2 ⟨rfl, hb⟩
    have HM := Lib.hid (And.intro (bnext HM.out.1 hb) (And.intro ((HM.out.2.1).below hb) ((HM.out.2.2).below hb)))
    clear hb
    go_wp2_with fail
    refine (HA.out _).mono ?_
    rintro e w3 ⟨rfl, hb⟩
    have HM := Lib.hid (And.intro (bnext HM.out.1 hb) (And.intro ((HM.out.2.1).below hb) ((HM.out.2.2).below hb)))
    clear hb
    go_wp2_with fail
    go_ret
    exact ⟨rfl, HM.out.1⟩
  · skip
    obtain ⟨hk, hss⟩ := hl1 rfl
    have d3 : decide ((4000 : Int) < (s.size : Int)) = true := by simp; omega
    have d3' : (4000 : Int) ≤ (s.size : Int) := by omega
    have HSS := Lib.hid hss
    clear hl1 hl2 hk hss
    go_enter Try.func8, Try.ntmps8
    go_wp2_with fail
    rw [HSS.out]
    refine (H1.out _).mono ?_
    rintro e0 V1 ⟨A1, cap1, rfl, hl, hb⟩
    have HV := Lib.hid (And.intro hl hb)
    clear hl hb
    go_upto_region 4 with (refine wpList_store_sub rfl 32 _ _ rfl V1.heap.size 0 rfl 32 (frC Fr.F.zero none 0) (frC Fr.F.zero A1 cap1) rfl ?_ (Nat.le_refl 37) (sizeFrC _ _ _) (frC_one _ _ _) ?_; exact heap_alloc_new V1 _)
    have hbb := (HV.out.2.trans ((laidB V1 (.cells (frC Fr.F.zero none 0) 32) (frC Fr.F.zero A1 cap1).toList).mono HV.out.2.size))
    refine forget (fun W => Below w.heap.size w W ∧ HasF W V1.heap.size Fr.F.zero A1 cap1) (And.intro (bnext HM.out hbb) (HasF.laid HV.out.1)) ?_
    clear HM HV hbb
    obtain ⟨g1, hg1⟩ : ∃ g, g = V1.heap.size := ⟨_, rfl⟩
    rw [← hg1]
    clear hg1 V1
    intro W hall
    have HM := Lib.hid hall
    clear hall
    go_wp2_with fail
    refine (H3.out _).mono ?_
    rintro e0 V2 ⟨A2, cap2, rfl, hl, hb⟩
    have HV := Lib.hid (And.intro hl hb)
    clear hl hb
    go_upto_region 5 with (refine wpList_store_sub rfl 39 _ _ rfl V2.heap.size 0 rfl 39 (rpC Fr.R.zero none 0) (rpC r A2 cap2) rfl ?_ (Nat.le_refl 8) (sizeRpC _ _ _) (rpC_one _ _ _) ?_; exact heap_alloc_new V2 _)
    have hbb := (HV.out.2.trans ((laidB V2 (.cells (rpC Fr.R.zero none 0) 39) (rpC r A2 cap2).toList).mono HV.out.2.size))
    refine forget (fun W => Below w.heap.size w W ∧ HasF W g1 Fr.F.zero A1 cap1 ∧ HasP W V2.heap.size r A2 cap2) (And.intro (bnext HM.out.1 hbb) (And.intro ((HM.out.2).below hbb) (HasP.laid HV.out.1))) ?_
    clear HM HV hbb
    obtain ⟨g2, hg2⟩ : ∃ g, g = V2.heap.size := ⟨_, rfl⟩
    rw [← hg2]
    clear hg2 V2
    intro W hall
    have HM := Lib.hid hall
    clear hall
    clear H1 H3
    go_wp2_with (refine wpList_load_sub rfl 32 _ rfl g1 0 rfl 32 (frC Fr.F.zero A1 cap1) (frC Fr.F.zero A1 cap1) (0, 0) _ HM.out.2.1.row (subAll _) Try.underlying32 rfl (sizeFrC _ _ _) ?_)
    refine (HS.out _ none _ 0 _ HM.out.2.1.lies (.inl rfl)).mono ?_
    rintro e w1 ⟨rfl, hb⟩
    have HM := Lib.hid (And.intro (bnext HM.out.1 hb) (And.intro ((HM.out.2.1).below hb) ((HM.out.2.2).below hb)))
    clear hb
    go_wp2_with (refine wpList_load_sub rfl 39 _ rfl g2 0 rfl 39 (rpC r A2 cap2) (rpC r A2 cap2) (0, 0) _ HM.out.2.2.row (subAll _) Try.underlying39 rfl (sizeRpC _ _ _) ?_)
    refine (HP.out _ _ _ HM.out.2.2.lies).mono ?_
    rintro e w2 ⟨rfl, hb⟩
    have HM := Lib.hid (And.intro (bnext HM.out.1 hb) (And.intro ((HM.out.2.1).below hb) ((HM.out.2.2).below hb)))
    clear hb
    go_wp2_with fail
    refine (HA.out _).mono ?_
    rintro e w3 ⟨rfl, hb⟩
    have HM := Lib.hid (And.intro (bnext HM.out.1 hb) (And.intro ((HM.out.2.1).below hb) ((HM.out.2.2).below hb)))
    clear hb
    go_wp2_with fail
    go_ret
    exact ⟨rfl, HM.out.1⟩
set_option maxRecDepth 100000 in
set_option maxHeartbeats 8000000 in
theorem frameOnly_ff (s s' : ByteArray) (long : Bool)  (w : World) (hl1 : long = true → 4000 < s.size ∧ s.extract 0 4000 = s') (hl2 : long = false → s.size ≤ 4000 ∧ s = s')
    (H1 : GetsF 13 s' Fr.F.zero false) (H3 : GetsP 14 s' Fr.R.zero false) :
    Calls Try.prog 8 #[.string s] w fun r w' => r = .returned (.bool true) ∧ Below w.heap.size w w' := by
  have HA := Lib.hid fAwake_any
  have HS := Lib.hid (sameF Fr.F.zero (Nat.zero_le _))
  have HP := Lib.hid (sameP Fr.R.zero (Nat.zero_le _))
  unfold GetsF at H1
  unfold GetsP at H3
  have H1 := Lib.hid H1
  have H3 := Lib.hid H3
  have HM := Lib.hid (Below.refl w.heap.size w)
  have hne : (s'.toList != s'.toList) = false := by simp
  have heq : (s'.toList == s'.toList) = true := by simp
  cases long
  · skip
    obtain ⟨hk, rfl⟩ := hl2 rfl
    have d3 : decide ((4000 : Int) < (s.size : Int)) = false := by simp; omega
    clear hl1 hl2 hk
    go_enter Try.func8, Try.ntmps8
    go_wp2_with fail
    refine (H1.out _).mono ?_
    rintro e0 V1 ⟨A1, cap1, rfl, hl, hb⟩
    have HV := Lib.hid (And.intro hl hb)
    clear hl hb
    go_upto_region 4 with (refine wpList_store_sub rfl 32 _ _ rfl V1.heap.size 0 rfl 32 (frC Fr.F.zero none 0) (frC Fr.F.zero A1 cap1) rfl ?_ (Nat.le_refl 37) (sizeFrC _ _ _) (frC_one _ _ _) ?_; exact heap_alloc_new V1 _)
    have hbb := (HV.out.2.trans ((laidB V1 (.cells (frC Fr.F.zero none 0) 32) (frC Fr.F.zero A1 cap1).toList).mono HV.out.2.size))
    refine forget (fun W => Below w.heap.size w W ∧ HasF W V1.heap.size Fr.F.zero A1 cap1) (And.intro (bnext HM.out hbb) (HasF.laid HV.out.1)) ?_
    clear HM HV hbb
    obtain ⟨g1, hg1⟩ : ∃ g, g = V1.heap.size := ⟨_, rfl⟩
    rw [← hg1]
    clear hg1 V1
    intro W hall
    have HM := Lib.hid hall
    clear hall
    go_wp2_with fail
    refine (H3.out _).mono ?_
    rintro e0 V2 ⟨A2, cap2, rfl, hl, hb⟩
    have HV := Lib.hid (And.intro hl hb)
    clear hl hb
    go_upto_region 5 with (refine wpList_store_sub rfl 39 _ _ rfl V2.heap.size 0 rfl 39 (rpC Fr.R.zero none 0) (rpC Fr.R.zero A2 cap2) rfl ?_ (Nat.le_refl 8) (sizeRpC _ _ _) (rpC_one _ _ _) ?_; exact heap_alloc_new V2 _)
    have hbb := (HV.out.2.trans ((laidB V2 (.cells (rpC Fr.R.zero none 0) 39) (rpC Fr.R.zero A2 cap2).toList).mono HV.out.2.size))
    refine forget (fun W => Below w.heap.size w W ∧ HasF W g1 Fr.F.zero A1 cap1 ∧ HasP W V2.heap.size Fr.R.zero A2 cap2) (And.intro (bnext HM.out.1 hbb) (And.intro ((HM.out.2).below hbb) (HasP.laid HV.out.1))) ?_
    clear HM HV hbb
    obtain ⟨g2, hg2⟩ : ∃ g, g = V2.heap.size := ⟨_, rfl⟩
    rw [← hg2]
    clear hg2 V2
    intro W hall
    have HM := Lib.hid hall
    clear hall
    clear H1 H3
    go_wp2_with (refine wpList_load_sub rfl 32 _ rfl g1 0 rfl 32 (frC Fr.F.zero A1 cap1) (frC Fr.F.zero A1 cap1) (0, 0) _ HM.out.2.1.row (subAll _) Try.underlying32 rfl (sizeFrC _ _ _) ?_)
    refine (HS.out _ none _ 0 _ HM.out.2.1.lies (.inl rfl)).mono ?_
    rintro e w1 ⟨rfl, hb⟩
    have HM := Lib.hid (And.intro (bnext HM.out.1 hb) (And.intro ((HM.out.2.1).below hb) ((HM.out.2.2).below hb)))
    clear hb
    go_wp2_with (refine wpList_load_sub rfl 39 _ rfl g2 0 rfl 39 (rpC Fr.R.zero A2 cap2) (rpC Fr.R.zero A2 cap2) (0, 0) _ HM.out.2.2.row (subAll _) Try.underlying39 rfl (sizeRpC _ _ _) ?_)
    refine (HP.out _ none _ 0 _ HM.out.2.2.lies (.inl rfl)).mono ?_
    rintro e w2 ⟨rfl, hb⟩
    have HM := Lib.hid (And.intro (bnext HM.out.1 hb) (And.intro ((HM.out.2.1).below hb) ((HM.out.2.2).below hb)))
    clear hb
    go_wp2_with fail
    refine (HA.out _).mono ?_
    rintro e w3 ⟨rfl, hb⟩
    have HM := Lib.hid (And.intro (bnext HM.out.1 hb) (And.intro ((HM.out.2.1).below hb) ((HM.out.2.2).below hb)))
    clear hb
    go_wp2_with fail
    go_ret
    exact ⟨rfl, HM.out.1⟩
  · skip
    obtain ⟨hk, hss⟩ := hl1 rfl
    have d3 : decide ((4000 : Int) < (s.size : Int)) = true := by simp; omega
    have d3' : (4000 : Int) ≤ (s.size : Int) := by omega
    have HSS := Lib.hid hss
    clear hl1 hl2 hk hss
    go_enter Try.func8, Try.ntmps8
    go_wp2_with fail
    rw [HSS.out]
    refine (H1.out _).mono ?_
    rintro e0 V1 ⟨A1, cap1, rfl, hl, hb⟩
    have HV := Lib.hid (And.intro hl hb)
    clear hl hb
    go_upto_region 4 with (refine wpList_store_sub rfl 32 _ _ rfl V1.heap.size 0 rfl 32 (frC Fr.F.zero none 0) (frC Fr.F.zero A1 cap1) rfl ?_ (Nat.le_refl 37) (sizeFrC _ _ _) (frC_one _ _ _) ?_; exact heap_alloc_new V1 _)
    have hbb := (HV.out.2.trans ((laidB V1 (.cells (frC Fr.F.zero none 0) 32) (frC Fr.F.zero A1 cap1).toList).mono HV.out.2.size))
    refine forget (fun W => Below w.heap.size w W ∧ HasF W V1.heap.size Fr.F.zero A1 cap1) (And.intro (bnext HM.out hbb) (HasF.laid HV.out.1)) ?_
    clear HM HV hbb
    obtain ⟨g1, hg1⟩ : ∃ g, g = V1.heap.size := ⟨_, rfl⟩
    rw [← hg1]
    clear hg1 V1
    intro W hall
    have HM := Lib.hid hall
    clear hall
    go_wp2_with fail
    refine (H3.out _).mono ?_
    rintro e0 V2 ⟨A2, cap2, rfl, hl, hb⟩
    have HV := Lib.hid (And.intro hl hb)
    clear hl hb
    go_upto_region 5 with (refine wpList_store_sub rfl 39 _ _ rfl V2.heap.size 0 rfl 39 (rpC Fr.R.zero none 0) (rpC Fr.R.zero A2 cap2) rfl ?_ (Nat.le_refl 8) (sizeRpC _ _ _) (rpC_one _ _ _) ?_; exact heap_alloc_new V2 _)
    have hbb := (HV.out.2.trans ((laidB V2 (.cells (rpC Fr.R.zero none 0) 39) (rpC Fr.R.zero A2 cap2).toList).mono HV.out.2.size))
    refine forget (fun W => Below w.heap.size w W ∧ HasF W g1 Fr.F.zero A1 cap1 ∧ HasP W V2.heap.size Fr.R.zero A2 cap2) (And.intro (bnext HM.out.1 hbb) (And.intro ((HM.out.2).below hbb) (HasP.laid HV.out.1))) ?_
    clear HM HV hbb
    obtain ⟨g2, hg2⟩ : ∃ g, g = V2.heap.size := ⟨_, rfl⟩
    rw [← hg2]
    clear hg2 V2
    intro W hall
    have HM := Lib.hid hall
    clear hall
    clear H1 H3
    go_wp2_with (refine wpList_load_sub rfl 32 _ rfl g1 0 rfl 32 (frC Fr.F.zero A1 cap1) (frC Fr.F.zero A1 cap1) (0, 0) _ HM.out.2.1.row (subAll _) Try.underlying32 rfl (sizeFrC _ _ _) ?_)
    refine (HS.out _ none _ 0 _ HM.out.2.1.lies (.inl rfl)).mono ?_
    rintro e w1 ⟨rfl, hb⟩
    have HM := Lib.hid (And.intro (bnext HM.out.1 hb) (And.intro ((HM.out.2.1).below hb) ((HM.out.2.2).below hb)))
    clear hb
    go_wp2_with (refine wpList_load_sub rfl 39 _ rfl g2 0 rfl 39 (rpC Fr.R.zero A2 cap2) (rpC Fr.R.zero A2 cap2) (0, 0) _ HM.out.2.2.row (subAll _) Try.underlying39 rfl (sizeRpC _ _ _) ?_)
    refine (HP.out _ none _ 0 _ HM.out.2.2.lies (.inl rfl)).mono ?_
    rintro e w2 ⟨rfl, hb⟩
    have HM := Lib.hid (And.intro (bnext HM.out.1 hb) (And.intro ((HM.out.2.1).below hb) ((HM.out.2.2).below hb)))
    clear hb
    go_wp2_with fail
    refine (HA.out _).mono ?_
    rintro e w3 ⟨rfl, hb⟩
    have HM := Lib.hid (And.intro (bnext HM.out.1 hb) (And.intro ((HM.out.2.1).below hb) ((HM.out.2.2).below hb)))
    clear hb
    go_wp2_with fail
    go_ret
    exact ⟨rfl, HM.out.1⟩
theorem frameOnly_at (s s' : ByteArray) (long : Bool) (hz : s'.size ≤ 4000) (w : World) (hl1 : long = true → 4000 < s.size ∧ s.extract 0 4000 = s') (hl2 : long = false → s.size ≤ 4000 ∧ s = s') :
    Calls Try.prog 8 #[.string s] w fun r w' => r = .returned (.bool true) ∧ Below w.heap.size w w' := by
  have h4 : s'.data.toList.length ≤ 4000 := by rw [← Lib.size_eq]; exact hz
  have g1 := getsF s' (by omega)
  have g3 := getsP s' (by omega)
  rcases h1 : Fr.read s'.data.toList with _ | f
  · rcases h3 : Fr.rread s'.data.toList with _ | r
    · rw [h1] at g1; rw [h3] at g3
      exact frameOnly_ff s s' long w hl1 hl2 g1 g3
    · rw [h1] at g1; rw [h3] at g3
      obtain ⟨a, b⟩ := Fr.okr_read h3 h4
      exact frameOnly_ft s s' long r a b w hl1 hl2 g1 g3
  · obtain ⟨c, d⟩ := Fr.ok_read h1 h4
    rcases h3 : Fr.rread s'.data.toList with _ | r
    · rw [h1] at g1; rw [h3] at g3
      exact frameOnly_tf s s' long f c d w hl1 hl2 g1 g3
    · rw [h1] at g1; rw [h3] at g3
      obtain ⟨a, b⟩ := Fr.okr_read h3 h4
      exact frameOnly_tt s s' long f c d r a b w hl1 hl2 g1 g3
theorem frameOnly_walk (s : ByteArray) (_ : s.size ≤ maxLen) (w : World) : Calls Try.prog 8 #[.string s] w fun r w' => r = .returned (.bool true) ∧ Below w.heap.size w w' := by
  by_cases hl : 4000 < s.size
  · exact frameOnly_at s (s.extract 0 4000) true (by rw [ByteArray.size_extract]; omega) w (fun _ => ⟨hl, rfl⟩) (fun h => by cases h)
  · exact frameOnly_at s s false (by omega) w (fun h => by cases h) (fun _ => ⟨by omega, rfl⟩)
end Go.Proofs.Ytlcgjlganmblpaa
