/-
  FrameReads walked. WRITTEN BY wip/tools/gen_frrd7.py.
-/
import Derived.Test.YtlcgjlganmblpaaRFrHasR
set_option linter.unusedSimpArgs false
set_option linter.unusedVariables false
namespace Go.Proofs.Ytlcgjlganmblpaa
open Go.RowKit
set_option linter.unusedVariables false
set_option maxRecDepth 100000 in
set_option maxHeartbeats 8000000 in
theorem frameReads_at (s s' : ByteArray) (b d long : Bool) (f : Fr.F) (r : Fr.R) (hf : f.cmd.parts.length ≤ 1000000) (hr : r.res.rows.length ≤ 1000000) (w : World) (hl1 : long = true → 4000 < s.size ∧ s.extract 0 4000 = s') (hl2 : long = false → s.size ≤ 4000 ∧ s = s')
    (H1 : GetsF 13 s' f b) (H2 : GetsF 20 s' f b) (H3 : GetsP 14 s' r d) (H4 : GetsP 21 s' r d) :
    Calls Try.prog 5 #[.string s] w fun r w' => r = .returned (.bool true) ∧ Below w.heap.size w w' := by
  have HA := Lib.hid fAwake_any
  have HS := Lib.hid (sameF f hf)
  have HP := Lib.hid (sameP r hr)
  unfold GetsF at H1 H2
  unfold GetsP at H3 H4
  have H1 := Lib.hid H1
  have H2 := Lib.hid H2
  have H3 := Lib.hid H3
  have H4 := Lib.hid H4
  have hbb : (b == b) = true := by cases b <;> rfl
  have hdd : (d == d) = true := by cases d <;> rfl
  have HM := Lib.hid (Below.refl w.heap.size w)
  clear hf hr
  cases long
  · skip
    obtain ⟨hk, rfl⟩ := hl2 rfl
    have d3 : decide ((4000 : Int) < (s.size : Int)) = false := by simp; omega
    clear hl1 hl2 hk
    go_enter Try.func5, Try.ntmps5
    go_wp2_with fail
    refine (H1.out _).mono ?_
    rintro e0 V1 ⟨A1, cap1, rfl, hl, hb⟩
    have HV := Lib.hid (And.intro hl hb)
    clear hl hb
    go_upto_region 4 with (refine wpList_store_sub rfl 32 _ _ rfl V1.heap.size 0 rfl 32 (frC Fr.F.zero none 0) (frC f A1 cap1) rfl ?_ (Nat.le_refl 37) (sizeFrC _ _ _) (frC_one _ _ _) ?_; exact heap_alloc_new V1 _)
    have hbb := (HV.out.2.trans ((laidB V1 (.cells (frC Fr.F.zero none 0) 32) (frC f A1 cap1).toList).mono HV.out.2.size))
    refine forget (fun W => Below w.heap.size w W ∧ HasF W V1.heap.size f A1 cap1) (And.intro (bnext HM.out hbb) (HasF.laid HV.out.1)) ?_
    clear HM HV hbb
    obtain ⟨g1, hg1⟩ : ∃ g, g = V1.heap.size := ⟨_, rfl⟩
    rw [← hg1]
    clear hg1 V1
    intro W hall
    have HM := Lib.hid hall
    clear hall
    go_wp2_with fail
    refine (H2.out _).mono ?_
    rintro e0 V2 ⟨A2, cap2, rfl, hl, hb⟩
    have HV := Lib.hid (And.intro hl hb)
    clear hl hb
    go_upto_region 5 with (refine wpList_store_sub rfl 32 _ _ rfl V2.heap.size 0 rfl 32 (frC Fr.F.zero none 0) (frC f A2 cap2) rfl ?_ (Nat.le_refl 37) (sizeFrC _ _ _) (frC_one _ _ _) ?_; exact heap_alloc_new V2 _)
    have hbb := (HV.out.2.trans ((laidB V2 (.cells (frC Fr.F.zero none 0) 32) (frC f A2 cap2).toList).mono HV.out.2.size))
    refine forget (fun W => Below w.heap.size w W ∧ HasF W g1 f A1 cap1 ∧ HasF W V2.heap.size f A2 cap2) (And.intro (bnext HM.out.1 hbb) (And.intro ((HM.out.2).below hbb) (HasF.laid HV.out.1))) ?_
    clear HM HV hbb
    obtain ⟨g2, hg2⟩ : ∃ g, g = V2.heap.size := ⟨_, rfl⟩
    rw [← hg2]
    clear hg2 V2
    intro W hall
    have HM := Lib.hid hall
    clear hall
    go_wp2_with fail
    refine (H3.out _).mono ?_
    rintro e0 V3 ⟨A3, cap3, rfl, hl, hb⟩
    have HV := Lib.hid (And.intro hl hb)
    clear hl hb
    go_upto_region 6 with (refine wpList_store_sub rfl 39 _ _ rfl V3.heap.size 0 rfl 39 (rpC Fr.R.zero none 0) (rpC r A3 cap3) rfl ?_ (Nat.le_refl 8) (sizeRpC _ _ _) (rpC_one _ _ _) ?_; exact heap_alloc_new V3 _)
    have hbb := (HV.out.2.trans ((laidB V3 (.cells (rpC Fr.R.zero none 0) 39) (rpC r A3 cap3).toList).mono HV.out.2.size))
    refine forget (fun W => Below w.heap.size w W ∧ HasF W g1 f A1 cap1 ∧ HasF W g2 f A2 cap2 ∧ HasP W V3.heap.size r A3 cap3) (And.intro (bnext HM.out.1 hbb) (And.intro ((HM.out.2.1).below hbb) (And.intro ((HM.out.2.2).below hbb) (HasP.laid HV.out.1)))) ?_
    clear HM HV hbb
    obtain ⟨g3, hg3⟩ : ∃ g, g = V3.heap.size := ⟨_, rfl⟩
    rw [← hg3]
    clear hg3 V3
    intro W hall
    have HM := Lib.hid hall
    clear hall
    go_wp2_with fail
    refine (H4.out _).mono ?_
    rintro e0 V4 ⟨A4, cap4, rfl, hl, hb⟩
    have HV := Lib.hid (And.intro hl hb)
    clear hl hb
    go_upto_region 7 with (refine wpList_store_sub rfl 39 _ _ rfl V4.heap.size 0 rfl 39 (rpC Fr.R.zero none 0) (rpC r A4 cap4) rfl ?_ (Nat.le_refl 8) (sizeRpC _ _ _) (rpC_one _ _ _) ?_; exact heap_alloc_new V4 _)
    have hbb := (HV.out.2.trans ((laidB V4 (.cells (rpC Fr.R.zero none 0) 39) (rpC r A4 cap4).toList).mono HV.out.2.size))
    refine forget (fun W => Below w.heap.size w W ∧ HasF W g1 f A1 cap1 ∧ HasF W g2 f A2 cap2 ∧ HasP W g3 r A3 cap3 ∧ HasP W V4.heap.size r A4 cap4) (And.intro (bnext HM.out.1 hbb) (And.intro ((HM.out.2.1).below hbb) (And.intro ((HM.out.2.2.1).below hbb) (And.intro ((HM.out.2.2.2).below hbb) (HasP.laid HV.out.1))))) ?_
    clear HM HV hbb
    obtain ⟨g4, hg4⟩ : ∃ g, g = V4.heap.size := ⟨_, rfl⟩
    rw [← hg4]
    clear hg4 V4
    intro W hall
    have HM := Lib.hid hall
    clear hall
    clear H1 H2 H3 H4
    go_wp2_with (first | (refine wpList_load_sub rfl 32 _ rfl g1 0 rfl 32 (frC f A1 cap1) (frC f A1 cap1) (0, 0) _ HM.out.2.1.row (subAll _) Try.underlying32 rfl (sizeFrC _ _ _) ?_) | (refine wpList_load_sub rfl 32 _ rfl g2 0 rfl 32 (frC f A2 cap2) (frC f A2 cap2) (0, 0) _ HM.out.2.2.1.row (subAll _) Try.underlying32 rfl (sizeFrC _ _ _) ?_))
    refine (HS.out _ _ _ _ _ HM.out.2.1.lies HM.out.2.2.1.lies).mono ?_
    rintro e w1 ⟨rfl, hb⟩
    have HM := Lib.hid (And.intro (bnext HM.out.1 hb) (And.intro ((HM.out.2.1).below hb) (And.intro ((HM.out.2.2.1).below hb) (And.intro ((HM.out.2.2.2.1).below hb) ((HM.out.2.2.2.2).below hb)))))
    clear hb
    go_wp2_with (first | (refine wpList_load_sub rfl 39 _ rfl g3 0 rfl 39 (rpC r A3 cap3) (rpC r A3 cap3) (0, 0) _ HM.out.2.2.2.1.row (subAll _) Try.underlying39 rfl (sizeRpC _ _ _) ?_) | (refine wpList_load_sub rfl 39 _ rfl g4 0 rfl 39 (rpC r A4 cap4) (rpC r A4 cap4) (0, 0) _ HM.out.2.2.2.2.row (subAll _) Try.underlying39 rfl (sizeRpC _ _ _) ?_))
    refine (HP.out _ _ _ _ _ HM.out.2.2.2.1.lies HM.out.2.2.2.2.lies).mono ?_
    rintro e w2 ⟨rfl, hb⟩
    have HM := Lib.hid (And.intro (bnext HM.out.1 hb) (And.intro ((HM.out.2.1).below hb) (And.intro ((HM.out.2.2.1).below hb) (And.intro ((HM.out.2.2.2.1).below hb) ((HM.out.2.2.2.2).below hb)))))
    clear hb
    go_wp2_with fail
    refine (HA.out _).mono ?_
    rintro e w3 ⟨rfl, hb⟩
    have HM := Lib.hid (And.intro (bnext HM.out.1 hb) (And.intro ((HM.out.2.1).below hb) (And.intro ((HM.out.2.2.1).below hb) (And.intro ((HM.out.2.2.2.1).below hb) ((HM.out.2.2.2.2).below hb)))))
    clear hb
    go_wp2_with fail
    go_ret
    exact ⟨rfl, HM.out.1⟩
  · skip
    obtain ⟨hk, hss⟩ := hl1 rfl
    have d3 : decide ((4000 : Int) < (s.size : Int)) = true := by simp; omega
    have d3' : (4000 : Int) ≤ (s.size : Int) := by omega
    have HSS := Lib.hid hss
    clear hl1 hl2 hk hss
    go_enter Try.func5, Try.ntmps5
    go_wp2_with fail
    rw [HSS.out]
    refine (H1.out _).mono ?_
    rintro e0 V1 ⟨A1, cap1, rfl, hl, hb⟩
    have HV := Lib.hid (And.intro hl hb)
    clear hl hb
    go_upto_region 4 with (refine wpList_store_sub rfl 32 _ _ rfl V1.heap.size 0 rfl 32 (frC Fr.F.zero none 0) (frC f A1 cap1) rfl ?_ (Nat.le_refl 37) (sizeFrC _ _ _) (frC_one _ _ _) ?_; exact heap_alloc_new V1 _)
    have hbb := (HV.out.2.trans ((laidB V1 (.cells (frC Fr.F.zero none 0) 32) (frC f A1 cap1).toList).mono HV.out.2.size))
    refine forget (fun W => Below w.heap.size w W ∧ HasF W V1.heap.size f A1 cap1) (And.intro (bnext HM.out hbb) (HasF.laid HV.out.1)) ?_
    clear HM HV hbb
    obtain ⟨g1, hg1⟩ : ∃ g, g = V1.heap.size := ⟨_, rfl⟩
    rw [← hg1]
    clear hg1 V1
    intro W hall
    have HM := Lib.hid hall
    clear hall
    go_wp2_with fail
    refine (H2.out _).mono ?_
    rintro e0 V2 ⟨A2, cap2, rfl, hl, hb⟩
    have HV := Lib.hid (And.intro hl hb)
    clear hl hb
    go_upto_region 5 with (refine wpList_store_sub rfl 32 _ _ rfl V2.heap.size 0 rfl 32 (frC Fr.F.zero none 0) (frC f A2 cap2) rfl ?_ (Nat.le_refl 37) (sizeFrC _ _ _) (frC_one _ _ _) ?_; exact heap_alloc_new V2 _)
    have hbb := (HV.out.2.trans ((laidB V2 (.cells (frC Fr.F.zero none 0) 32) (frC f A2 cap2).toList).mono HV.out.2.size))
    refine forget (fun W => Below w.heap.size w W ∧ HasF W g1 f A1 cap1 ∧ HasF W V2.heap.size f A2 cap2) (And.intro (bnext HM.out.1 hbb) (And.intro ((HM.out.2).below hbb) (HasF.laid HV.out.1))) ?_
    clear HM HV hbb
    obtain ⟨g2, hg2⟩ : ∃ g, g = V2.heap.size := ⟨_, rfl⟩
    rw [← hg2]
    clear hg2 V2
    intro W hall
    have HM := Lib.hid hall
    clear hall
    go_wp2_with fail
    refine (H3.out _).mono ?_
    rintro e0 V3 ⟨A3, cap3, rfl, hl, hb⟩
    have HV := Lib.hid (And.intro hl hb)
    clear hl hb
    go_upto_region 6 with (refine wpList_store_sub rfl 39 _ _ rfl V3.heap.size 0 rfl 39 (rpC Fr.R.zero none 0) (rpC r A3 cap3) rfl ?_ (Nat.le_refl 8) (sizeRpC _ _ _) (rpC_one _ _ _) ?_; exact heap_alloc_new V3 _)
    have hbb := (HV.out.2.trans ((laidB V3 (.cells (rpC Fr.R.zero none 0) 39) (rpC r A3 cap3).toList).mono HV.out.2.size))
    refine forget (fun W => Below w.heap.size w W ∧ HasF W g1 f A1 cap1 ∧ HasF W g2 f A2 cap2 ∧ HasP W V3.heap.size r A3 cap3) (And.intro (bnext HM.out.1 hbb) (And.intro ((HM.out.2.1).below hbb) (And.intro ((HM.out.2.2).below hbb) (HasP.laid HV.out.1)))) ?_
    clear HM HV hbb
    obtain ⟨g3, hg3⟩ : ∃ g, g = V3.heap.size := ⟨_, rfl⟩
    rw [← hg3]
    clear hg3 V3
    intro W hall
    have HM := Lib.hid hall
    clear hall
    go_wp2_with fail
    refine (H4.out _).mono ?_
    rintro e0 V4 ⟨A4, cap4, rfl, hl, hb⟩
    have HV := Lib.hid (And.intro hl hb)
    clear hl hb
    go_upto_region 7 with (refine wpList_store_sub rfl 39 _ _ rfl V4.heap.size 0 rfl 39 (rpC Fr.R.zero none 0) (rpC r A4 cap4) rfl ?_ (Nat.le_refl 8) (sizeRpC _ _ _) (rpC_one _ _ _) ?_; exact heap_alloc_new V4 _)
    have hbb := (HV.out.2.trans ((laidB V4 (.cells (rpC Fr.R.zero none 0) 39) (rpC r A4 cap4).toList).mono HV.out.2.size))
    refine forget (fun W => Below w.heap.size w W ∧ HasF W g1 f A1 cap1 ∧ HasF W g2 f A2 cap2 ∧ HasP W g3 r A3 cap3 ∧ HasP W V4.heap.size r A4 cap4) (And.intro (bnext HM.out.1 hbb) (And.intro ((HM.out.2.1).below hbb) (And.intro ((HM.out.2.2.1).below hbb) (And.intro ((HM.out.2.2.2).below hbb) (HasP.laid HV.out.1))))) ?_
    clear HM HV hbb
    obtain ⟨g4, hg4⟩ : ∃ g, g = V4.heap.size := ⟨_, rfl⟩
    rw [← hg4]
    clear hg4 V4
    intro W hall
    have HM := Lib.hid hall
    clear hall
    clear H1 H2 H3 H4
    go_wp2_with (first | (refine wpList_load_sub rfl 32 _ rfl g1 0 rfl 32 (frC f A1 cap1) (frC f A1 cap1) (0, 0) _ HM.out.2.1.row (subAll _) Try.underlying32 rfl (sizeFrC _ _ _) ?_) | (refine wpList_load_sub rfl 32 _ rfl g2 0 rfl 32 (frC f A2 cap2) (frC f A2 cap2) (0, 0) _ HM.out.2.2.1.row (subAll _) Try.underlying32 rfl (sizeFrC _ _ _) ?_))
    refine (HS.out _ _ _ _ _ HM.out.2.1.lies HM.out.2.2.1.lies).mono ?_
    rintro e w1 ⟨rfl, hb⟩
    have HM := Lib.hid (And.intro (bnext HM.out.1 hb) (And.intro ((HM.out.2.1).below hb) (And.intro ((HM.out.2.2.1).below hb) (And.intro ((HM.out.2.2.2.1).below hb) ((HM.out.2.2.2.2).below hb)))))
    clear hb
    go_wp2_with (first | (refine wpList_load_sub rfl 39 _ rfl g3 0 rfl 39 (rpC r A3 cap3) (rpC r A3 cap3) (0, 0) _ HM.out.2.2.2.1.row (subAll _) Try.underlying39 rfl (sizeRpC _ _ _) ?_) | (refine wpList_load_sub rfl 39 _ rfl g4 0 rfl 39 (rpC r A4 cap4) (rpC r A4 cap4) (0, 0) _ HM.out.2.2.2.2.row (subAll _) Try.underlying39 rfl (sizeRpC _ _ _) ?_))
    refine (HP.out _ _ _ _ _ HM.out.2.2.2.1.lies HM.out.2.2.2.2.lies).mono ?_
    rintro e w2 ⟨rfl, hb⟩
    have HM := Lib.hid (And.intro (bnext HM.out.1 hb) (And.intro ((HM.out.2.1).below hb) (And.intro ((HM.out.2.2.1).below hb) (And.intro ((HM.out.2.2.2.1).below hb) ((HM.out.2.2.2.2).below hb)))))
    clear hb
    go_wp2_with fail
    refine (HA.out _).mono ?_
    rintro e w3 ⟨rfl, hb⟩
    have HM := Lib.hid (And.intro (bnext HM.out.1 hb) (And.intro ((HM.out.2.1).below hb) (And.intro ((HM.out.2.2.1).below hb) (And.intro ((HM.out.2.2.2.1).below hb) ((HM.out.2.2.2.2).below hb)))))
    clear hb
    go_wp2_with fail
    go_ret
    exact ⟨rfl, HM.out.1⟩
theorem frameReads_walk (s : ByteArray) (_ : s.size ≤ maxLen) (w : World) : Calls Try.prog 5 #[.string s] w fun r w' => r = .returned (.bool true) ∧ Below w.heap.size w w' := by
  by_cases hl : 4000 < s.size
  · have hz : (s.extract 0 4000).size = 4000 := by rw [ByteArray.size_extract]; omega
    have h4 : (s.extract 0 4000).data.toList.length ≤ 4000 := by rw [← Lib.size_eq, hz]; exact Nat.le_refl _
    have hb : (s.extract 0 4000).size ≤ 10000000 := by omega
    exact frameReads_at s _ _ _ true _ _ (Fr.ok_of h4).parts (by have := (Fr.okr_of h4).len; omega) w (fun _ => ⟨hl, rfl⟩) (fun h => by cases h) (getsF _ hb) (getsFr _ hb) (getsP _ hb) (getsPr _ hb)
  · have h4 : s.data.toList.length ≤ 4000 := by rw [← Lib.size_eq]; omega
    have hb : s.size ≤ 10000000 := by omega
    exact frameReads_at s s _ _ false _ _ (Fr.ok_of h4).parts (by have := (Fr.okr_of h4).len; omega) w (fun h => by cases h) (fun _ => ⟨by omega, rfl⟩) (getsF _ hb) (getsFr _ hb) (getsP _ hb) (getsPr _ hb)
end Go.Proofs.Ytlcgjlganmblpaa
