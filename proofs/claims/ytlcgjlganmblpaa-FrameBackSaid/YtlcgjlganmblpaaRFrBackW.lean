/-
  FrameBack walked. WRITTEN BY wip/tools/gen_frback.py.
-/
import Derived.Test.YtlcgjlganmblpaaRFrAw
import Derived.Test.YtlcgjlganmblpaaROpen
set_option linter.unusedSimpArgs false
set_option linter.unusedVariables false
namespace Go.Proofs.Ytlcgjlganmblpaa
open Go.RowKit
set_option linter.unusedVariables false
theorem ext_take (t : ByteArray) (k : Nat) : (t.extract 0 k).data.toList = t.data.toList.take k := by
  rw [Lib.extract_data]; simp
theorem emp_iff (b : ByteArray) : b.toList.isEmpty = true ↔ b.data.toList = [] := by rw [ByteArray.toList_eq, List.isEmpty_iff]
theorem toks_ne2 {t : ByteArray} (h : t.data.toList ≠ []) : t.toList.isEmpty = false := by
  rw [ByteArray.toList_eq, List.isEmpty_eq_false_iff]; exact h
theorem more_b {α : Type} (R : List UInt8 → Option α) (l : List UInt8) (x : α) (h0 : R l = some x) (h1 : ∀ r, r ≠ [] → R (l ++ r) = none) (b : ByteArray) : (R (l ++ b.data.toList)).isSome = b.toList.isEmpty := by
  by_cases hb : b.data.toList = []
  · rw [hb, List.append_nil, h0, (emp_iff b).2 hb]; rfl
  · rw [h1 _ hb, toks_ne2 hb]; rfl
theorem app_data (a b : ByteArray) : (a ++ b).data.toList = a.data.toList ++ b.data.toList := by simp [ByteArray.data_append]
theorem cut_b (t : ByteArray) (k : Nat) (h : 0 < t.size) : ∃ l r, (t.extract 0 (k % t.size)).data.toList = l ∧ r ≠ [] ∧ l ++ r = t.data.toList := by
  refine ⟨_, t.data.toList.drop (k % t.size), ext_take _ _, ?_, List.take_append_drop _ _⟩
  intro h2
  have := congrArg List.length h2
  rw [List.length_drop, ← Lib.size_eq] at this
  have := Nat.mod_lt k h
  simp at *
  omega
/-- What is read of a frame's bytes, whole, cut, and with something behind. -/
theorem backF {f : Fr.F} {t : ByteArray} (ht : t.data.toList = Fr.enc f) (sf : Fr.Sh f) (hm : Fr.may f) (ok : Fr.Ok f) (k : Nat) (b : ByteArray) (hb : b.size ≤ 100) :
    0 < t.size ∧ t.size ≤ 9000100 ∧ t.toList.isEmpty = false ∧ GetsF 13 t f true ∧ GetsF 13 (t.extract 0 (k % t.size)) Fr.F.zero false ∧ ∃ m, GetsF 13 (t ++ b) m b.toList.isEmpty := by
  have hne : t.data.toList ≠ [] := by rw [ht]; exact Fr.enc_ne f
  have h0 : 0 < t.size := by
    rw [Lib.size_eq]; exact List.length_pos_iff.2 hne
  have hz : t.size ≤ 9000100 := by rw [Lib.size_eq, ht]; exact Fr.enc_len ok hm
  have hr := (Fr.read_iff _ _).2 ⟨sf, hm, rfl⟩
  refine ⟨h0, hz, toks_ne2 hne, ?_, ?_, ⟨(Fr.read (t ++ b).data.toList).getD Fr.F.zero, ?_⟩⟩
  · have := getsF t (by omega)
    rw [ht, hr] at this; exact this
  · have := getsF (t.extract 0 (k % t.size)) (by rw [ByteArray.size_extract]; omega)
    obtain ⟨l, r, e1, e2, e3⟩ := cut_b t k h0
    rw [e1, Fr.read_less sf hm (e3.trans ht) e2] at this; exact this
  · have := getsF (t ++ b) (by rw [ByteArray.size_append]; omega)
    rw [show (Fr.read (t ++ b).data.toList).isSome = b.toList.isEmpty by rw [app_data, ht]; exact more_b Fr.read _ f hr (fun r h => Fr.read_more sf hm h) b] at this
    exact this
theorem backP {f : Fr.R} {t : ByteArray} (ht : t.data.toList = Fr.bytes f) (sf : Fr.RSh f) (hm : Fr.right f = true) (ok : Fr.OkR f) (k : Nat) (b : ByteArray) (hb : b.size ≤ 100) :
    0 < t.size ∧ t.size ≤ 9000100 ∧ t.toList.isEmpty = false ∧ GetsP 14 t f true ∧ GetsP 14 (t.extract 0 (k % t.size)) Fr.R.zero false ∧ ∃ m, GetsP 14 (t ++ b) m b.toList.isEmpty := by
  have hne : t.data.toList ≠ [] := by rw [ht]; exact Fr.bytes_ne f
  have h0 : 0 < t.size := by
    rw [Lib.size_eq]; exact List.length_pos_iff.2 hne
  have hz : t.size ≤ 9000100 := by rw [Lib.size_eq, ht]; exact Fr.rbytes_len ok
  have hr := (Fr.rread_iff _ _).2 ⟨sf, hm, rfl⟩
  refine ⟨h0, hz, toks_ne2 hne, ?_, ?_, ⟨(Fr.rread (t ++ b).data.toList).getD Fr.R.zero, ?_⟩⟩
  · have := getsP t (by omega)
    rw [ht, hr] at this; exact this
  · have := getsP (t.extract 0 (k % t.size)) (by rw [ByteArray.size_extract]; omega)
    obtain ⟨l, r, e1, e2, e3⟩ := cut_b t k h0
    rw [e1, Fr.rread_less sf hm (e3.trans ht) e2] at this; exact this
  · have := getsP (t ++ b) (by rw [ByteArray.size_append]; omega)
    rw [show (Fr.rread (t ++ b).data.toList).isSome = b.toList.isEmpty by rw [app_data, ht]; exact more_b Fr.rread _ f hr (fun r h => Fr.rread_more sf hm h) b] at this
    exact this
set_option maxRecDepth 100000 in
set_option maxHeartbeats 16000000 in
theorem frameBack_go (w : World) (f : Fr.F) (A : Option Addr) (cap : Nat) (gv : GivenF w f A cap) (r : Fr.R) (B : Option Addr) (cb : Nat) (gw : GivenP w r B cb) (k : Nat) (hk : k < 65536) (beh : ByteArray) (hbe : beh.size ≤ maxLen) :
    Calls Try.prog 7 #[.agg (frC f A cap), .agg (rpC r B cb), .int .u16 (k : Int), .string beh] w fun e w' => e = .returned (.bool true) ∧ Below w.heap.size w w' := by
  have HG := Lib.hid (fun W (hb : Below w.heap.size w W) => great_any6 f A cap W (gv.lies.below hb))
  have HGr := Lib.hid (fun W (hb : Below w.heap.size w W) => greatR_any r.res B cb W (gw.lies.below hb))
  have HAw := Lib.hid fAwake_any
  have HF := Lib.hid (And.intro gv (And.intro gw hbe))
  have HSr := Lib.hid (subRes r B cb)
  have HzX := Lib.hid (sizeFrC f A cap)
  have HzZ := Lib.hid (sizeResC r.res B cb)
  obtain ⟨X, hX⟩ : ∃ X, X = frC f A cap := ⟨_, rfl⟩
  obtain ⟨Y, hY⟩ : ∃ X, X = rpC r B cb := ⟨_, rfl⟩
  obtain ⟨Z, hZ⟩ : ∃ X, X = resC r.res B cb := ⟨_, rfl⟩
  rw [← hX] at HG HzX ⊢
  rw [← hY] at HSr ⊢
  rw [← hZ] at HGr HSr HzZ
  have HX := Lib.hid hX
  have HY := Lib.hid hY
  unfold maxLen at hbe
  clear hX hY hZ gv gw
  go_enter Try.func7, Try.ntmps7
  go_upto_region 1 with (fail)
  refine forget (Rows2 w w.heap.size X Y) (two_rowsT w X Y _ _) ?_
  intro W1 h1
  obtain ⟨g, hg⟩ : ∃ g, g = w.heap.size := ⟨_, rfl⟩
  rw [← hg] at h1 ⊢
  have HM := Lib.hid h1
  clear h1 hg
  go_wp2_with (refine wpList_load_sub rfl 32 _ rfl g 0 rfl 32 X X (0, 0) _ HM.out.2.1 (subAll _) Try.underlying32 rfl HzX.out ?_)
  refine (HG.out _ HM.out.1).mono ?_
  rintro e w1 ⟨rfl, hb⟩
  have HM1 := Lib.hid (Rows2.grow HM.out hb)
  clear hb HM
  cases hgr : Cm.great f.cmd
  case true =>
    clear hgr
    go_wp2_with fail
    refine (HAw.out _).mono ?_
    rintro e w2 ⟨rfl, hb2⟩
    have HB2 := Lib.hid (bnext HM1.out.1 hb2)
    clear hb2
    go_wp2_with fail
    go_ret
    exact ⟨rfl, HB2.out⟩
  have HS := Lib.hid (Cm.small_of hgr)
  clear hgr
  go_wp2_with (refine wpList_load_sub rfl 37 _ rfl (g + 1) 4 rfl 39 Y Z (0, 0) _ HM1.out.2.2 HSr.out Try.underlying37 rfl HzZ.out ?_)
  refine (HGr.out _ HM1.out.1).mono ?_
  rintro e w2 ⟨rfl, hb⟩
  have HM2 := Lib.hid (Rows2.grow HM1.out hb)
  clear hb HM1
  cases hgr : Rs.great r.res
  case true =>
    clear hgr
    go_wp2_with fail
    refine (HAw.out _).mono ?_
    rintro e w2 ⟨rfl, hb2⟩
    have HB2 := Lib.hid (bnext HM2.out.1 hb2)
    clear hb2
    go_wp2_with fail
    go_ret
    exact ⟨rfl, HB2.out⟩
  have HSp := Lib.hid (Rs.small_of hgr)
  clear hgr
  by_cases hl : 100 < beh.size
  case pos =>
    have d1 : decide ((100 : Int) < (beh.size : Int)) = true := dec_t hl
    clear hl
    go_wp2_with fail
    refine (HAw.out _).mono ?_
    rintro e w2 ⟨rfl, hb2⟩
    have HB2 := Lib.hid (bnext HM2.out.1 hb2)
    clear hb2
    go_wp2_with fail
    go_ret
    exact ⟨rfl, HB2.out⟩
  have d1 : decide ((100 : Int) < (beh.size : Int)) = false := dec_f hl
  have hl100 : beh.size ≤ 100 := by omega
  clear hl
  go_upto_region 3 with (fail)
  refine forget (fun W => Below w.heap.size w W ∧ HasF W g f A cap ∧ HasP W (g + 1) r B cb) (by
    obtain ⟨q1, q2, q3⟩ := HM2.out
    rw [HX.out] at q2
    rw [HY.out] at q3
    exact ⟨q1, ⟨q2, HF.out.1.lies.below q1⟩, ⟨q3, HF.out.2.1.lies.below q1⟩⟩) ?_
  clear HM2 HG HGr HSr HzX HzZ d1
  intro W hall
  have HM := Lib.hid hall
  have HOk := Lib.hid (Fr.ok_small HF.out.1.fits HS.out)
  have HOkR := Lib.hid (Fr.okr_small HF.out.2.1.fit HF.out.2.1.rfits HSp.out)
  obtain ⟨s, hs⟩ : ∃ s : ByteArray, s = ⟨(Fr.write f).toArray⟩ := ⟨_, rfl⟩
  obtain ⟨u, hu⟩ : ∃ s : ByteArray, s = ⟨(Fr.rwrite r).toArray⟩ := ⟨_, rfl⟩
  have hw := okW HOk.out A cap
  have hv := okR HOkR.out B cb
  unfold RetS at hw hv
  rw [← hs] at hw
  rw [← hu] at hv
  have HW := Lib.hid hw
  have HV := Lib.hid hv
  have Hsu := Lib.hid (And.intro hs hu)
  obtain ⟨be, hbe2⟩ : ∃ z, beh.toList.isEmpty = z := ⟨_, rfl⟩
  have hbb : (be != be) = false := by cases be <;> rfl
  have k0 : (0 : Int) ≤ (k : Int) := by omega
  have k1 : (k : Int) < 65536 := by omega
  clear hall hs hu hw hv
  go_wp2_with (refine wpList_load_sub rfl 32 _ rfl g 0 rfl 32 (frC f A cap) (frC f A cap) (0, 0) _ HM.out.2.1.row (subAll _) Try.underlying32 rfl (sizeFrC _ _ _) ?_)
  refine (HW.out _ HM.out.2.1.lies).mono ?_
  rintro e w3 ⟨rfl, hb⟩
  have HM := Lib.hid (And.intro (bnext HM.out.1 hb) (And.intro ((HM.out.2.1).below hb) ((HM.out.2.2).below hb)))
  clear hb
  clear HW
  by_cases hmf : Fr.may f
  case neg =>
    have e1 : s = ⟨#[]⟩ := by rw [Hsu.out.1, Fr.write_no hmf]
    have Hsu := Lib.hid (And.intro True.intro Hsu.out.2)
    subst e1
    clear hmf
    go_upto_region 10 with (fail)
    refine forget (fun W => Below w.heap.size w W ∧ HasF W g f A cap ∧ HasP W (g + 1) r B cb) (And.intro (HM.out.1) (And.intro (HM.out.2.1) (HM.out.2.2))) ?_
    clear HM
    intro W hall
    have HM := Lib.hid hall
    clear hall
    go_wp2_with (refine wpList_load_sub rfl 39 _ rfl (g + 1) 0 rfl 39 (rpC r B cb) (rpC r B cb) (0, 0) _ HM.out.2.2.row (subAll _) Try.underlying39 rfl (sizeRpC _ _ _) ?_)
    refine (HV.out _ HM.out.2.2.lies).mono ?_
    rintro e w4 ⟨rfl, hb⟩
    have HM := Lib.hid (And.intro (bnext HM.out.1 hb) (And.intro ((HM.out.2.1).below hb) ((HM.out.2.2).below hb)))
    clear hb
    clear HV
    cases hrt : Fr.right r
    case false =>
      have e1 : u = ⟨#[]⟩ := by rw [Hsu.out.2, (Fr.rwrite_nil r).2 hrt]
      subst e1
      clear hrt
      go_wp2_with fail
      refine (HAw.out _).mono ?_
      rintro e w5 ⟨rfl, hb⟩
      have HM := Lib.hid (And.intro (bnext HM.out.1 hb) (And.intro ((HM.out.2.1).below hb) ((HM.out.2.2).below hb)))
      clear hb
      go_wp2_with fail
      go_ret
      exact ⟨rfl, HM.out.1⟩
    have hub : u.data.toList = Fr.bytes r := by rw [Hsu.out.2]; show Fr.rwrite r = _; unfold Fr.rwrite; rw [if_pos hrt]
    obtain ⟨z0, z1, z2, R1, R2, M3, R3⟩ := backP hub (Fr.rsh_small HF.out.2.1.fit HF.out.2.1.rfits HSp.out) hrt HOkR.out k beh hl100
    have z22 : r.kind ≠ 6 → u.size ≤ 22 := fun h => by rw [Lib.size_eq, hub]; exact Fr.bytes_22 HF.out.2.1.fit h
    rw [hbe2] at R3
    unfold GetsP at R1 R2 R3
    have HR1 := Lib.hid R1
    have HR2 := Lib.hid R2
    have HR3 := Lib.hid R3
    have HP := Lib.hid (sameP r (by have := HOkR.out.len; omega))
    have Hz22 := Lib.hid z22
    have ha : ∀ W : World, (Op.stringOp .add u beh).run Try.prog W = .ok (.string (u ++ beh)) W := fun W => run_string_add_sum W _ _ (by omega)
    have i1 : (0 : Int) ≤ (k : Int) % (u.size : Int) := by omega
    have i2 : (k : Int) % (u.size : Int) ≤ (u.size : Int) := by
      have := Int.emod_lt_of_pos (k : Int) (show (0 : Int) < (u.size : Int) by omega)
      omega
    have i3 : (0 : Int) < (u.size : Int) := by omega
    clear hub R1 R2 R3 hrt z22
    go_wp2_with fail
    refine (HR1.out _).mono ?_
    rintro e0 V11 ⟨A11, cap11, rfl, hl, hb⟩
    have HV := Lib.hid (And.intro hl hb)
    clear hl hb
    go_upto_region 13 with (refine wpList_store_sub rfl 39 _ _ rfl V11.heap.size 0 rfl 39 (rpC Fr.R.zero none 0) (rpC r A11 cap11) rfl ?_ (Nat.le_refl 8) (sizeRpC _ _ _) (rpC_one _ _ _) ?_; exact heap_alloc_new V11 _)
    have hbb := (HV.out.2.trans ((laidB V11 (.cells (rpC Fr.R.zero none 0) 39) (rpC r A11 cap11).toList).mono HV.out.2.size))
    refine forget (fun W => Below w.heap.size w W ∧ HasF W g f A cap ∧ HasP W (g + 1) r B cb ∧ HasP W V11.heap.size r A11 cap11) (And.intro (bnext HM.out.1 hbb) (And.intro ((HM.out.2.1).below hbb) (And.intro ((HM.out.2.2).below hbb) (HasP.laid HV.out.1)))) ?_
    clear HM HV hbb
    obtain ⟨g11, hg11⟩ : ∃ g, g = V11.heap.size := ⟨_, rfl⟩
    rw [← hg11]
    clear hg11 V11
    intro W hall
    have HM := Lib.hid hall
    clear hall
    go_wp2_with fail
    refine (HR2.out _).mono ?_
    rintro e0 V12 ⟨A12, cap12, rfl, hl, hb⟩
    have HV := Lib.hid (And.intro hl hb)
    clear hl hb
    go_upto_region 14 with (refine wpList_store_sub rfl 39 _ _ rfl V12.heap.size 0 rfl 39 (rpC Fr.R.zero none 0) (rpC Fr.R.zero A12 cap12) rfl ?_ (Nat.le_refl 8) (sizeRpC _ _ _) (rpC_one _ _ _) ?_; exact heap_alloc_new V12 _)
    have hbb := (HV.out.2.trans ((laidB V12 (.cells (rpC Fr.R.zero none 0) 39) (rpC Fr.R.zero A12 cap12).toList).mono HV.out.2.size))
    refine forget (fun W => Below w.heap.size w W ∧ HasF W g f A cap ∧ HasP W (g + 1) r B cb ∧ HasP W g11 r A11 cap11 ∧ HasP W V12.heap.size Fr.R.zero A12 cap12) (And.intro (bnext HM.out.1 hbb) (And.intro ((HM.out.2.1).below hbb) (And.intro ((HM.out.2.2.1).below hbb) (And.intro ((HM.out.2.2.2).below hbb) (HasP.laid HV.out.1))))) ?_
    clear HM HV hbb
    obtain ⟨g12, hg12⟩ : ∃ g, g = V12.heap.size := ⟨_, rfl⟩
    rw [← hg12]
    clear hg12 V12
    intro W hall
    have HM := Lib.hid hall
    clear hall
    refine forget (fun W => Below w.heap.size w W ∧ HasP W (g + 1) r B cb ∧ HasP W g11 r A11 cap11) (And.intro (HM.out.1) (And.intro (HM.out.2.2.1) (HM.out.2.2.2.1))) ?_
    clear HM
    intro W hall
    have HM := Lib.hid hall
    clear hall
    go_wp2_with fail
    refine (HR3.out _).mono ?_
    rintro e0 V13 ⟨A13, cap13, rfl, hl, hb⟩
    have HV := Lib.hid (And.intro hl hb)
    clear hl hb
    go_upto_region 15 with (refine wpList_store_sub rfl 39 _ _ rfl V13.heap.size 0 rfl 39 (rpC Fr.R.zero none 0) (rpC M3 A13 cap13) rfl ?_ (Nat.le_refl 8) (sizeRpC _ _ _) (rpC_one _ _ _) ?_; exact heap_alloc_new V13 _)
    have hbb := (HV.out.2.trans ((laidB V13 (.cells (rpC Fr.R.zero none 0) 39) (rpC M3 A13 cap13).toList).mono HV.out.2.size))
    refine forget (fun W => Below w.heap.size w W ∧ HasP W (g + 1) r B cb ∧ HasP W g11 r A11 cap11 ∧ HasP W V13.heap.size M3 A13 cap13) (And.intro (bnext HM.out.1 hbb) (And.intro ((HM.out.2.1).below hbb) (And.intro ((HM.out.2.2).below hbb) (HasP.laid HV.out.1)))) ?_
    clear HM HV hbb
    obtain ⟨g13, hg13⟩ : ∃ g, g = V13.heap.size := ⟨_, rfl⟩
    rw [← hg13]
    clear hg13 V13
    intro W hall
    have HM := Lib.hid hall
    clear hall
    refine forget (fun W => Below w.heap.size w W ∧ HasP W (g + 1) r B cb ∧ HasP W g11 r A11 cap11) (And.intro (HM.out.1) (And.intro (HM.out.2.1) (HM.out.2.2.1))) ?_
    clear HM
    intro W hall
    have HM := Lib.hid hall
    clear hall
    clear HR1 HR2 HR3
    go_wp2_with (first | (refine wpList_load_sub rfl 39 _ rfl (g + 1) 0 rfl 39 (rpC r B cb) (rpC r B cb) (0, 0) _ HM.out.2.1.row (subAll _) Try.underlying39 rfl (sizeRpC _ _ _) ?_) | (refine wpList_load_sub rfl 39 _ rfl g11 0 rfl 39 (rpC r A11 cap11) (rpC r A11 cap11) (0, 0) _ HM.out.2.2.row (subAll _) Try.underlying39 rfl (sizeRpC _ _ _) ?_))
    refine (HP.out _ _ _ _ _ HM.out.2.2.lies HM.out.2.1.lies).mono ?_
    rintro e w6 ⟨rfl, hb⟩
    have HM := Lib.hid (And.intro (bnext HM.out.1 hb) (And.intro ((HM.out.2.1).below hb) ((HM.out.2.2).below hb)))
    clear hb
    have c0 := (rpAt HM.out.2.1.row).c0
    by_cases h6 : r.kind = 6
    case pos =>
      have e6 : ((r.kind : Int) != 6) = false := by simp; omega
      clear h6
      go_wp2_with fail
      refine (HAw.out _).mono ?_
      rintro e w7 ⟨rfl, hb⟩
      have HM := Lib.hid (And.intro (bnext HM.out.1 hb) (And.intro ((HM.out.2.1).below hb) ((HM.out.2.2).below hb)))
      clear hb
      go_wp2_with fail
      go_ret
      exact ⟨rfl, HM.out.1⟩
    have e6 : ((r.kind : Int) != 6) = true := by simp; omega
    have e22 : decide ((22 : Int) < (u.size : Int)) = false := dec_f (m := 22) (by have := Hz22.out h6; omega)
    clear h6
    go_wp2_with fail
    refine (HAw.out _).mono ?_
    rintro e w7 ⟨rfl, hb⟩
    have HM := Lib.hid (And.intro (bnext HM.out.1 hb) (And.intro ((HM.out.2.1).below hb) ((HM.out.2.2).below hb)))
    clear hb
    go_wp2_with fail
    go_ret
    exact ⟨rfl, HM.out.1⟩
  have hsb : s.data.toList = Fr.enc f := by rw [Hsu.out.1]; exact Fr.write_yes hmf
  obtain ⟨y0, y1, y2, R1, R2, M2, R3⟩ := backF hsb (Fr.sh_small HF.out.1.fits HS.out hmf) hmf HOk.out k beh hl100
  rw [hbe2] at R3
  unfold GetsF at R1 R2 R3
  have HR1 := Lib.hid R1
  have HR2 := Lib.hid R2
  have HR3 := Lib.hid R3
  have ha : ∀ W : World, (Op.stringOp .add s beh).run Try.prog W = .ok (.string (s ++ beh)) W := fun W => run_string_add_sum W _ _ (by omega)
  have i1 : (0 : Int) ≤ (k : Int) % (s.size : Int) := by omega
  have i2 : (k : Int) % (s.size : Int) ≤ (s.size : Int) := by
    have := Int.emod_lt_of_pos (k : Int) (show (0 : Int) < (s.size : Int) by omega)
    omega
  have i3 : (0 : Int) < (s.size : Int) := by omega
  clear hsb R1 R2 R3 hmf
  go_wp2_with fail
  refine (HR1.out _).mono ?_
  rintro e0 V1 ⟨A1, cap1, rfl, hl, hb⟩
  have HV := Lib.hid (And.intro hl hb)
  clear hl hb
  go_upto_region 6 with (refine wpList_store_sub rfl 32 _ _ rfl V1.heap.size 0 rfl 32 (frC Fr.F.zero none 0) (frC f A1 cap1) rfl ?_ (Nat.le_refl 37) (sizeFrC _ _ _) (frC_one _ _ _) ?_; exact heap_alloc_new V1 _)
  have hbb := (HV.out.2.trans ((laidB V1 (.cells (frC Fr.F.zero none 0) 32) (frC f A1 cap1).toList).mono HV.out.2.size))
  refine forget (fun W => Below w.heap.size w W ∧ HasF W g f A cap ∧ HasP W (g + 1) r B cb ∧ HasF W V1.heap.size f A1 cap1) (And.intro (bnext HM.out.1 hbb) (And.intro ((HM.out.2.1).below hbb) (And.intro ((HM.out.2.2).below hbb) (HasF.laid HV.out.1)))) ?_
  clear HM HV hbb
  obtain ⟨g1, hg1⟩ : ∃ g, g = V1.heap.size := ⟨_, rfl⟩
  rw [← hg1]
  clear hg1 V1
  intro W hall
  have HM := Lib.hid hall
  clear hall
  refine forget (fun W => Below w.heap.size w W ∧ HasF W g f A cap ∧ HasP W (g + 1) r B cb) (And.intro (HM.out.1) (And.intro (HM.out.2.1) (HM.out.2.2.1))) ?_
  clear HM
  intro W hall
  have HM := Lib.hid hall
  clear hall
  go_wp2_with fail
  refine (HR2.out _).mono ?_
  rintro e0 V2 ⟨A2, cap2, rfl, hl, hb⟩
  have HV := Lib.hid (And.intro hl hb)
  clear hl hb
  go_upto_region 7 with (refine wpList_store_sub rfl 32 _ _ rfl V2.heap.size 0 rfl 32 (frC Fr.F.zero none 0) (frC Fr.F.zero A2 cap2) rfl ?_ (Nat.le_refl 37) (sizeFrC _ _ _) (frC_one _ _ _) ?_; exact heap_alloc_new V2 _)
  have hbb := (HV.out.2.trans ((laidB V2 (.cells (frC Fr.F.zero none 0) 32) (frC Fr.F.zero A2 cap2).toList).mono HV.out.2.size))
  refine forget (fun W => Below w.heap.size w W ∧ HasF W g f A cap ∧ HasP W (g + 1) r B cb ∧ HasF W V2.heap.size Fr.F.zero A2 cap2) (And.intro (bnext HM.out.1 hbb) (And.intro ((HM.out.2.1).below hbb) (And.intro ((HM.out.2.2).below hbb) (HasF.laid HV.out.1)))) ?_
  clear HM HV hbb
  obtain ⟨g2, hg2⟩ : ∃ g, g = V2.heap.size := ⟨_, rfl⟩
  rw [← hg2]
  clear hg2 V2
  intro W hall
  have HM := Lib.hid hall
  clear hall
  refine forget (fun W => Below w.heap.size w W ∧ HasF W g f A cap ∧ HasP W (g + 1) r B cb) (And.intro (HM.out.1) (And.intro (HM.out.2.1) (HM.out.2.2.1))) ?_
  clear HM
  intro W hall
  have HM := Lib.hid hall
  clear hall
  go_wp2_with fail
  refine (HR3.out _).mono ?_
  rintro e0 V3 ⟨A3, cap3, rfl, hl, hb⟩
  have HV := Lib.hid (And.intro hl hb)
  clear hl hb
  go_upto_region 8 with (refine wpList_store_sub rfl 32 _ _ rfl V3.heap.size 0 rfl 32 (frC Fr.F.zero none 0) (frC M2 A3 cap3) rfl ?_ (Nat.le_refl 37) (sizeFrC _ _ _) (frC_one _ _ _) ?_; exact heap_alloc_new V3 _)
  have hbb := (HV.out.2.trans ((laidB V3 (.cells (frC Fr.F.zero none 0) 32) (frC M2 A3 cap3).toList).mono HV.out.2.size))
  refine forget (fun W => Below w.heap.size w W ∧ HasF W g f A cap ∧ HasP W (g + 1) r B cb ∧ HasF W V3.heap.size M2 A3 cap3) (And.intro (bnext HM.out.1 hbb) (And.intro ((HM.out.2.1).below hbb) (And.intro ((HM.out.2.2).below hbb) (HasF.laid HV.out.1)))) ?_
  clear HM HV hbb
  obtain ⟨g3, hg3⟩ : ∃ g, g = V3.heap.size := ⟨_, rfl⟩
  rw [← hg3]
  clear hg3 V3
  intro W hall
  have HM := Lib.hid hall
  clear hall
  refine forget (fun W => Below w.heap.size w W ∧ HasF W g f A cap ∧ HasP W (g + 1) r B cb) (And.intro (HM.out.1) (And.intro (HM.out.2.1) (HM.out.2.2.1))) ?_
  clear HM
  intro W hall
  have HM := Lib.hid hall
  clear hall
  clear HR1 HR2 HR3
  go_upto_region 10 with (fail)
  refine forget (fun W => Below w.heap.size w W ∧ HasF W g f A cap ∧ HasP W (g + 1) r B cb) (And.intro (HM.out.1) (And.intro (HM.out.2.1) (HM.out.2.2))) ?_
  clear HM
  intro W hall
  have HM := Lib.hid hall
  clear hall
  clear ha i1 i2 i3
  go_wp2_with (refine wpList_load_sub rfl 39 _ rfl (g + 1) 0 rfl 39 (rpC r B cb) (rpC r B cb) (0, 0) _ HM.out.2.2.row (subAll _) Try.underlying39 rfl (sizeRpC _ _ _) ?_)
  refine (HV.out _ HM.out.2.2.lies).mono ?_
  rintro e w4 ⟨rfl, hb⟩
  have HM := Lib.hid (And.intro (bnext HM.out.1 hb) (And.intro ((HM.out.2.1).below hb) ((HM.out.2.2).below hb)))
  clear hb
  clear HV
  cases hrt : Fr.right r
  case false =>
    have e1 : u = ⟨#[]⟩ := by rw [Hsu.out.2, (Fr.rwrite_nil r).2 hrt]
    subst e1
    clear hrt
    go_wp2_with fail
    refine (HAw.out _).mono ?_
    rintro e w5 ⟨rfl, hb⟩
    have HM := Lib.hid (And.intro (bnext HM.out.1 hb) (And.intro ((HM.out.2.1).below hb) ((HM.out.2.2).below hb)))
    clear hb
    go_wp2_with fail
    go_ret
    exact ⟨rfl, HM.out.1⟩
  have hub : u.data.toList = Fr.bytes r := by rw [Hsu.out.2]; show Fr.rwrite r = _; unfold Fr.rwrite; rw [if_pos hrt]
  obtain ⟨z0, z1, z2, R1, R2, M3, R3⟩ := backP hub (Fr.rsh_small HF.out.2.1.fit HF.out.2.1.rfits HSp.out) hrt HOkR.out k beh hl100
  have z22 : r.kind ≠ 6 → u.size ≤ 22 := fun h => by rw [Lib.size_eq, hub]; exact Fr.bytes_22 HF.out.2.1.fit h
  rw [hbe2] at R3
  unfold GetsP at R1 R2 R3
  have HR1 := Lib.hid R1
  have HR2 := Lib.hid R2
  have HR3 := Lib.hid R3
  have HP := Lib.hid (sameP r (by have := HOkR.out.len; omega))
  have Hz22 := Lib.hid z22
  have ha : ∀ W : World, (Op.stringOp .add u beh).run Try.prog W = .ok (.string (u ++ beh)) W := fun W => run_string_add_sum W _ _ (by omega)
  have i1 : (0 : Int) ≤ (k : Int) % (u.size : Int) := by omega
  have i2 : (k : Int) % (u.size : Int) ≤ (u.size : Int) := by
    have := Int.emod_lt_of_pos (k : Int) (show (0 : Int) < (u.size : Int) by omega)
    omega
  have i3 : (0 : Int) < (u.size : Int) := by omega
  clear hub R1 R2 R3 hrt z22
  go_wp2_with fail
  refine (HR1.out _).mono ?_
  rintro e0 V11 ⟨A11, cap11, rfl, hl, hb⟩
  have HV := Lib.hid (And.intro hl hb)
  clear hl hb
  go_upto_region 13 with (refine wpList_store_sub rfl 39 _ _ rfl V11.heap.size 0 rfl 39 (rpC Fr.R.zero none 0) (rpC r A11 cap11) rfl ?_ (Nat.le_refl 8) (sizeRpC _ _ _) (rpC_one _ _ _) ?_; exact heap_alloc_new V11 _)
  have hbb := (HV.out.2.trans ((laidB V11 (.cells (rpC Fr.R.zero none 0) 39) (rpC r A11 cap11).toList).mono HV.out.2.size))
  refine forget (fun W => Below w.heap.size w W ∧ HasF W g f A cap ∧ HasP W (g + 1) r B cb ∧ HasP W V11.heap.size r A11 cap11) (And.intro (bnext HM.out.1 hbb) (And.intro ((HM.out.2.1).below hbb) (And.intro ((HM.out.2.2).below hbb) (HasP.laid HV.out.1)))) ?_
  clear HM HV hbb
  obtain ⟨g11, hg11⟩ : ∃ g, g = V11.heap.size := ⟨_, rfl⟩
  rw [← hg11]
  clear hg11 V11
  intro W hall
  have HM := Lib.hid hall
  clear hall
  go_wp2_with fail
  refine (HR2.out _).mono ?_
  rintro e0 V12 ⟨A12, cap12, rfl, hl, hb⟩
  have HV := Lib.hid (And.intro hl hb)
  clear hl hb
  go_upto_region 14 with (refine wpList_store_sub rfl 39 _ _ rfl V12.heap.size 0 rfl 39 (rpC Fr.R.zero none 0) (rpC Fr.R.zero A12 cap12) rfl ?_ (Nat.le_refl 8) (sizeRpC _ _ _) (rpC_one _ _ _) ?_; exact heap_alloc_new V12 _)
  have hbb := (HV.out.2.trans ((laidB V12 (.cells (rpC Fr.R.zero none 0) 39) (rpC Fr.R.zero A12 cap12).toList).mono HV.out.2.size))
  refine forget (fun W => Below w.heap.size w W ∧ HasF W g f A cap ∧ HasP W (g + 1) r B cb ∧ HasP W g11 r A11 cap11 ∧ HasP W V12.heap.size Fr.R.zero A12 cap12) (And.intro (bnext HM.out.1 hbb) (And.intro ((HM.out.2.1).below hbb) (And.intro ((HM.out.2.2.1).below hbb) (And.intro ((HM.out.2.2.2).below hbb) (HasP.laid HV.out.1))))) ?_
  clear HM HV hbb
  obtain ⟨g12, hg12⟩ : ∃ g, g = V12.heap.size := ⟨_, rfl⟩
  rw [← hg12]
  clear hg12 V12
  intro W hall
  have HM := Lib.hid hall
  clear hall
  refine forget (fun W => Below w.heap.size w W ∧ HasP W (g + 1) r B cb ∧ HasP W g11 r A11 cap11) (And.intro (HM.out.1) (And.intro (HM.out.2.2.1) (HM.out.2.2.2.1))) ?_
  clear HM
  intro W hall
  have HM := Lib.hid hall
  clear hall
  go_wp2_with fail
  refine (HR3.out _).mono ?_
  rintro e0 V13 ⟨A13, cap13, rfl, hl, hb⟩
  have HV := Lib.hid (And.intro hl hb)
  clear hl hb
  go_upto_region 15 with (refine wpList_store_sub rfl 39 _ _ rfl V13.heap.size 0 rfl 39 (rpC Fr.R.zero none 0) (rpC M3 A13 cap13) rfl ?_ (Nat.le_refl 8) (sizeRpC _ _ _) (rpC_one _ _ _) ?_; exact heap_alloc_new V13 _)
  have hbb := (HV.out.2.trans ((laidB V13 (.cells (rpC Fr.R.zero none 0) 39) (rpC M3 A13 cap13).toList).mono HV.out.2.size))
  refine forget (fun W => Below w.heap.size w W ∧ HasP W (g + 1) r B cb ∧ HasP W g11 r A11 cap11 ∧ HasP W V13.heap.size M3 A13 cap13) (And.intro (bnext HM.out.1 hbb) (And.intro ((HM.out.2.1).below hbb) (And.intro ((HM.out.2.2).below hbb) (HasP.laid HV.out.1)))) ?_
  clear HM HV hbb
  obtain ⟨g13, hg13⟩ : ∃ g, g = V13.heap.size := ⟨_, rfl⟩
  rw [← hg13]
  clear hg13 V13
  intro W hall
  have HM := Lib.hid hall
  clear hall
  refine forget (fun W => Below w.heap.size w W ∧ HasP W (g + 1) r B cb ∧ HasP W g11 r A11 cap11) (And.intro (HM.out.1) (And.intro (HM.out.2.1) (HM.out.2.2.1))) ?_
  clear HM
  intro W hall
  have HM := Lib.hid hall
  clear hall
  clear HR1 HR2 HR3
  go_wp2_with (first | (refine wpList_load_sub rfl 39 _ rfl (g + 1) 0 rfl 39 (rpC r B cb) (rpC r B cb) (0, 0) _ HM.out.2.1.row (subAll _) Try.underlying39 rfl (sizeRpC _ _ _) ?_) | (refine wpList_load_sub rfl 39 _ rfl g11 0 rfl 39 (rpC r A11 cap11) (rpC r A11 cap11) (0, 0) _ HM.out.2.2.row (subAll _) Try.underlying39 rfl (sizeRpC _ _ _) ?_))
  refine (HP.out _ _ _ _ _ HM.out.2.2.lies HM.out.2.1.lies).mono ?_
  rintro e w6 ⟨rfl, hb⟩
  have HM := Lib.hid (And.intro (bnext HM.out.1 hb) (And.intro ((HM.out.2.1).below hb) ((HM.out.2.2).below hb)))
  clear hb
  have c0 := (rpAt HM.out.2.1.row).c0
  by_cases h6 : r.kind = 6
  case pos =>
    have e6 : ((r.kind : Int) != 6) = false := by simp; omega
    clear h6
    go_wp2_with fail
    refine (HAw.out _).mono ?_
    rintro e w7 ⟨rfl, hb⟩
    have HM := Lib.hid (And.intro (bnext HM.out.1 hb) (And.intro ((HM.out.2.1).below hb) ((HM.out.2.2).below hb)))
    clear hb
    go_wp2_with fail
    go_ret
    exact ⟨rfl, HM.out.1⟩
  have e6 : ((r.kind : Int) != 6) = true := by simp; omega
  have e22 : decide ((22 : Int) < (u.size : Int)) = false := dec_f (m := 22) (by have := Hz22.out h6; omega)
  clear h6
  go_wp2_with fail
  refine (HAw.out _).mono ?_
  rintro e w7 ⟨rfl, hb⟩
  have HM := Lib.hid (And.intro (bnext HM.out.1 hb) (And.intro ((HM.out.2.1).below hb) ((HM.out.2.2).below hb)))
  clear hb
  go_wp2_with fail
  go_ret
  exact ⟨rfl, HM.out.1⟩
theorem frameBack_walk (w : World) (f : Fr.F) (A : Option Addr) (cap : Nat) (gv : GivenF w f A cap) (r : Fr.R) (B : Option Addr) (cb : Nat) (gw : GivenP w r B cb) (cut : Int) (hcut : (Lit.int .u16 cut).wf = true) (beh : ByteArray) (hbe : beh.size ≤ maxLen) :
    Calls Try.prog 7 #[.agg (frC f A cap), .agg (rpC r B cb), .int .u16 cut, .string beh] w fun e w' => e = .returned (.bool true) ∧ Below w.heap.size w w' := by
  obtain ⟨k, rfl, hk⟩ := u16_nat hcut
  exact frameBack_go w f A cap gv r B cb gw k hk beh hbe
end Go.Proofs.Ytlcgjlganmblpaa
