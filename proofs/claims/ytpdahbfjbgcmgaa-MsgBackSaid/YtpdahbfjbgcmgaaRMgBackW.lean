/-
  MsgBack walked. WRITTEN BY wip/tools/gen_mgback.py.
-/
import Derived.Test.YtpdahbfjbgcmgaaRMgBackH
import Derived.Test.YtpdahbfjbgcmgaaRMgOpen
import Derived.Deep.DeepCutAuto
import Derived.Deep.CutBlock
set_option linter.unusedSimpArgs false
set_option linter.unusedVariables false
namespace Go.Proofs.Ytpdahbfjbgcmgaa
open Go.RowKit
set_option maxRecDepth 100000 in
set_option maxHeartbeats 16000000 in
theorem msgBack_walk (w : World) (m : Mg.M) (A : Option Addr) (cap : Nat) (gv : GivenM w m A cap) (s : ByteArray) (hs : s.size ≤ maxLen) (cut : Int) (hcut : (Lit.int .u16 cut).wf = true) (beh : ByteArray) (hbe : beh.size ≤ maxLen) :
    Calls Try.prog 13 #[.agg (msgC m A cap), .string s, .int .u16 cut, .string beh] w fun r w' => r = .returned (.bool true) ∧ Below w.heap.size w w' := by
  have HG := Lib.hid (fun W (hb : Below w.heap.size w W) => great_any5 m A cap W (gv.lies.below hb) gv.body gv.len)
  have HAw := Lib.hid mAwake_any
  have F := msgF m A cap
  obtain ⟨X, hX⟩ : ∃ X, X = msgC m A cap := ⟨_, rfl⟩
  rw [← hX] at F ⊢
  obtain ⟨hx, _, x0, x1, x2, x3, x4, x5, x6, x7, x8, x9, x10, x11, x12⟩ := F
  have HX := Lib.hid hX
  unfold msgC at HG
  clear hX
  rcases hgr : Mg.great m with _ | _
  case true =>
    rw [hgr] at HG
    clear hgr hcut gv hs hbe
    go_enter Try.func13, Try.ntmps13
    go_wp2_with fail
    refine (HG.out _ (bnew (Below.refl _ _) _)).mono ?_
    rintro r w1 ⟨rfl, hb1⟩
    have HB1 := Lib.hid (bnext (bnew (Below.refl _ _) _) hb1)
    clear hb1
    go_wp2_with fail
    refine (HAw.out _).mono ?_
    rintro r w2 ⟨rfl, hb2⟩
    go_wp2_with fail
    go_ret
    exact ⟨rfl, bnext HB1.out hb2⟩
  rw [hgr] at HG
  by_cases hbl : 100 < beh.size
  case pos =>
    have d1 : decide ((100 : Int) < (beh.size : Int)) = true := lt_t hbl
    clear hgr hcut gv hs hbe hbl
    go_enter Try.func13, Try.ntmps13
    go_wp2_with fail
    refine (HG.out _ (bnew (Below.refl _ _) _)).mono ?_
    rintro r w1 ⟨rfl, hb1⟩
    have HB1 := Lib.hid (bnext (bnew (Below.refl _ _) _) hb1)
    clear hb1
    go_wp2_with fail
    refine (HAw.out _).mono ?_
    rintro r w2 ⟨rfl, hb2⟩
    go_wp2_with fail
    go_ret
    exact ⟨rfl, bnext HB1.out hb2⟩
  have d1 : decide ((100 : Int) < (beh.size : Int)) = false := lt_f hbl
  have hbl : beh.size ≤ 100 := by omega
  have hk : 0 ≤ cut ∧ cut < 65536 := by
    have := bounds_u16 hcut
    omega
  obtain ⟨k, rfl⟩ : ∃ k : Nat, cut = (k : Int) := ⟨cut.toNat, by omega⟩
  have hk' : k < 65536 := by omega
  have OK : OkM m := ⟨gv.fits, Mg.small_of hgr⟩
  have HOK := Lib.hid OK
  have HW : Hid (∀ W, Below w.heap.size w W → Calls Try.prog 37 #[.agg (msgC m A cap)] W fun r w' => r = .returned (.string (wrB m)) ∧ Below W.heap.size W w') := Lib.hid (fun W hb => mWrite_any m OK.fits (by have := OK.body; omega) (by have := OK.big; omega) (by have := OK.small.len; omega) A cap W (gv.lies.below hb))
  have HRi : Hid (∀ W, Below w.heap.size w W → Calls Try.prog 38 #[.agg (msgC m A cap)] W fun r w' => r = .returned (.bool (Mg.may m)) ∧ Below W.heap.size W w') := Lib.hid (fun W hb => mRight_any m A cap W (gv.lies.below hb))
  have HSm : Hid (∀ (W : World) (B : Option Addr) (cb : Nat), Below w.heap.size w W → Lies W B (ec m.ents) → Calls Try.prog 40 #[.agg (msgC m B cb), .agg (msgC m A cap)] W fun r w' => r = .returned (.bool true) ∧ Below W.heap.size W w') := Lib.hid (fun W B cb hb hl => by
    have := same_any5 m m B A cb cap W hl (gv.lies.below hb) (by have := OK.small.len; omega) (by have := OK.small.len; omega)
    rw [decide_eq_true rfl] at this
    exact this)
  have HRd := Lib.hid mRead_out
  unfold msgC at HW HRi HSm
  have dE := wrB_empty m
  have hz := OK.size
  obtain ⟨t, ht⟩ : ∃ t, t = wrB m := ⟨_, rfl⟩
  obtain ⟨b, hb⟩ : ∃ b, b = Mg.may m := ⟨_, rfl⟩
  rw [← ht] at HW dE hz
  rw [← hb] at HRi dE
  have HT := Lib.hid (And.intro ht hb)
  have hbb : (b != b) = false := by cases b <;> rfl
  have hcond : decide ((7000 : Int) < (s.size : Int)) = true ∨ decide ((7000 : Int) < (s.size : Int)) = false := by cases decide ((7000 : Int) < (s.size : Int)) <;> simp
  have Hcond := Lib.hid hcond
  have Hs := Lib.hid hs
  clear gv OK hgr hcut hk hbe ht hb hcond hs
  go_enter Try.func13, Try.ntmps13
  go_wp2_with fail
  refine (HG.out _ (bnew (Below.refl _ _) _)).mono ?_
  rintro r w1 ⟨rfl, hb1⟩
  have HB1 := Lib.hid (And.intro (bnext (bnew (Below.refl _ _) _) hb1) ((hb1.block _ (by simp)).trans (heap_alloc_new w _)))
  clear hb1 HG x0 x1 x2 x3 x4 x5 x6 x7 x8 x9 x10 x11 x12
  go_upto_region 3 with (fail)
  refine forget (fun W => Below w.heap.size w W ∧ W.heap[w.heap.size]? = some (.cells (msgC m A cap) 63 (0, 0))) (by have h := HB1.out; rw [HX.out] at h; exact h) ?_
  clear HB1 w1
  rintro W1 ⟨hb1, hr1⟩
  obtain ⟨g, hg⟩ : ∃ g, g = w.heap.size := ⟨_, rfl⟩
  rw [← hg] at hr1 ⊢
  have HM1 := Lib.hid (And.intro hb1 hr1)
  clear hb1 hr1 hg
  go_upto_if 28 with (fail)
  go_cut [1] (fun v W => ∃ s' : ByteArray, v = .string s' ∧ s'.size ≤ 7000 ∧ W = W1)
  case first =>
    rcases Hcond.out with hc | hc
    · have hc7 : (7000 : Int) ≤ (s.size : Int) := by simp at hc; omega
      rw [hc]
      go_wp2_with fail
      go_meet
      case rel => exact ⟨s.extract 0 7000, rfl, by rw [ByteArray.size_extract]; omega, rfl⟩
    · have hc7 : s.size ≤ 7000 := by simp at hc; omega
      rw [hc]
      go_wp2_with fail
      go_meet
      case rel => exact ⟨s, rfl, hc7, rfl⟩
  case rest =>
    obtain ⟨s', rfl, hs7, rfl⟩ := hcut
    clear Hcond Hs
    have e0 := (msgAt HM1.out.2).c0
    have e1 := (msgAt HM1.out.2).c1
    have e2 := (msgAt HM1.out.2).c2
    have e3 := (msgAt HM1.out.2).c3
    have e4 := (msgAt HM1.out.2).c4
    have e5 := (msgAt HM1.out.2).c5
    have e6 := (msgAt HM1.out.2).c6
    have e7 := (msgAt HM1.out.2).c7
    have e8 := (msgAt HM1.out.2).c8
    have e9 := (msgAt HM1.out.2).c9
    have e10 := (msgAt HM1.out.2).c10
    have e11 := (msgAt HM1.out.2).c11
    have e12 := (msgAt HM1.out.2).c12
    go_wp2_with fail
    refine (HW.out _ HM1.out.1).mono ?_
    rintro r W2 ⟨rfl, hb2⟩
    have HM2 := Lib.hid (And.intro (bnext HM1.out.1 hb2) ((hb2.block _ (Array.getElem?_eq_some_iff.1 HM1.out.2).1).trans HM1.out.2))
    clear hb2
    clear e0 e1 e2 e3 e4 e5 e6 e7 e8 e9 e10 e11 e12
    have f0 := (msgAt HM2.out.2).c0
    have f1 := (msgAt HM2.out.2).c1
    have f2 := (msgAt HM2.out.2).c2
    have f3 := (msgAt HM2.out.2).c3
    have f4 := (msgAt HM2.out.2).c4
    have f5 := (msgAt HM2.out.2).c5
    have f6 := (msgAt HM2.out.2).c6
    have f7 := (msgAt HM2.out.2).c7
    have f8 := (msgAt HM2.out.2).c8
    have f9 := (msgAt HM2.out.2).c9
    have f10 := (msgAt HM2.out.2).c10
    have f11 := (msgAt HM2.out.2).c11
    have f12 := (msgAt HM2.out.2).c12
    go_wp2_with fail
    refine (HRi.out _ HM2.out.1).mono ?_
    rintro r W3 ⟨rfl, hb3⟩
    have HM3 := Lib.hid (And.intro (bnext HM2.out.1 hb3) ((hb3.block _ (Array.getElem?_eq_some_iff.1 HM2.out.2).1).trans HM2.out.2))
    clear hb3
    clear f0 f1 f2 f3 f4 f5 f6 f7 f8 f9 f10 f11 f12
    go_upto_if 39 with (fail)
    go_cut [] (fun W => Below w.heap.size w W)
    case first =>
      cases b
      · go_wp2_with fail
        go_meet
        case rel => exact HM3.out.1
      · skip
        have hm : Mg.may m = true := HT.out.2.symm
        have ht := HT.out.1
        have h0 : 0 < t.size := by
          rcases Nat.eq_zero_or_pos t.size with h | h
          · exfalso
            have e : t = ⟨#[]⟩ := ByteArray.ext (Array.eq_empty_of_size_eq_zero h)
            rw [isE, e] at dE
            simp at dE
          · exact h
        have R1 : Hid (∀ W, Calls Try.prog 39 #[.string t] W fun e w' => ∃ A1 cap1, e = .returned (.tuple #[.agg (msgC m A1 cap1), .bool true]) ∧ Lies w' A1 (ec m.ents) ∧ Below W.heap.size W w') := Lib.hid (fun W => by
          have h := HRd.out t W (by omega)
          rw [show Mg.read t.data.toList = some m by rw [ht]; exact HOK.out.back hm] at h
          exact h)
        have R2 : Hid (∀ W, Calls Try.prog 39 #[.string (t.extract 0 (k % t.size))] W fun e w' => ∃ A1 cap1, e = .returned (.tuple #[.agg (msgC Mg.zero A1 cap1), .bool false]) ∧ Below W.heap.size W w') := Lib.hid (fun W => by
          have h := HRd.out (t.extract 0 (k % t.size)) W (by rw [ByteArray.size_extract]; omega)
          have hr : Mg.read (t.extract 0 (k % t.size)).data.toList = none := by
            rw [ht]
            rw [ht] at h0
            exact HOK.out.less hm _ (Nat.mod_lt _ h0)
          rw [hr] at h
          refine h.mono ?_
          rintro e w' ⟨A1, c1, he, _, hb⟩
          exact ⟨A1, c1, he, hb⟩)
        have R3 : Hid (∀ W, Calls Try.prog 39 #[.string (t ++ beh)] W fun e w' => ∃ M A1 cap1, e = .returned (.tuple #[.agg (msgC M A1 cap1), .bool beh.toList.isEmpty]) ∧ Below W.heap.size W w') := Lib.hid (fun W => by
          have h := HRd.out (t ++ beh) W (by rw [ByteArray.size_append]; omega)
          have hr : (Mg.read (t ++ beh).data.toList).isSome = beh.toList.isEmpty := by rw [ht]; exact HOK.out.more hm beh
          rw [hr] at h
          refine h.mono ?_
          rintro e w' ⟨A1, c1, he, _, hb⟩
          exact ⟨_, A1, c1, he, hb⟩)
        have ha : ∀ W : World, (Op.stringOp .add t beh).run Try.prog W = .ok (.string (t ++ beh)) W := fun W => run_string_add_sum W _ _ (by omega)
        have i1 : (0 : Int) ≤ (k : Int) % (t.size : Int) := by omega
        have i2 : (k : Int) % (t.size : Int) ≤ (t.size : Int) := by
          have := Int.emod_lt_of_pos (k : Int) (show (0 : Int) < (t.size : Int) by omega)
          omega
        clear hm ht
        go_wp2_with fail
        refine (R1.out _).mono ?_
        rintro r W4 ⟨A1, cap1, rfl, hl4, hb4⟩
        have HM4 := Lib.hid (And.intro (bnext HM3.out.1 hb4) (And.intro ((hb4.block _ (Array.getElem?_eq_some_iff.1 HM3.out.2).1).trans HM3.out.2) hl4))
        have FP := msgF m A1 cap1
        obtain ⟨P, hP⟩ : ∃ P, P = msgC m A1 cap1 := ⟨_, rfl⟩
        rw [← hP] at FP ⊢
        have hst := storeMsg P FP.size FP.one
        have hps := FP.size
        have HP := Lib.hid hP
        clear hP FP hl4 hb4
        go_upto_region 10 with (fail)
        refine forget (fun W => Below w.heap.size w W ∧ W.heap[g]? = some (.cells (msgC m A cap) 63 (0, 0)) ∧ W.heap[W4.heap.size]? = some (.cells (msgC m A1 cap1) 63 (0, 0)) ∧ Lies W A1 (ec m.ents)) ⟨bnew HM4.out.1 _, (Below.heap_alloc _ _ _ (Array.getElem?_eq_some_iff.1 HM4.out.2.1).1).trans HM4.out.2.1, by rw [← HP.out]; exact heap_alloc_new W4 _, HM4.out.2.2.below (bnew (Below.refl _ _) _)⟩ ?_
        clear hst hps
        rintro W5 ⟨ha5, hb5, hc5, hd5⟩
        have HM5 := Lib.hid (And.intro ha5 (And.intro hb5 (And.intro hc5 hd5)))
        clear ha5 hb5 hc5 hd5
        go_wp2_with fail
        refine (R2.out _).mono ?_
        rintro r W6 ⟨A2, cap2, rfl, hb6⟩
        have HB6 := Lib.hid hb6
        have FP := msgF Mg.zero A2 cap2
        obtain ⟨P2, hP2⟩ : ∃ P, P = msgC Mg.zero A2 cap2 := ⟨_, rfl⟩
        rw [← hP2] at FP ⊢
        have hst := storeMsg P2 FP.size FP.one
        have hps := FP.size
        clear hP2 FP hb6
        go_upto_region 11 with (fail)
        refine forget (fun W => Below w.heap.size w W ∧ W.heap[g]? = some (.cells (msgC m A cap) 63 (0, 0)) ∧ W.heap[W4.heap.size]? = some (.cells (msgC m A1 cap1) 63 (0, 0)) ∧ Lies W A1 (ec m.ents)) (by
          have hbb := bnew HB6.out (.cells P2 63)
          obtain ⟨q1, q2, q3, q4⟩ := HM5.out
          exact ⟨bnext q1 hbb, (hbb.block _ (Array.getElem?_eq_some_iff.1 q2).1).trans q2, (hbb.block _ (Array.getElem?_eq_some_iff.1 q3).1).trans q3, q4.below hbb⟩) ?_
        clear hst hps HM5
        rintro W7 ⟨ha5, hb5, hc5, hd5⟩
        have HM7 := Lib.hid (And.intro ha5 (And.intro hb5 (And.intro hc5 hd5)))
        clear ha5 hb5 hc5 hd5
        go_wp2_with fail
        refine (R3.out _).mono ?_
        rintro r W8 ⟨M3, A3, cap3, rfl, hb8⟩
        have HB8 := Lib.hid hb8
        have FP := msgF M3 A3 cap3
        obtain ⟨P3, hP3⟩ : ∃ P, P = msgC M3 A3 cap3 := ⟨_, rfl⟩
        rw [← hP3] at FP ⊢
        have hst := storeMsg P3 FP.size FP.one
        have hps := FP.size
        clear hP3 FP hb8
        go_upto_region 12 with (fail)
        refine forget (fun W => Below w.heap.size w W ∧ W.heap[g]? = some (.cells (msgC m A cap) 63 (0, 0)) ∧ W.heap[W4.heap.size]? = some (.cells (msgC m A1 cap1) 63 (0, 0)) ∧ Lies W A1 (ec m.ents)) (by
          have hbb := bnew HB8.out (.cells P3 63)
          obtain ⟨q1, q2, q3, q4⟩ := HM7.out
          exact ⟨bnext q1 hbb, (hbb.block _ (Array.getElem?_eq_some_iff.1 q2).1).trans q2, (hbb.block _ (Array.getElem?_eq_some_iff.1 q3).1).trans q3, q4.below hbb⟩) ?_
        clear hst hps HM7
        rintro W9 ⟨ha5, hb5, hc5, hd5⟩
        have HM9 := Lib.hid (And.intro ha5 hd5)
        have e0 := (msgAt hb5).c0
        have e1 := (msgAt hb5).c1
        have e2 := (msgAt hb5).c2
        have e3 := (msgAt hb5).c3
        have e4 := (msgAt hb5).c4
        have e5 := (msgAt hb5).c5
        have e6 := (msgAt hb5).c6
        have e7 := (msgAt hb5).c7
        have e8 := (msgAt hb5).c8
        have e9 := (msgAt hb5).c9
        have e10 := (msgAt hb5).c10
        have e11 := (msgAt hb5).c11
        have e12 := (msgAt hb5).c12
        have f0 := (msgAt hc5).c0
        have f1 := (msgAt hc5).c1
        have f2 := (msgAt hc5).c2
        have f3 := (msgAt hc5).c3
        have f4 := (msgAt hc5).c4
        have f5 := (msgAt hc5).c5
        have f6 := (msgAt hc5).c6
        have f7 := (msgAt hc5).c7
        have f8 := (msgAt hc5).c8
        have f9 := (msgAt hc5).c9
        have f10 := (msgAt hc5).c10
        have f11 := (msgAt hc5).c11
        have f12 := (msgAt hc5).c12
        clear ha5 hb5 hc5 hd5
        obtain ⟨z, hz2⟩ : ∃ z, z = beh.toList.isEmpty := ⟨_, rfl⟩
        have hzz : (z != z) = false := by cases z <;> rfl
        have hz3 : beh.toList.isEmpty = z := hz2.symm
        clear hz2
        go_wp2_with fail
        refine (HSm.out _ A1 cap1 HM9.out.1 HM9.out.2).mono ?_
        rintro r W10 ⟨rfl, hb10⟩
        have HM10 := Lib.hid (bnext HM9.out.1 hb10)
        clear hb10
        clear e0 e1 e2 e3 e4 e5 e6 e7 e8 e9 e10 e11 e12
        clear f0 f1 f2 f3 f4 f5 f6 f7 f8 f9 f10 f11 f12
        go_wp2_with fail
        go_meet
        case rel => exact HM10.out
    case rest =>
      have Hc := Lib.hid hcut
      clear hcut HM1 HM2 HM3
      have hrd := HRd.out s' wc (by omega)
      have hok : ∀ f, Mg.read s'.data.toList = some f → Mg.Fits f ∧ Mg.may f = true ∧ Mg.write f = s'.data.toList ∧ f.body.size ≤ 7000 ∧ Mg.big f.ents ≤ 7000 ∧ f.ents.length ≤ 8 := fun f hf => read_ok hf (by rw [← Lib.size_eq]; exact hs7)
      rcases hr : Mg.read s'.data.toList with _ | f
      · skip
        rw [hr] at hrd
        have Hrd := Lib.hid hrd
        clear hrd hr hok HW HRi HSm HRd HT HOK dE hbb
        go_wp2_with fail
        refine Hrd.out.mono ?_
        rintro r W11 ⟨A4, cap4, rfl, hl11, hb11⟩
        have HM11 := Lib.hid (And.intro (bnext Hc.out hb11) hl11)
        have FP := msgF Mg.zero A4 cap4
        obtain ⟨P, hP⟩ : ∃ P, P = msgC Mg.zero A4 cap4 := ⟨_, rfl⟩
        replace hP : P = msgC Mg.zero A4 cap4 := hP
        rw [show msgC ((none : Option Mg.M).getD Mg.zero) A4 cap4 = P from hP.symm]
        rw [← hP] at FP
        have hst := storeMsg P FP.size FP.one
        have hps := FP.size
        have HP := Lib.hid hP
        clear hP FP hl11 hb11
        go_upto_region 15 with (fail)
        refine forget (fun W => Below w.heap.size w W ∧ W.heap[W11.heap.size]? = some (.cells (msgC Mg.zero A4 cap4) 63 (0, 0)) ∧ Lies W A4 (ec Mg.zero.ents)) ⟨bnew HM11.out.1 _, by rw [← HP.out]; exact heap_alloc_new W11 _, HM11.out.2.below (bnew (Below.refl _ _) _)⟩ ?_
        clear hst hps HM11
        rintro W12 ⟨hb12, hr12, hl12⟩
        have e0 := (msgAt hr12).c0
        have e1 := (msgAt hr12).c1
        have e2 := (msgAt hr12).c2
        have e3 := (msgAt hr12).c3
        have e4 := (msgAt hr12).c4
        have e5 := (msgAt hr12).c5
        have e6 := (msgAt hr12).c6
        have e7 := (msgAt hr12).c7
        have e8 := (msgAt hr12).c8
        have e9 := (msgAt hr12).c9
        have e10 := (msgAt hr12).c10
        have e11 := (msgAt hr12).c11
        have e12 := (msgAt hr12).c12
        have HB12 := Lib.hid hb12
        have hS : Calls Try.prog 40 #[.agg (msgC Mg.zero A4 cap4), .agg (msgC Mg.zero none 0)] W12 fun r w' => r = .returned (.bool true) ∧ Below W12.heap.size W12 w' := by
          have := same_any5 Mg.zero Mg.zero A4 none cap4 0 W12 hl12 (.inl rfl) (by decide) (by decide)
          rw [decide_eq_true rfl] at this
          exact this
        have HS := Lib.hid hS
        clear hb12 hr12 hl12 hS
        go_wp2_with fail
        refine HS.out.mono ?_
        rintro r W13 ⟨rfl, hb13⟩
        have HB13 := Lib.hid (bnext HB12.out hb13)
        clear hb13
        go_wp2_with fail
        refine (HAw.out _).mono ?_
        rintro r W14 ⟨rfl, hb14⟩
        go_wp2_with fail
        go_ret
        exact ⟨rfl, bnext HB13.out hb14⟩
      · obtain ⟨q1, q2, q3, q4, q5, q6⟩ := hok f hr
        rw [hr] at hrd
        have Hrd := Lib.hid hrd
        clear hrd hr hok HW HRi HSm HRd HT HOK dE hbb
        go_wp2_with fail
        refine Hrd.out.mono ?_
        rintro r W11 ⟨A4, cap4, rfl, hl11, hb11⟩
        have HM11 := Lib.hid (And.intro (bnext Hc.out hb11) hl11)
        have FP := msgF f A4 cap4
        obtain ⟨P, hP⟩ : ∃ P, P = msgC f A4 cap4 := ⟨_, rfl⟩
        replace hP : P = msgC f A4 cap4 := hP
        rw [show msgC ((some f : Option Mg.M).getD Mg.zero) A4 cap4 = P from hP.symm]
        rw [← hP] at FP
        have hst := storeMsg P FP.size FP.one
        have hps := FP.size
        have HP := Lib.hid hP
        clear hP FP hl11 hb11
        go_upto_region 15 with (fail)
        refine forget (fun W => Below w.heap.size w W ∧ W.heap[W11.heap.size]? = some (.cells (msgC f A4 cap4) 63 (0, 0)) ∧ Lies W A4 (ec f.ents)) ⟨bnew HM11.out.1 _, by rw [← HP.out]; exact heap_alloc_new W11 _, HM11.out.2.below (bnew (Below.refl _ _) _)⟩ ?_
        clear hst hps HM11
        rintro W12 ⟨hb12, hr12, hl12⟩
        have e0 := (msgAt hr12).c0
        have e1 := (msgAt hr12).c1
        have e2 := (msgAt hr12).c2
        have e3 := (msgAt hr12).c3
        have e4 := (msgAt hr12).c4
        have e5 := (msgAt hr12).c5
        have e6 := (msgAt hr12).c6
        have e7 := (msgAt hr12).c7
        have e8 := (msgAt hr12).c8
        have e9 := (msgAt hr12).c9
        have e10 := (msgAt hr12).c10
        have e11 := (msgAt hr12).c11
        have e12 := (msgAt hr12).c12
        have hR := mRight_any f A4 cap4 W12 hl12
        have hW : ∀ W, Below W12.heap.size W12 W → Calls Try.prog 37 #[.agg (msgC f A4 cap4)] W fun r w' => r = .returned (.string s') ∧ Below W.heap.size W w' := fun W hb => by
          have := mWrite_any f q1 (by omega) (by omega) (by omega) A4 cap4 W (hl12.below hb)
          unfold RetS at this
          rw [q3] at this
          exact this
        unfold RetTr at hR
        rw [q2] at hR
        have HR := Lib.hid hR
        have HW := Lib.hid hW
        have hRow : ∀ W, Below W12.heap.size W12 W → W.heap[W11.heap.size]? = some (.cells (msgC f A4 cap4) 63 (0, 0)) := fun W hb => (hb.block _ (Array.getElem?_eq_some_iff.1 hr12).1).trans hr12
        have HRow := Lib.hid hRow
        have HB12 := Lib.hid hb12
        have hss : (s'.toList == s'.toList) = true := by simp
        clear hb12 hr12 hl12 hR hW hRow q1 q2 q3 q4 q5 q6
        go_wp2_with fail
        refine HR.out.mono ?_
        rintro r W13 ⟨rfl, hb13⟩
        have f0 := (msgAt (HRow.out _ hb13)).c0
        have f1 := (msgAt (HRow.out _ hb13)).c1
        have f2 := (msgAt (HRow.out _ hb13)).c2
        have f3 := (msgAt (HRow.out _ hb13)).c3
        have f4 := (msgAt (HRow.out _ hb13)).c4
        have f5 := (msgAt (HRow.out _ hb13)).c5
        have f6 := (msgAt (HRow.out _ hb13)).c6
        have f7 := (msgAt (HRow.out _ hb13)).c7
        have f8 := (msgAt (HRow.out _ hb13)).c8
        have f9 := (msgAt (HRow.out _ hb13)).c9
        have f10 := (msgAt (HRow.out _ hb13)).c10
        have f11 := (msgAt (HRow.out _ hb13)).c11
        have f12 := (msgAt (HRow.out _ hb13)).c12
        have HB13 := Lib.hid hb13
        clear hb13
        clear e0 e1 e2 e3 e4 e5 e6 e7 e8 e9 e10 e11 e12
        go_wp2_with fail
        refine (HW.out _ HB13.out).mono ?_
        rintro r W14 ⟨rfl, hb14⟩
        have HB14 := Lib.hid (bnext HB12.out (bnext HB13.out hb14))
        clear hb14
        clear f0 f1 f2 f3 f4 f5 f6 f7 f8 f9 f10 f11 f12
        go_wp2_with fail
        refine (HAw.out _).mono ?_
        rintro r W15 ⟨rfl, hb15⟩
        go_wp2_with fail
        go_ret
        exact ⟨rfl, bnext HB14.out hb15⟩
end Go.Proofs.Ytpdahbfjbgcmgaa
