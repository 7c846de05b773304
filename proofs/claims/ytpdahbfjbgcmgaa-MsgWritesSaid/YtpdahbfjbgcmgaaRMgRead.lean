/-
  msg.Read walked. WRITTEN BY wip/tools/gen_mgread.py.
-/
import Derived.Test.YtpdahbfjbgcmgaaRMgRd
import Derived.Test.YtpdahbfjbgcmgaaRMgRightA
import Derived.Deep.DeepCutAuto
import Derived.Deep.CutBlock
set_option linter.unusedSimpArgs false
set_option linter.unusedVariables false
namespace Go.Proofs.Ytpdahbfjbgcmgaa
open Go.RowKit
set_option maxRecDepth 100000 in
set_option maxHeartbeats 8000000 in
theorem mRead_any (s : ByteArray) (w : World) (hs : s.size ≤ 100000000) : Calls Try.prog 39 #[.string s] w (RetMs (Mg.read s.data.toList) w) := by
  have HOc := Lib.hid rrOctet_any
  have HGr := Lib.hid rrGroups_any
  have HTr := Lib.hid rrTruth_any
  have HEn := Lib.hid rrEntries_any
  have HTx := Lib.hid rrText_any
  have HEd := Lib.hid rrEnded_any
  have HRi := Lib.hid mRight_any
  unfold RetG u8v at HOc
  unfold RetG u64v at HGr
  unfold RetG boolv at HTr
  unfold RetEs at HEn
  unfold RetG at HTx
  unfold RetTr msgC at HRi
  have HS : Hid (∀ W : World, RrAt (W.alloc (.cells #[.string s, .bool false] 120)) W.heap.size (some s.data.toList)) := Lib.hid (fun W => ⟨heap_alloc_new W _, by show s.data.toList.length ≤ _; rw [← Lib.size_eq]; exact hs⟩)
  clear hs
  go_enter Try.func39, Try.ntmps39
  go_upto_region 3 with (fail)
  refine forget (fun W => RS w W (w.heap.size + 1) w.heap.size (w.heap.size + 1 + 1) (some s.data.toList) (msgC Mg.zero none 0)) ?_ ?_
  · refine ⟨bnew (bnew (bnew (Below.refl _ _) _) _) _, by omega, by omega, by omega, by omega, by omega, by omega, ?_, ?_, ?_⟩
    · have := (HS.out (w.alloc (.cells (msgC Mg.zero none 0) 63))).alloc (.cells (msgC Mg.zero none 0) 63)
      rw [World.size_alloc] at this
      exact this
    · exact (Below.heap_alloc _ _ _ (by simp; omega)).trans ((Below.heap_alloc _ _ _ (by simp)).trans (heap_alloc_new w _))
    · have := heap_alloc_new ((w.alloc (.cells (msgC Mg.zero none 0) 63)).alloc (.cells #[.string s, .bool false] 120)) (.cells (msgC Mg.zero none 0) 63)
      rw [World.size_alloc, World.size_alloc] at this
      exact this
  obtain ⟨g, hg⟩ : ∃ g, g = w.heap.size + 1 := ⟨_, rfl⟩
  obtain ⟨q2, hq2⟩ : ∃ q, q = w.heap.size := ⟨_, rfl⟩
  obtain ⟨qm, hqm⟩ : ∃ q, q = w.heap.size + 1 + 1 := ⟨_, rfl⟩
  intro W0 H0
  rw [← hqm, ← hg, ← hq2] at H0 ⊢
  clear hqm hg hq2
  have HH0 := Lib.hid H0
  clear H0
  go_wp2_with fail
  refine (HOc.out W0 g (some s.data.toList) HH0.out.rd).mono ?_
  rintro r W1 ⟨⟨v1, s1, rfl, hR, hG, hK⟩, b1, hb1, hbe1⟩
  obtain rfl : v1 = b1 := by
    injection hbe1 with h1
    injection h1 with _ h2
    omega
  have HG1 := Lib.hid hG
  have HH1 := Lib.hid (HH0.out.kp hK hR)
  clear hR hG hK
  go_wp2_with fail
  refine (HOc.out W1 g s1 HH1.out.rd).mono ?_
  rintro r W2 ⟨⟨v2, s2, rfl, hR, hG, hK⟩, b2, hb2, hbe2⟩
  obtain rfl : v2 = b2 := by
    injection hbe2 with h1
    injection h1 with _ h2
    omega
  have HG2 := Lib.hid hG
  have HH2 := Lib.hid (HH1.out.kp hK hR)
  clear hR hG hK
  go_wp2_with fail
  refine (HOc.out W2 g s2 HH2.out.rd).mono ?_
  rintro r W3 ⟨⟨v3, s3, rfl, hR, hG, hK⟩, b3, hb3, hbe3⟩
  obtain rfl : v3 = b3 := by
    injection hbe3 with h1
    injection h1 with _ h2
    omega
  have HG3 := Lib.hid hG
  have HH3 := Lib.hid (HH2.out.kp hK hR)
  clear hR hG hK
  have hrow := HH3.out.r
  have k1 := (msgAt hrow).c0
  have z1 := (msgAt hrow).fz 0
  have k2 := (msgAt hrow).c1
  have z2 := (msgAt hrow).fz 1
  have k3 := (msgAt hrow).c2
  have z3 := (msgAt hrow).fz 2
  clear hrow
  go_upto_region 4 with (fail)
  refine forget (fun W => RS w W g q2 qm s3 (msgC ⟨v1, v2, v3, 0, 0, 0, 0, 0, false, 0, 0, [], Cm.e0⟩ none 0)) ?_ ?_
  · exact (((HH3.out.put 0 (.int .u8 (v1 : Int))).put 1 (.int .u8 (v2 : Int))).put 2 (.int .u8 (v3 : Int)))
  clear k1 z1 k2 z2 k3 z3 HH3
  clear W3
  intro W3 H3
  have HH3 := Lib.hid H3
  clear H3
  go_wp2_with fail
  refine (HGr.out W3 g s3 HH3.out.rd).mono ?_
  rintro r W4 ⟨v4, s4, rfl, hR, hG, hK⟩
  have HG4 := Lib.hid hG
  have HH4 := Lib.hid (HH3.out.kp hK hR)
  clear hR hG hK
  go_wp2_with fail
  refine (HGr.out W4 g s4 HH4.out.rd).mono ?_
  rintro r W5 ⟨v5, s5, rfl, hR, hG, hK⟩
  have HG5 := Lib.hid hG
  have HH5 := Lib.hid (HH4.out.kp hK hR)
  clear hR hG hK
  go_wp2_with fail
  refine (HGr.out W5 g s5 HH5.out.rd).mono ?_
  rintro r W6 ⟨v6, s6, rfl, hR, hG, hK⟩
  have HG6 := Lib.hid hG
  have HH6 := Lib.hid (HH5.out.kp hK hR)
  clear hR hG hK
  have hrow := HH6.out.r
  have k4 := (msgAt hrow).c3
  have z4 := (msgAt hrow).fz 3
  have k5 := (msgAt hrow).c4
  have z5 := (msgAt hrow).fz 4
  have k6 := (msgAt hrow).c5
  have z6 := (msgAt hrow).fz 5
  clear hrow
  go_upto_region 5 with (fail)
  refine forget (fun W => RS w W g q2 qm s6 (msgC ⟨v1, v2, v3, v4, v5, v6, 0, 0, false, 0, 0, [], Cm.e0⟩ none 0)) ?_ ?_
  · exact (((HH6.out.put 3 (.int .u64 (v4 : Int))).put 4 (.int .u64 (v5 : Int))).put 5 (.int .u64 (v6 : Int)))
  clear k4 z4 k5 z5 k6 z6 HH6
  clear W6
  intro W6 H6
  have HH6 := Lib.hid H6
  clear H6
  go_wp2_with fail
  refine (HGr.out W6 g s6 HH6.out.rd).mono ?_
  rintro r W7 ⟨v7, s7, rfl, hR, hG, hK⟩
  have HG7 := Lib.hid hG
  have HH7 := Lib.hid (HH6.out.kp hK hR)
  clear hR hG hK
  go_wp2_with fail
  refine (HGr.out W7 g s7 HH7.out.rd).mono ?_
  rintro r W8 ⟨v8, s8, rfl, hR, hG, hK⟩
  have HG8 := Lib.hid hG
  have HH8 := Lib.hid (HH7.out.kp hK hR)
  clear hR hG hK
  have hrow := HH8.out.r
  have k7 := (msgAt hrow).c6
  have z7 := (msgAt hrow).fz 6
  have k8 := (msgAt hrow).c7
  have z8 := (msgAt hrow).fz 7
  clear hrow
  go_upto_region 6 with (fail)
  refine forget (fun W => RS w W g q2 qm s8 (msgC ⟨v1, v2, v3, v4, v5, v6, v7, v8, false, 0, 0, [], Cm.e0⟩ none 0)) ?_ ?_
  · exact ((HH8.out.put 6 (.int .u64 (v7 : Int))).put 7 (.int .u64 (v8 : Int)))
  clear k7 z7 k8 z8 HH8
  clear W8
  intro W8 H8
  have HH8 := Lib.hid H8
  clear H8
  go_wp2_with fail
  refine (HTr.out W8 g s8 HH8.out.rd).mono ?_
  rintro r W9 ⟨v9, s9, rfl, hR, hG, hK⟩
  have HG9 := Lib.hid hG
  have HH9 := Lib.hid (HH8.out.kp hK hR)
  clear hR hG hK
  have hrow := HH9.out.r
  have k9 := (msgAt hrow).c8
  have z9 := (msgAt hrow).fz 8
  clear hrow
  go_upto_region 7 with (fail)
  refine forget (fun W => RS w W g q2 qm s9 (msgC ⟨v1, v2, v3, v4, v5, v6, v7, v8, v9, 0, 0, [], Cm.e0⟩ none 0)) ?_ ?_
  · exact (HH9.out.put 8 (.bool v9))
  clear k9 z9 HH9
  clear W9
  intro W9 H9
  have HH9 := Lib.hid H9
  clear H9
  go_wp2_with fail
  refine (HOc.out W9 g s9 HH9.out.rd).mono ?_
  rintro r W10 ⟨⟨v10, s10, rfl, hR, hG, hK⟩, b10, hb10, hbe10⟩
  obtain rfl : v10 = b10 := by
    injection hbe10 with h1
    injection h1 with _ h2
    omega
  have HG10 := Lib.hid hG
  have HH10 := Lib.hid (HH9.out.kp hK hR)
  clear hR hG hK
  go_wp2_with fail
  refine (HOc.out W10 g s10 HH10.out.rd).mono ?_
  rintro r W11 ⟨⟨v11, s11, rfl, hR, hG, hK⟩, b11, hb11, hbe11⟩
  obtain rfl : v11 = b11 := by
    injection hbe11 with h1
    injection h1 with _ h2
    omega
  have HG11 := Lib.hid hG
  have HH11 := Lib.hid (HH10.out.kp hK hR)
  clear hR hG hK
  have hrow := HH11.out.r
  have k10 := (msgAt hrow).c9
  have z10 := (msgAt hrow).fz 9
  have k11 := (msgAt hrow).c10
  have z11 := (msgAt hrow).fz 10
  clear hrow
  go_upto_region 8 with (fail)
  refine forget (fun W => RS w W g q2 qm s11 (msgC ⟨v1, v2, v3, v4, v5, v6, v7, v8, v9, v10, v11, [], Cm.e0⟩ none 0)) ?_ ?_
  · exact ((HH11.out.put 9 (.int .u8 (v10 : Int))).put 10 (.int .u8 (v11 : Int)))
  clear k10 z10 k11 z11 HH11
  clear W11
  intro W11 H11
  have HH11 := Lib.hid H11
  clear H11
  go_wp2_with fail
  refine (HEn.out W11 g s11 HH11.out.rd).mono ?_
  rintro r W12 ⟨v12, qe, s12, rfl, hle, hre, _, _, hR, hG, hK⟩
  have HG12 := Lib.hid hG
  have HH12 := Lib.hid (HH11.out.kp hK hR)
  have HQ : Hid (W12.heap[qe]? = some (.cells (ec v12).toArray 65 (0, 0)) ∧ qe ≠ g ∧ qe ≠ q2 ∧ qe ≠ qm) := Lib.hid ⟨hre, by have := HH11.out.rd.lt; omega, by have := HH11.out.lt2; omega, by have := HH11.out.ltm; omega⟩
  clear hle hre
  clear hR hG hK
  have hrow := HH12.out.r
  have k12 := (msgAt hrow).c11
  have z12 := (msgAt hrow).fz 11
  clear hrow
  go_upto_region 9 with (fail)
  refine forget (fun W => RS w W g q2 qm s12 (msgC ⟨v1, v2, v3, v4, v5, v6, v7, v8, v9, v10, v11, v12, Cm.e0⟩ (some ⟨qe, 0, none⟩) v12.length) ∧ W.heap[qe]? = some (.cells (ec v12).toArray 65 (0, 0))) ?_ ?_
  · exact ⟨(HH12.out.put 11 (.slice (some ⟨qe, 0, none⟩) v12.length v12.length)), (Below.heap_setCell _ _ _ _ (by simp; exact HQ.out.2.2.2)).trans HQ.out.1⟩
  clear k12 z12 HH12
  have HQn := Lib.hid HQ.out.2
  clear HQ
  clear W12
  rintro W12 ⟨H12, hqe⟩
  have HQ1 : Hid (W12.heap[qe]? = some (.cells (ec v12).toArray 65 (0, 0)) ∧ qe ≠ g ∧ qe ≠ q2 ∧ qe ≠ qm) := Lib.hid ⟨hqe, HQn.out⟩
  clear hqe
  have HH12 := Lib.hid H12
  clear H12
  go_wp2_with fail
  refine (HTx.out W12 g s12 HH12.out.rd).mono ?_
  rintro r W13 ⟨⟨v13, s13, rfl, hR, hG, hK⟩, _⟩
  have HG13 := Lib.hid hG
  have HH13 := Lib.hid (HH12.out.kp hK hR)
  have HQ2 : Hid (W13.heap[qe]? = some (.cells (ec v12).toArray 65 (0, 0)) ∧ qe ≠ qm) := Lib.hid ⟨hK.row HQ1.out.2.1 HQ1.out.1, HQ1.out.2.2.2⟩
  clear hR hG hK
  have hrow := HH13.out.r
  have k13 := (msgAt hrow).c12
  have z13 := (msgAt hrow).fz 12
  clear hrow
  go_upto_region 10 with (fail)
  refine forget (fun W => RS w W g q2 qm s13 (msgC ⟨v1, v2, v3, v4, v5, v6, v7, v8, v9, v10, v11, v12, v13⟩ (some ⟨qe, 0, none⟩) v12.length) ∧ W.heap[qe]? = some (.cells (ec v12).toArray 65 (0, 0))) ?_ ?_
  · exact ⟨(HH13.out.put 12 (.string v13)), (Below.heap_setCell _ _ _ _ (by simp; exact HQ2.out.2)).trans HQ2.out.1⟩
  clear k13 z13 HH13
  rintro W14 ⟨H14, hqe⟩
  have GP := Lib.hid (got_parse HG1.out HG2.out HG3.out HG4.out HG5.out HG6.out HG7.out HG8.out HG9.out HG10.out HG11.out HG12.out HG13.out)
  have HI := Lib.hid H14
  have HL := Lib.hid hqe
  have hzz := H14.z
  have hmm := H14.r
  obtain ⟨c0, c1, c2, c3, c4, c5, c6, c7, c8, c9, c10, c11, c12, _⟩ := msgAt hmm
  obtain ⟨p0, p1, p2, p3, p4, p5, p6, p7, p8, p9, p10, p11, p12, pz⟩ := msgAt hzz
  have z0 := pz 0
  have z1 := pz 1
  have z2 := pz 2
  have z3 := pz 3
  have z4 := pz 4
  have z5 := pz 5
  have z6 := pz 6
  have z7 := pz 7
  have z8 := pz 8
  have z9 := pz 9
  have z10 := pz 10
  have z11 := pz 11
  have z12 := pz 12
  clear H14 hqe hzz hmm pz HG1 HG2 HG3 HG4 HG5 HG6 HG7 HG8 HG9 HG10 HG11 HG12 HG13 HOc HGr HTr HEn HTx HQ1 HQ2
  go_wp2_with fail
  refine (HEd.out W14 g s13 HI.out.rd).mono ?_
  rintro r W15 ⟨rfl, rfl⟩
  rcases he : (!s13.isNone && (rst s13).isEmpty) with _ | _
  · have HN := Lib.hid (read_no GP.out (.inl he))
    clear he
    go_wp2_with fail
    refine bodyPost_ret (results_ct (P := Try.prog) (fn := Try.f39) rfl _ _ q2 63 (msgC Mg.zero none 0) (0, 0) _ rfl (msgPut (m := Mg.zero) (A := none) (cap := 0) HI.out.z) Try.underlying63 rfl sizeMsg) rfl ?_
    rw [HN.out]
    exact ⟨rfl, msgBelow (m := Mg.zero) (A := none) (cap := 0) HI.out.b HI.out.l2⟩
  · have He := Lib.hid he
    clear he
    go_wp2_with fail
    refine (HRi.out ⟨v1, v2, v3, v4, v5, v6, v7, v8, v9, v10, v11, v12, v13⟩ (some ⟨qe, 0, none⟩) v12.length W14 (lies_row HL.out)).mono ?_
    rintro r W16 ⟨rfl, hb16⟩
    have H16 := Lib.hid (HI.out.grow hb16)
    have HL16 : Hid (W16.heap[qe]? = some (.cells (ec v12).toArray 65 (0, 0))) := Lib.hid ((hb16.block _ (Array.getElem?_eq_some_iff.1 HL.out).1).trans HL.out)
    obtain ⟨d0, d1, d2, d3, d4, d5, d6, d7, d8, d9, d10, d11, d12, _⟩ := msgAt H16.out.r
    obtain ⟨r0, r1, r2, r3, r4, r5, r6, r7, r8, r9, r10, r11, r12, rz⟩ := msgAt H16.out.z
    have y0 := rz 0
    have y1 := rz 1
    have y2 := rz 2
    have y3 := rz 3
    have y4 := rz 4
    have y5 := rz 5
    have y6 := rz 6
    have y7 := rz 7
    have y8 := rz 8
    have y9 := rz 9
    have y10 := rz 10
    have y11 := rz 11
    have y12 := rz 12
    clear rz hb16 c0 c1 c2 c3 c4 c5 c6 c7 c8 c9 c10 c11 c12 p0 p1 p2 p3 p4 p5 p6 p7 p8 p9 p10 p11 p12 z0 z1 z2 z3 z4 z5 z6 z7 z8 z9 z10 z11 z12
    rcases hm : Mg.may ⟨v1, v2, v3, v4, v5, v6, v7, v8, v9, v10, v11, v12, v13⟩ with _ | _
    · have HN := Lib.hid (read_no GP.out (.inr hm))
      clear hm
      go_wp2_with fail
      refine bodyPost_ret (results_ct (P := Try.prog) (fn := Try.f39) rfl _ _ q2 63 (msgC Mg.zero none 0) (0, 0) _ rfl (msgPut (m := Mg.zero) (A := none) (cap := 0) H16.out.z) Try.underlying63 rfl sizeMsg) rfl ?_
      rw [HN.out]
      exact ⟨rfl, msgBelow (m := Mg.zero) (A := none) (cap := 0) H16.out.b H16.out.l2⟩
    · have HN := Lib.hid (read_yes GP.out He.out hm)
      clear hm
      go_wp2_with fail
      refine bodyPost_ret (results_ct (P := Try.prog) (fn := Try.f39) rfl _ _ q2 63 (msgC ⟨v1, v2, v3, v4, v5, v6, v7, v8, v9, v10, v11, v12, v13⟩ (some ⟨qe, 0, none⟩) v12.length) (0, 0) _ rfl (msgPut (m := ⟨v1, v2, v3, v4, v5, v6, v7, v8, v9, v10, v11, v12, v13⟩) (A := some ⟨qe, 0, none⟩) (cap := v12.length) H16.out.z) Try.underlying63 rfl sizeMsg) rfl ?_
      rw [HN.out]
      refine ⟨some ⟨qe, 0, none⟩, v12.length, rfl, lies_row ?_, msgBelow (m := ⟨v1, v2, v3, v4, v5, v6, v7, v8, v9, v10, v11, v12, v13⟩) (A := some ⟨qe, 0, none⟩) (cap := v12.length) H16.out.b H16.out.l2⟩
      exact (msgOther (m := ⟨v1, v2, v3, v4, v5, v6, v7, v8, v9, v10, v11, v12, v13⟩) (A := some ⟨qe, 0, none⟩) (cap := v12.length) HQn.out.2.1).trans HL16.out
end Go.Proofs.Ytpdahbfjbgcmgaa
