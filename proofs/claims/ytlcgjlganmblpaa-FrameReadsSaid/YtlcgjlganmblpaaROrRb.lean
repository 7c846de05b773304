/-
  wapentakeref03.ReadOper walked: an Op of its own. WRITTEN BY wip/tools/gen_orread.py.
  wapentakeref03.ReadOper walked: an Op of its own. WRITTEN BY wip/tools/gen_orread.py.
  wapentakeref03.ReadOper walked. WRITTEN BY wip/tools/gen_orread.py.
-/
import Derived.Test.YtlcgjlganmblpaaROrRd
set_option linter.unusedSimpArgs false
set_option linter.unusedVariables false
namespace Go.Proofs.Ytlcgjlganmblpaa
open Go.RowKit
set_option linter.unusedVariables false
set_option maxRecDepth 100000 in
set_option maxHeartbeats 8000000 in
theorem refReadOper_2 (s : ByteArray) (w : World) (hs : s.size ≤ 10000000) (HOp : Hid ((Cm.tB ⟨s.data.toList, true⟩).1 = 2)) :
    Calls Try.prog 47 #[.string s] w (RetOp (Wk.oin s.data.toList) w) := by
  rw [← Og.read_oin]
  obtain ⟨t0, ht0⟩ : ∃ t : Cm.Tk, t = ⟨s.data.toList, true⟩ := ⟨_, rfl⟩
  have hl0 : t0.l.length ≤ 10000000 := by rw [ht0, ← Lib.size_eq]; exact hs
  have T0 := taker_new 26 (operC Og.Oper.zero) w s
  rw [← ht0] at T0
  have hc := tkB_any _ _ _ T0 (by omega)
  have hlt := Cm.lt_B t0
  have hl1 := Cm.len_B t0
  generalize hB : Cm.tB t0 = r1 at hc hlt hl1
  obtain ⟨n, t1⟩ := r1
  simp only at hc hlt hl1
  have hw8 : (n : Int) % 256 = (n : Int) := by omega
  have HB := Lib.hid hB
  have Hc := Lib.hid hc
  have H : Hid (n = 2) := Lib.hid (by
    have := HOp.out
    rw [← ht0, hB] at this
    exact this)
  have Ht0 := Lib.hid ht0
  clear hc T0 hB ht0 HOp
  go_enter Try.func47, Try.ntmps47
  go_wp2_with fail
  refine Hc.out.mono ?_
  rintro e w1 ⟨rfl, hT1, ho1⟩
  have HS := Lib.hid (TSt.start 26 (operC Og.Oper.zero) (operC ⟨n, 0, Og.Tk.zero, 0, 0, 0, 0, 0, 0⟩) w w1 s t1 ho1 hT1)
  clear hT1 ho1 Hc
  go_upto_region 3 with (fail)
  refine forget (fun W => TSt 26 (operC Og.Oper.zero) w W w1.heap.size t1 (operC ⟨n, 0, Og.Tk.zero, 0, 0, 0, 0, 0, 0⟩)) HS.out ?_
  clear hw8 HS
  obtain ⟨g, hg⟩ : ∃ g, g = w1.heap.size := ⟨_, rfl⟩
  rw [← hg]
  clear hg
  clear w1
  intro W0 S
  have HS := Lib.hid S
  have k0 : W0.cell? ⟨g, 0, none⟩ = some (.int .u8 (n : Int)) := cell_of_row W0 g 0 _ _ _ S.c
  clear S
  go_upto_block 0 with (fail)
  clear k0
  go_cut [] (fun W => ∃ (t : Cm.Tk) (c : Og.Oper), TSt 26 (operC Og.Oper.zero) w W g t (operC c) ∧ t.l.length ≤ 10000000 ∧ Cm.G t1 (Og.body n t1.l) c t)
  case first =>
    have hh := H.out
    have e1 : ((n : Int) == 1) = false := by rw [beq_eq_false_iff_ne]; omega
    have e2 : ((n : Int) == 2) = true := by rw [beq_iff_eq]; omega
    have e3 : ((n : Int) == 3) = false := by rw [beq_eq_false_iff_ne]; omega
    have e4 : ((n : Int) == 4) = false := by rw [beq_eq_false_iff_ne]; omega
    clear hh
    go_wp2_with fail
    have hc := tkB_any _ _ _ HS.out.t (by omega)
    have hl2 := Cm.len_B t1
    have hv2 := Cm.lt_B t1
    generalize hV2 : Cm.tB t1 = r at hc hl2 hv2
    obtain ⟨v2, t2⟩ := r
    simp only at hc hl2 hv2
    have HV2 := Lib.hid hV2
    clear hV2
    have hw2 : (v2 : Int) % 256 = (v2 : Int) := by omega
    have Hc := Lib.hid hc
    clear hc
    refine Hc.out.mono ?_
    rintro e W2 ⟨rfl, hT, ho⟩
    have S1 := HS.out.call ho hT
    clear hT ho HS Hc
    have kc : W2.cell? ⟨g, 1, none⟩ = some (.int .u8 0) := cell_of_row W2 g 1 _ _ _ S1.c
    have zc := frozen_of_row W2 g 1 _ _ S1.c
    have HS : Hid (TSt 26 (operC Og.Oper.zero) w _ g t2 (operC ⟨n, v2, Og.Tk.zero, 0, 0, 0, 0, 0, 0⟩)) := Lib.hid (S1.put 1 (.int .u8 (v2 : Int)))
    clear S1
    go_upto_region 13 with (fail)
    refine forget (fun W => TSt 26 (operC Og.Oper.zero) w W g t2 (operC ⟨n, v2, Og.Tk.zero, 0, 0, 0, 0, 0, 0⟩)) HS.out ?_
    clear kc zc HS
    intro W2' S
    have HS := Lib.hid S
    clear S
    go_wp2_with fail
    have hc := tkK_any _ _ _ HS.out.t (by omega)
    have hl3 := Cm.len_K t2
    generalize hV3 : Cm.tK t2 = r at hc hl3
    obtain ⟨v3, t3⟩ := r
    simp only at hc hl3
    unfold RetT tk8 t8 at hc
    have HV3 := Lib.hid hV3
    clear hV3
    have Hc := Lib.hid hc
    clear hc
    refine Hc.out.mono ?_
    rintro e W3 ⟨rfl, hT, ho⟩
    have S1 := HS.out.call ho hT
    clear hT ho HS Hc
    have k0 : W3.cell? ⟨g, 2, none⟩ = some (.int .u8 0) := cell_of_row W3 g 2 _ _ _ S1.c
    have z0 := frozen_of_row W3 g 2 _ _ S1.c
    have k1 : W3.cell? ⟨g, 3, none⟩ = some (.int .u8 0) := cell_of_row W3 g 3 _ _ _ S1.c
    have z1 := frozen_of_row W3 g 3 _ _ S1.c
    have k2 : W3.cell? ⟨g, 4, none⟩ = some (.int .u8 0) := cell_of_row W3 g 4 _ _ _ S1.c
    have z2 := frozen_of_row W3 g 4 _ _ S1.c
    have k3 : W3.cell? ⟨g, 5, none⟩ = some (.int .u8 0) := cell_of_row W3 g 5 _ _ _ S1.c
    have z3 := frozen_of_row W3 g 5 _ _ S1.c
    have k4 : W3.cell? ⟨g, 6, none⟩ = some (.int .u8 0) := cell_of_row W3 g 6 _ _ _ S1.c
    have z4 := frozen_of_row W3 g 6 _ _ S1.c
    have k5 : W3.cell? ⟨g, 7, none⟩ = some (.int .u8 0) := cell_of_row W3 g 7 _ _ _ S1.c
    have z5 := frozen_of_row W3 g 7 _ _ S1.c
    have k6 : W3.cell? ⟨g, 8, none⟩ = some (.int .u8 0) := cell_of_row W3 g 8 _ _ _ S1.c
    have z6 := frozen_of_row W3 g 8 _ _ S1.c
    have k7 : W3.cell? ⟨g, 9, none⟩ = some (.int .u8 0) := cell_of_row W3 g 9 _ _ _ S1.c
    have z7 := frozen_of_row W3 g 9 _ _ S1.c
    have HS : Hid (TSt 26 (operC Og.Oper.zero) w _ g t3 (operC ⟨n, v2, v3, 0, 0, 0, 0, 0, 0⟩)) := Lib.hid ((((((((S1.put 2 (.int .u8 (v3.a0.toNat : Int))).put 3 (.int .u8 (v3.a1.toNat : Int))).put 4 (.int .u8 (v3.a2.toNat : Int))).put 5 (.int .u8 (v3.a3.toNat : Int))).put 6 (.int .u8 (v3.a4.toNat : Int))).put 7 (.int .u8 (v3.a5.toNat : Int))).put 8 (.int .u8 (v3.a6.toNat : Int))).put 9 (.int .u8 (v3.a7.toNat : Int)))
    clear S1
    go_upto_region 14 with (fail)
    refine forget (fun W => TSt 26 (operC Og.Oper.zero) w W g t3 (operC ⟨n, v2, v3, 0, 0, 0, 0, 0, 0⟩)) HS.out ?_
    clear k0 z0 k1 z1 k2 z2 k3 z3 k4 z4 k5 z5 k6 z6 k7 z7 HS
    intro W3' S
    have HS := Lib.hid S
    clear S
    go_wp2_with fail
    have hc := tkB_any _ _ _ HS.out.t (by omega)
    have hl4 := Cm.len_B t3
    have hv4 := Cm.lt_B t3
    generalize hV4 : Cm.tB t3 = r at hc hl4 hv4
    obtain ⟨v4, t4⟩ := r
    simp only at hc hl4 hv4
    have HV4 := Lib.hid hV4
    clear hV4
    have hw4 : (v4 : Int) % 256 = (v4 : Int) := by omega
    have Hc := Lib.hid hc
    clear hc
    refine Hc.out.mono ?_
    rintro e W4 ⟨rfl, hT, ho⟩
    have S1 := HS.out.call ho hT
    clear hT ho HS Hc
    have kc : W4.cell? ⟨g, 10, none⟩ = some (.int .u8 0) := cell_of_row W4 g 10 _ _ _ S1.c
    have zc := frozen_of_row W4 g 10 _ _ S1.c
    have HS : Hid (TSt 26 (operC Og.Oper.zero) w _ g t4 (operC ⟨n, v2, v3, v4, 0, 0, 0, 0, 0⟩)) := Lib.hid (S1.put 10 (.int .u8 (v4 : Int)))
    clear S1
    go_wp2_with fail
    go_meet
    exact ⟨t4, ⟨n, v2, v3, v4, 0, 0, 0, 0, 0⟩, HS.out, by omega, by rw [Og.body2 H.out]; exact (Cm.G.B HV2.out).bind ((Cm.G.K HV3.out).bind ((Cm.G.B HV4.out).bind (Cm.G.pure _ _)))⟩
  case rest =>
    obtain ⟨t, c, S, hlt4, hG⟩ := hcut
    have hG2 : Cm.G ⟨s.data.toList, true⟩ (Og.parse s.data.toList) c t := by
      have := Og.gparse HB.out hG
      rw [Ht0.out] at this
      exact this
    have hrd := Og.gread hG2
    rename_i hK
    refine hK _ _ ?_
    exact orrest s w _ g c t hrd S
end Go.Proofs.Ytlcgjlganmblpaa
namespace Go.Proofs.Ytlcgjlganmblpaa
open Go.RowKit
set_option linter.unusedVariables false
set_option maxRecDepth 100000 in
set_option maxHeartbeats 8000000 in
theorem refReadOper_3 (s : ByteArray) (w : World) (hs : s.size ≤ 10000000) (HOp : Hid ((Cm.tB ⟨s.data.toList, true⟩).1 = 3)) :
    Calls Try.prog 47 #[.string s] w (RetOp (Wk.oin s.data.toList) w) := by
  rw [← Og.read_oin]
  obtain ⟨t0, ht0⟩ : ∃ t : Cm.Tk, t = ⟨s.data.toList, true⟩ := ⟨_, rfl⟩
  have hl0 : t0.l.length ≤ 10000000 := by rw [ht0, ← Lib.size_eq]; exact hs
  have T0 := taker_new 26 (operC Og.Oper.zero) w s
  rw [← ht0] at T0
  have hc := tkB_any _ _ _ T0 (by omega)
  have hlt := Cm.lt_B t0
  have hl1 := Cm.len_B t0
  generalize hB : Cm.tB t0 = r1 at hc hlt hl1
  obtain ⟨n, t1⟩ := r1
  simp only at hc hlt hl1
  have hw8 : (n : Int) % 256 = (n : Int) := by omega
  have HB := Lib.hid hB
  have Hc := Lib.hid hc
  have H : Hid (n = 3) := Lib.hid (by
    have := HOp.out
    rw [← ht0, hB] at this
    exact this)
  have Ht0 := Lib.hid ht0
  clear hc T0 hB ht0 HOp
  go_enter Try.func47, Try.ntmps47
  go_wp2_with fail
  refine Hc.out.mono ?_
  rintro e w1 ⟨rfl, hT1, ho1⟩
  have HS := Lib.hid (TSt.start 26 (operC Og.Oper.zero) (operC ⟨n, 0, Og.Tk.zero, 0, 0, 0, 0, 0, 0⟩) w w1 s t1 ho1 hT1)
  clear hT1 ho1 Hc
  go_upto_region 3 with (fail)
  refine forget (fun W => TSt 26 (operC Og.Oper.zero) w W w1.heap.size t1 (operC ⟨n, 0, Og.Tk.zero, 0, 0, 0, 0, 0, 0⟩)) HS.out ?_
  clear hw8 HS
  obtain ⟨g, hg⟩ : ∃ g, g = w1.heap.size := ⟨_, rfl⟩
  rw [← hg]
  clear hg
  clear w1
  intro W0 S
  have HS := Lib.hid S
  have k0 : W0.cell? ⟨g, 0, none⟩ = some (.int .u8 (n : Int)) := cell_of_row W0 g 0 _ _ _ S.c
  clear S
  go_upto_block 0 with (fail)
  clear k0
  go_cut [] (fun W => ∃ (t : Cm.Tk) (c : Og.Oper), TSt 26 (operC Og.Oper.zero) w W g t (operC c) ∧ t.l.length ≤ 10000000 ∧ Cm.G t1 (Og.body n t1.l) c t)
  case first =>
    have hh := H.out
    have e1 : ((n : Int) == 1) = false := by rw [beq_eq_false_iff_ne]; omega
    have e2 : ((n : Int) == 2) = false := by rw [beq_eq_false_iff_ne]; omega
    have e3 : ((n : Int) == 3) = true := by rw [beq_iff_eq]; omega
    have e4 : ((n : Int) == 4) = false := by rw [beq_eq_false_iff_ne]; omega
    clear hh
    go_wp2_with fail
    have hc := tkK_any _ _ _ HS.out.t (by omega)
    have hl2 := Cm.len_K t1
    generalize hV2 : Cm.tK t1 = r at hc hl2
    obtain ⟨v2, t2⟩ := r
    simp only at hc hl2
    unfold RetT tk8 t8 at hc
    have HV2 := Lib.hid hV2
    clear hV2
    have Hc := Lib.hid hc
    clear hc
    refine Hc.out.mono ?_
    rintro e W2 ⟨rfl, hT, ho⟩
    have S1 := HS.out.call ho hT
    clear hT ho HS Hc
    have k0 : W2.cell? ⟨g, 2, none⟩ = some (.int .u8 0) := cell_of_row W2 g 2 _ _ _ S1.c
    have z0 := frozen_of_row W2 g 2 _ _ S1.c
    have k1 : W2.cell? ⟨g, 3, none⟩ = some (.int .u8 0) := cell_of_row W2 g 3 _ _ _ S1.c
    have z1 := frozen_of_row W2 g 3 _ _ S1.c
    have k2 : W2.cell? ⟨g, 4, none⟩ = some (.int .u8 0) := cell_of_row W2 g 4 _ _ _ S1.c
    have z2 := frozen_of_row W2 g 4 _ _ S1.c
    have k3 : W2.cell? ⟨g, 5, none⟩ = some (.int .u8 0) := cell_of_row W2 g 5 _ _ _ S1.c
    have z3 := frozen_of_row W2 g 5 _ _ S1.c
    have k4 : W2.cell? ⟨g, 6, none⟩ = some (.int .u8 0) := cell_of_row W2 g 6 _ _ _ S1.c
    have z4 := frozen_of_row W2 g 6 _ _ S1.c
    have k5 : W2.cell? ⟨g, 7, none⟩ = some (.int .u8 0) := cell_of_row W2 g 7 _ _ _ S1.c
    have z5 := frozen_of_row W2 g 7 _ _ S1.c
    have k6 : W2.cell? ⟨g, 8, none⟩ = some (.int .u8 0) := cell_of_row W2 g 8 _ _ _ S1.c
    have z6 := frozen_of_row W2 g 8 _ _ S1.c
    have k7 : W2.cell? ⟨g, 9, none⟩ = some (.int .u8 0) := cell_of_row W2 g 9 _ _ _ S1.c
    have z7 := frozen_of_row W2 g 9 _ _ S1.c
    have HS : Hid (TSt 26 (operC Og.Oper.zero) w _ g t2 (operC ⟨n, 0, v2, 0, 0, 0, 0, 0, 0⟩)) := Lib.hid ((((((((S1.put 2 (.int .u8 (v2.a0.toNat : Int))).put 3 (.int .u8 (v2.a1.toNat : Int))).put 4 (.int .u8 (v2.a2.toNat : Int))).put 5 (.int .u8 (v2.a3.toNat : Int))).put 6 (.int .u8 (v2.a4.toNat : Int))).put 7 (.int .u8 (v2.a5.toNat : Int))).put 8 (.int .u8 (v2.a6.toNat : Int))).put 9 (.int .u8 (v2.a7.toNat : Int)))
    clear S1
    go_wp2_with fail
    go_meet
    exact ⟨t2, ⟨n, 0, v2, 0, 0, 0, 0, 0, 0⟩, HS.out, by omega, by rw [Og.body3 H.out]; exact (Cm.G.K HV2.out).bind (Cm.G.pure _ _)⟩
  case rest =>
    obtain ⟨t, c, S, hlt4, hG⟩ := hcut
    have hG2 : Cm.G ⟨s.data.toList, true⟩ (Og.parse s.data.toList) c t := by
      have := Og.gparse HB.out hG
      rw [Ht0.out] at this
      exact this
    have hrd := Og.gread hG2
    rename_i hK
    refine hK _ _ ?_
    exact orrest s w _ g c t hrd S
end Go.Proofs.Ytlcgjlganmblpaa
namespace Go.Proofs.Ytlcgjlganmblpaa
open Go.RowKit
theorem refReadOper_any (s : ByteArray) (w : World) (hs : s.size ≤ 10000000) :
    Calls Try.prog 47 #[.string s] w (RetOp (Wk.oin s.data.toList) w) := by
  by_cases h1 : (Cm.tB ⟨s.data.toList, true⟩).1 = 1
  · exact refReadOper_1 s w hs (Lib.hid h1)
  by_cases h2 : (Cm.tB ⟨s.data.toList, true⟩).1 = 2
  · exact refReadOper_2 s w hs (Lib.hid h2)
  by_cases h3 : (Cm.tB ⟨s.data.toList, true⟩).1 = 3
  · exact refReadOper_3 s w hs (Lib.hid h3)
  by_cases h4 : (Cm.tB ⟨s.data.toList, true⟩).1 = 4
  · exact refReadOper_4 s w hs (Lib.hid h4)
  exact refReadOper_5 s w hs (Lib.hid ⟨h1, h2, h3, h4⟩)
end Go.Proofs.Ytlcgjlganmblpaa
