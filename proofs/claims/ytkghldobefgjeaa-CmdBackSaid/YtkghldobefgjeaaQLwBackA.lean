/-
  CmdBack's ways. WRITTEN BY wip/tools/gen_lwback.py.
-/
import Derived.Test.YtkghldobefgjeaaQLwBackH
set_option linter.unusedSimpArgs false
set_option linter.unusedVariables false
namespace Go.Proofs.Ytkghldobefgjeaa
open Go.RowKit
set_option linter.unusedVariables false
set_option maxRecDepth 100000 in
set_option maxHeartbeats 16000000 in
theorem cback_111 (c : Cm.Cmd) (A : Option Addr) (cap : Nat) (o : Og.Oper) (r : Rs.Res) (R : Option Addr) (rcap : Nat) (t1 t2 t3 beh : ByteArray) (cut : Nat) (hc : cut < 65536) (w : World) (hA : Lies w A (pc c.parts)) (hR : Lies w R (rc r.rows)) (HC : Hid (BkC c A cap o r R rcap t1 t2 t3)) (h4 : 4 ≤ t3.size) (hbh : beh.size ≤ 100) (hbe : beh.size = 0)
    (hp1 : 0 < t1.size) (hz1 : t1.size ≤ 100000000) (H1 : Hid (RdC c c true t1 (t1.extract 0 (cut % t1.size)) (t1 ++ beh)))
    (hp2 : 0 < t2.size) (hz2 : t2.size ≤ 100000000) (H2 : Hid (RdO o o true t2 (t2.extract 0 (cut % t2.size)) (t2 ++ beh)))
    (hp3 : 0 < t3.size) (hz3 : t3.size ≤ 100000000) (H3 : Hid (RdR r r true t3 (t3.extract 0 (cut % t3.size)) (t3 ++ beh))) :
    Calls Try.prog 8 #[.agg (cmdC c A cap), .agg (operC o), .agg (resC r R rcap), .int .u16 (cut : Int), .string beh] w fun e w' => e = .returned (.bool true) ∧ Below w.heap.size w w' := by
  have HAw := Lib.hid cmdAwake_any
  have HS0 := Lib.hid (CkS.new (cap := cap) (o := o) (rcap := rcap) hA hR)
  have d2 : decide ((100 : Int) < (beh.size : Int)) = false := by simp; omega
  have d5 : beh.toList.isEmpty = true := by
    rw [ByteArray.toList_eq]; rw [List.isEmpty_iff]; exact List.eq_nil_of_length_eq_zero (by rw [← Lib.size_eq]; exact hbe)
  have d6 : decide ((t3.size : Int) < 4) = false := by simp; omega
  have e1 : t1.toList.isEmpty = false := by
    rw [ByteArray.toList_eq, List.isEmpty_eq_false_iff]; intro h; rw [Lib.size_eq, h] at hp1; exact absurd hp1 (Nat.lt_irrefl 0)
  have i1 : (0 : Int) ≤ (cut : Int) % (t1.size : Int) := by omega
  have j1 : (cut : Int) % (t1.size : Int) ≤ (t1.size : Int) := by
    have := Int.emod_lt_of_pos (cut : Int) (show (0 : Int) < (t1.size : Int) by omega)
    omega
  have ha1 : ∀ W : World, (Op.stringOp .add t1 beh).run Try.prog W = .ok (.string (t1 ++ beh)) W := fun W => run_string_add_sum W _ _ (by omega)
  have e2 : t2.toList.isEmpty = false := by
    rw [ByteArray.toList_eq, List.isEmpty_eq_false_iff]; intro h; rw [Lib.size_eq, h] at hp2; exact absurd hp2 (Nat.lt_irrefl 0)
  have i2 : (0 : Int) ≤ (cut : Int) % (t2.size : Int) := by omega
  have j2 : (cut : Int) % (t2.size : Int) ≤ (t2.size : Int) := by
    have := Int.emod_lt_of_pos (cut : Int) (show (0 : Int) < (t2.size : Int) by omega)
    omega
  have ha2 : ∀ W : World, (Op.stringOp .add t2 beh).run Try.prog W = .ok (.string (t2 ++ beh)) W := fun W => run_string_add_sum W _ _ (by omega)
  have e3 : t3.toList.isEmpty = false := by
    rw [ByteArray.toList_eq, List.isEmpty_eq_false_iff]; intro h; rw [Lib.size_eq, h] at hp3; exact absurd hp3 (Nat.lt_irrefl 0)
  have i3 : (0 : Int) ≤ (cut : Int) % (t3.size : Int) := by omega
  have j3 : (cut : Int) % (t3.size : Int) ≤ (t3.size : Int) := by
    have := Int.emod_lt_of_pos (cut : Int) (show (0 : Int) < (t3.size : Int) by omega)
    omega
  have ha3 : ∀ W : World, (Op.stringOp .add t3 beh).run Try.prog W = .ok (.string (t3 ++ beh)) W := fun W => run_string_add_sum W _ _ (by omega)
  have hne := oper_neq o o
  rw [decide_eq_true rfl] at hne
  unfold operC at hne
  clear hA hR hbe h4 hbh
  obtain ⟨X0, hX0⟩ : ∃ X, X = cmdC c A cap := ⟨_, rfl⟩
  obtain ⟨Y0, hY0⟩ : ∃ X, X = operC o := ⟨_, rfl⟩
  obtain ⟨Z0, hZ0⟩ : ∃ X, X = resC r R rcap := ⟨_, rfl⟩
  rw [← hX0, ← hY0, ← hZ0] at HS0 ⊢
  clear hX0 hY0 hZ0
  go_enter Try.func8, Try.ntmps8
  go_upto_region 1 with (fail)
  refine forget (fun W => CkS w W c A cap o r R rcap) HS0.out ?_
  clear HS0
  intro W1 S
  have HS := Lib.hid S
  obtain ⟨q0, q1, q2, q3, q4, q5, q6, q7, q8, q9, q10, q11, _⟩ := cmdAt S.r0.row
  clear S
  go_wp2_with fail
  refine (HC.out.G _ HS.out.r0.lies).mono ?_
  rintro e w1 ⟨rfl, hb1⟩
  have S := HS.out.grow hb1
  clear hb1 HS q0 q1 q2 q3 q4 q5 q6 q7 q8 q9 q10 q11
  have r0 : w1.cell? ⟨w.heap.size + 1 + 1, 0, none⟩ = some (.int .u8 (r.code : Int)) := cell_of_row _ _ 0 _ _ _ S.r2
  have r1 : w1.cell? ⟨w.heap.size + 1 + 1, 1, none⟩ = some (.int .u64 (r.n : Int)) := cell_of_row _ _ 1 _ _ _ S.r2
  have r2 : w1.cell? ⟨w.heap.size + 1 + 1, 2, none⟩ = some (.string r.val) := cell_of_row _ _ 2 _ _ _ S.r2
  have r3 : w1.cell? ⟨w.heap.size + 1 + 1, 3, none⟩ = some (.slice R r.rows.length rcap) := cell_of_row _ _ 3 _ _ _ S.r2
  have HS := Lib.hid S
  clear S
  go_wp2_with fail
  refine (HC.out.GR _ HS.out.l2).mono ?_
  rintro e w2 ⟨rfl, hb2⟩
  have S := HS.out.grow hb2
  clear hb2 HS r0 r1 r2 r3
  obtain ⟨q0, q1, q2, q3, q4, q5, q6, q7, q8, q9, q10, q11, _⟩ := cmdAt S.r0.row
  have HS := Lib.hid S
  clear S
  go_wp2_with fail
  refine (HC.out.W _ HS.out.r0.lies).mono ?_
  rintro e w3 ⟨rfl, hb3⟩
  have HS3 := Lib.hid (HS.out.grow hb3)
  clear hb3 HS q0 q1 q2 q3 q4 q5 q6 q7 q8 q9 q10 q11
  go_wp2_with fail
  refine (H1.out.one _).mono ?_
  rintro e v1 ⟨A1, k1, rfl, hL1, hb1⟩
  have F1 := cmdF c A1 k1
  obtain ⟨P1, hP1⟩ : ∃ P, P = cmdC c A1 k1 := ⟨_, rfl⟩
  rw [← hP1] at F1 ⊢
  have G1 := Lib.hid (And.intro hP1 (And.intro hL1 (HS3.out.grow hb1)))
  have s1 := F1.size
  have hst1 := storeCmd P1 s1 F1.one
  clear hP1 hL1 hb1 F1 HS3
  go_wp2_with fail
  refine (H1.out.cut _).mono ?_
  rintro e v2 ⟨A2, k2, rfl, hL2, hb2⟩
  have F2 := cmdF Cm.zero A2 k2
  obtain ⟨P2, hP2⟩ : ∃ P, P = cmdC Cm.zero A2 k2 := ⟨_, rfl⟩
  rw [← hP2] at F2 ⊢
  have G2 := Lib.hid (And.intro ((G1.out.2.2.grow (bnew (Below.refl _ _) (.cells P1 27))).grow hb2) ((HasC.new (P := P1) G1.out.2.1 G1.out.1).below hb2))
  have s2 := F2.size
  have hst2 := storeCmd P2 s2 F2.one
  clear hP2 hL2 hb2 F2 G1 hst1 s1
  go_wp2_with fail
  refine (H1.out.more _).mono ?_
  rintro e v3 ⟨A3, k3, rfl, hL3, hb3⟩
  have F3 := cmdF c A3 k3
  obtain ⟨P3, hP3⟩ : ∃ P, P = cmdC c A3 k3 := ⟨_, rfl⟩
  rw [← hP3] at F3 ⊢
  have G3 := Lib.hid (And.intro ((G2.out.1.grow (bnew (Below.refl _ _) (.cells P2 27))).grow hb3) ((G2.out.2.below (bnew (Below.refl _ _) (.cells P2 27))).below hb3))
  have s3 := F3.size
  have hst3 := storeCmd P3 s3 F3.one
  clear hP3 hL3 hb3 F3 G2 hst2 s2
  go_upto_region 8 with (fail)
  refine forget (fun W => CkS w W c A cap o r R rcap ∧ HasC W v1.heap.size c A1 k1) ⟨G3.out.1.grow (bnew (Below.refl _ _) _), G3.out.2.below (bnew (Below.refl _ _) _)⟩ ?_
  rintro W4 ⟨S, S1⟩
  obtain ⟨q0, q1, q2, q3, q4, q5, q6, q7, q8, q9, q10, q11, _⟩ := cmdAt S.r0.row
  obtain ⟨y0, y1, y2, y3, y4, y5, y6, y7, y8, y9, y10, y11, _⟩ := cmdAt S1.row
  have HS4 := Lib.hid (And.intro S S1)
  clear S S1 G3 hst3 s3
  go_wp2_with fail
  refine (H1.out.same _ A1 k1 A cap HS4.out.2.lies HS4.out.1.r0.lies).mono ?_
  rintro e w5 ⟨rfl, hb5⟩
  have HS3 := Lib.hid (HS4.out.1.grow hb5)
  clear hb5 HS4 q0 q1 q2 q3 q4 q5 q6 q7 q8 q9 q10 q11 y0 y1 y2 y3 y4 y5 y6 y7 y8 y9 y10 y11 e1 i1 j1 ha1 hp1 hz1 H1
  go_upto_region 10 with (fail)
  refine forget (fun W => CkS w W c A cap o r R rcap) HS3.out ?_
  clear HS3
  intro W6 S
  obtain ⟨p0, p1, p2, p3, p4, p5, p6, p7, p8, p9, p10, p11, p12, p13, p14, p15, _⟩ := operAt S.r1
  have HS := Lib.hid S
  clear S
  go_wp2_with fail
  refine (HC.out.V _).mono ?_
  rintro e w7 ⟨rfl, hb7⟩
  have HS3 := Lib.hid (HS.out.grow hb7)
  clear hb7 HS p0 p1 p2 p3 p4 p5 p6 p7 p8 p9 p10 p11 p12 p13 p14 p15
  go_wp2_with fail
  refine (H2.out.one _).mono ?_
  rintro e v1 ⟨rfl, hb1⟩
  obtain ⟨P1, hP1⟩ : ∃ P, P = operC o := ⟨_, rfl⟩
  have s1 := operC_size o
  have o1 := operC_one o
  rw [← hP1] at s1 o1 ⊢
  have G1 := Lib.hid (And.intro hP1 (HS3.out.grow hb1))
  have hst1 := storeOper P1 s1 o1
  clear hP1 hb1 o1 HS3
  go_wp2_with fail
  refine (H2.out.cut _).mono ?_
  rintro e v2 ⟨rfl, hb2⟩
  obtain ⟨P2, hP2⟩ : ∃ P, P = operC Og.Oper.zero := ⟨_, rfl⟩
  have s2 := operC_size Og.Oper.zero
  have o2 := operC_one Og.Oper.zero
  rw [← hP2] at s2 o2 ⊢
  have hst2 := storeOper P2 s2 o2
  have G2 : Hid (CkS w v2 c A cap o r R rcap ∧ v2.heap[v1.heap.size]? = some (.cells (operC o) 33 (0, 0))) := Lib.hid ⟨(G1.out.2.grow (bnew (Below.refl _ _) (.cells P1 33))).grow hb2, (hb2.block _ (by simp)).trans (by rw [← G1.out.1]; exact heap_alloc_new v1 _)⟩
  clear hP2 hb2 o2 G1 hst1 s1
  go_wp2_with fail
  refine (H2.out.more _).mono ?_
  rintro e v3 ⟨rfl, hb3⟩
  obtain ⟨P3, hP3⟩ : ∃ P, P = operC o := ⟨_, rfl⟩
  have s3 := operC_size o
  have o3 := operC_one o
  rw [← hP3] at s3 o3 ⊢
  have hst3 := storeOper P3 s3 o3
  have G3 : Hid (CkS w v3 c A cap o r R rcap ∧ v3.heap[v1.heap.size]? = some (.cells (operC o) 33 (0, 0))) := Lib.hid ⟨(G2.out.1.grow (bnew (Below.refl _ _) (.cells P2 33))).grow hb3, (hb3.block _ (by have := (Array.getElem?_eq_some_iff.1 G2.out.2).1; simp; omega)).trans ((Below.heap_alloc _ _ _ (Array.getElem?_eq_some_iff.1 G2.out.2).1).trans G2.out.2)⟩
  clear hP3 hb3 o3 G2 hst2 s2
  go_upto_region 15 with (fail)
  refine forget (fun W => CkS w W c A cap o r R rcap ∧ W.heap[v1.heap.size]? = some (.cells (operC o) 33 (0, 0))) ⟨G3.out.1.grow (bnew (Below.refl _ _) _), (Below.heap_alloc _ _ _ (Array.getElem?_eq_some_iff.1 G3.out.2).1).trans G3.out.2⟩ ?_
  rintro W8 ⟨S, S1⟩
  obtain ⟨p0, p1, p2, p3, p4, p5, p6, p7, p8, p9, p10, p11, p12, p13, p14, p15, _⟩ := operAt S.r1
  obtain ⟨u0, u1, u2, u3, u4, u5, u6, u7, u8, u9, u10, u11, u12, u13, u14, u15, _⟩ := operAt S1
  have HS3 := Lib.hid S
  clear S S1 G3 hst3 s3
  go_upto_region 17 with (fail)
  refine forget (fun W => CkS w W c A cap o r R rcap) HS3.out ?_
  clear HS3 p0 p1 p2 p3 p4 p5 p6 p7 p8 p9 p10 p11 p12 p13 p14 p15 u0 u1 u2 u3 u4 u5 u6 u7 u8 u9 u10 u11 u12 u13 u14 u15 e2 i2 j2 ha2 hp2 hz2 H2 hne
  intro W9 S
  have r0 : W9.cell? ⟨w.heap.size + 1 + 1, 0, none⟩ = some (.int .u8 (r.code : Int)) := cell_of_row _ _ 0 _ _ _ S.r2
  have r1 : W9.cell? ⟨w.heap.size + 1 + 1, 1, none⟩ = some (.int .u64 (r.n : Int)) := cell_of_row _ _ 1 _ _ _ S.r2
  have r2 : W9.cell? ⟨w.heap.size + 1 + 1, 2, none⟩ = some (.string r.val) := cell_of_row _ _ 2 _ _ _ S.r2
  have r3 : W9.cell? ⟨w.heap.size + 1 + 1, 3, none⟩ = some (.slice R r.rows.length rcap) := cell_of_row _ _ 3 _ _ _ S.r2
  have HS := Lib.hid S
  clear S
  go_wp2_with fail
  refine (HC.out.X _ HS.out.l2).mono ?_
  rintro e w10 ⟨rfl, hb10⟩
  have HS3 := Lib.hid (HS.out.grow hb10)
  clear hb10 HS r0 r1 r2 r3
  go_wp2_with fail
  refine (H3.out.one _).mono ?_
  rintro e v1 ⟨A1, k1, rfl, hL1, hb1⟩
  have s1 : (resC r A1 k1).size = 4 := rfl
  have o1 : (resC r A1 k1).all (·.oneCell') = true := by simp [resC, Value.oneCell']
  obtain ⟨P1, hP1⟩ : ∃ P, P = resC r A1 k1 := ⟨_, rfl⟩
  rw [← hP1] at s1 o1 ⊢
  have G1 := Lib.hid (And.intro hP1 (And.intro hL1 (HS3.out.grow hb1)))
  have hst1 := storeRes P1 s1 o1
  clear hP1 hL1 hb1 o1 HS3
  go_wp2_with fail
  refine (H3.out.cut _).mono ?_
  rintro e v2 ⟨A2, k2, rfl, hL2, hb2⟩
  have s2 : (resC Rs.zero A2 k2).size = 4 := rfl
  have o2 : (resC Rs.zero A2 k2).all (·.oneCell') = true := by simp [resC, Value.oneCell']
  obtain ⟨P2, hP2⟩ : ∃ P, P = resC Rs.zero A2 k2 := ⟨_, rfl⟩
  rw [← hP2] at s2 o2 ⊢
  have hst2 := storeRes P2 s2 o2
  have G2 : Hid (CkS w v2 c A cap o r R rcap ∧ HasR v2 v1.heap.size r A1 k1) := Lib.hid ⟨(G1.out.2.2.grow (bnew (Below.refl _ _) (.cells P1 42))).grow hb2, HasR.below ⟨by rw [← G1.out.1]; exact heap_alloc_new v1 _, G1.out.2.1.below (bnew (Below.refl _ _) _)⟩ hb2⟩
  clear hP2 hL2 hb2 o2 G1 hst1 s1
  go_wp2_with fail
  refine (H3.out.more _).mono ?_
  rintro e v3 ⟨A3, k3, rfl, hL3, hb3⟩
  have s3 : (resC r A3 k3).size = 4 := rfl
  have o3 : (resC r A3 k3).all (·.oneCell') = true := by simp [resC, Value.oneCell']
  obtain ⟨P3, hP3⟩ : ∃ P, P = resC r A3 k3 := ⟨_, rfl⟩
  rw [← hP3] at s3 o3 ⊢
  have hst3 := storeRes P3 s3 o3
  have G3 := Lib.hid (And.intro ((G2.out.1.grow (bnew (Below.refl _ _) (.cells P2 42))).grow hb3) ((G2.out.2.below (bnew (Below.refl _ _) (.cells P2 42))).below hb3))
  clear hP3 hL3 hb3 o3 G2 hst2 s2
  go_upto_region 23 with (fail)
  refine forget (fun W => CkS w W c A cap o r R rcap ∧ HasR W v1.heap.size r A1 k1) ⟨G3.out.1.grow (bnew (Below.refl _ _) _), G3.out.2.below (bnew (Below.refl _ _) _)⟩ ?_
  rintro W11 ⟨S, S1⟩
  have r0 : W11.cell? ⟨w.heap.size + 1 + 1, 0, none⟩ = some (.int .u8 (r.code : Int)) := cell_of_row _ _ 0 _ _ _ S.r2
  have r1 : W11.cell? ⟨w.heap.size + 1 + 1, 1, none⟩ = some (.int .u64 (r.n : Int)) := cell_of_row _ _ 1 _ _ _ S.r2
  have r2 : W11.cell? ⟨w.heap.size + 1 + 1, 2, none⟩ = some (.string r.val) := cell_of_row _ _ 2 _ _ _ S.r2
  have r3 : W11.cell? ⟨w.heap.size + 1 + 1, 3, none⟩ = some (.slice R r.rows.length rcap) := cell_of_row _ _ 3 _ _ _ S.r2
  have x0 : W11.cell? ⟨v1.heap.size, 0, none⟩ = some (.int .u8 (r.code : Int)) := cell_of_row _ _ 0 _ _ _ S1.row
  have x1 : W11.cell? ⟨v1.heap.size, 1, none⟩ = some (.int .u64 (r.n : Int)) := cell_of_row _ _ 1 _ _ _ S1.row
  have x2 : W11.cell? ⟨v1.heap.size, 2, none⟩ = some (.string r.val) := cell_of_row _ _ 2 _ _ _ S1.row
  have x3 : W11.cell? ⟨v1.heap.size, 3, none⟩ = some (.slice A1 r.rows.length k1) := cell_of_row _ _ 3 _ _ _ S1.row
  have HS4 := Lib.hid (And.intro S S1)
  clear S S1 G3 hst3 s3
  go_wp2_with fail
  refine (H3.out.same _ A1 k1 R rcap HS4.out.2.lies HS4.out.1.l2).mono ?_
  rintro e w12 ⟨rfl, hb12⟩
  have HB := Lib.hid (HS4.out.1.grow hb12).b
  clear hb12 HS4 r0 r1 r2 r3 x0 x1 x2 x3
  go_wp2_with fail
  refine (HAw.out _).mono ?_
  rintro e w13 ⟨rfl, hb13⟩
  have HB13 := Lib.hid (bnext HB.out hb13)
  clear hb13
  go_wp2_with fail
  go_ret
  exact ⟨rfl, HB13.out⟩
set_option maxRecDepth 100000 in
set_option maxHeartbeats 16000000 in
theorem cback_110 (c : Cm.Cmd) (A : Option Addr) (cap : Nat) (o : Og.Oper) (r : Rs.Res) (R : Option Addr) (rcap : Nat) (t1 t2 t3 beh : ByteArray) (cut : Nat) (hc : cut < 65536) (w : World) (hA : Lies w A (pc c.parts)) (hR : Lies w R (rc r.rows)) (HC : Hid (BkC c A cap o r R rcap t1 t2 t3)) (h4 : 4 ≤ t3.size) (hbh : beh.size ≤ 100) (hbe : beh.size ≠ 0)
    (hp1 : 0 < t1.size) (hz1 : t1.size ≤ 100000000) (H1 : Hid (RdC c Cm.zero false t1 (t1.extract 0 (cut % t1.size)) (t1 ++ beh)))
    (hp2 : 0 < t2.size) (hz2 : t2.size ≤ 100000000) (H2 : Hid (RdO o Og.Oper.zero false t2 (t2.extract 0 (cut % t2.size)) (t2 ++ beh)))
    (hp3 : 0 < t3.size) (hz3 : t3.size ≤ 100000000) (H3 : Hid (RdR r Rs.zero false t3 (t3.extract 0 (cut % t3.size)) (t3 ++ beh))) :
    Calls Try.prog 8 #[.agg (cmdC c A cap), .agg (operC o), .agg (resC r R rcap), .int .u16 (cut : Int), .string beh] w fun e w' => e = .returned (.bool true) ∧ Below w.heap.size w w' := by
  have HAw := Lib.hid cmdAwake_any
  have HS0 := Lib.hid (CkS.new (cap := cap) (o := o) (rcap := rcap) hA hR)
  have d2 : decide ((100 : Int) < (beh.size : Int)) = false := by simp; omega
  have d5 : beh.toList.isEmpty = false := by
    rw [ByteArray.toList_eq]; rw [List.isEmpty_eq_false_iff]; intro h; exact hbe (by rw [Lib.size_eq, h]; rfl)
  have d6 : decide ((t3.size : Int) < 4) = false := by simp; omega
  have e1 : t1.toList.isEmpty = false := by
    rw [ByteArray.toList_eq, List.isEmpty_eq_false_iff]; intro h; rw [Lib.size_eq, h] at hp1; exact absurd hp1 (Nat.lt_irrefl 0)
  have i1 : (0 : Int) ≤ (cut : Int) % (t1.size : Int) := by omega
  have j1 : (cut : Int) % (t1.size : Int) ≤ (t1.size : Int) := by
    have := Int.emod_lt_of_pos (cut : Int) (show (0 : Int) < (t1.size : Int) by omega)
    omega
  have ha1 : ∀ W : World, (Op.stringOp .add t1 beh).run Try.prog W = .ok (.string (t1 ++ beh)) W := fun W => run_string_add_sum W _ _ (by omega)
  have e2 : t2.toList.isEmpty = false := by
    rw [ByteArray.toList_eq, List.isEmpty_eq_false_iff]; intro h; rw [Lib.size_eq, h] at hp2; exact absurd hp2 (Nat.lt_irrefl 0)
  have i2 : (0 : Int) ≤ (cut : Int) % (t2.size : Int) := by omega
  have j2 : (cut : Int) % (t2.size : Int) ≤ (t2.size : Int) := by
    have := Int.emod_lt_of_pos (cut : Int) (show (0 : Int) < (t2.size : Int) by omega)
    omega
  have ha2 : ∀ W : World, (Op.stringOp .add t2 beh).run Try.prog W = .ok (.string (t2 ++ beh)) W := fun W => run_string_add_sum W _ _ (by omega)
  have e3 : t3.toList.isEmpty = false := by
    rw [ByteArray.toList_eq, List.isEmpty_eq_false_iff]; intro h; rw [Lib.size_eq, h] at hp3; exact absurd hp3 (Nat.lt_irrefl 0)
  have i3 : (0 : Int) ≤ (cut : Int) % (t3.size : Int) := by omega
  have j3 : (cut : Int) % (t3.size : Int) ≤ (t3.size : Int) := by
    have := Int.emod_lt_of_pos (cut : Int) (show (0 : Int) < (t3.size : Int) by omega)
    omega
  have ha3 : ∀ W : World, (Op.stringOp .add t3 beh).run Try.prog W = .ok (.string (t3 ++ beh)) W := fun W => run_string_add_sum W _ _ (by omega)
  have hne := oper_neq o o
  rw [decide_eq_true rfl] at hne
  unfold operC at hne
  clear hA hR hbe h4 hbh
  obtain ⟨X0, hX0⟩ : ∃ X, X = cmdC c A cap := ⟨_, rfl⟩
  obtain ⟨Y0, hY0⟩ : ∃ X, X = operC o := ⟨_, rfl⟩
  obtain ⟨Z0, hZ0⟩ : ∃ X, X = resC r R rcap := ⟨_, rfl⟩
  rw [← hX0, ← hY0, ← hZ0] at HS0 ⊢
  clear hX0 hY0 hZ0
  go_enter Try.func8, Try.ntmps8
  go_upto_region 1 with (fail)
  refine forget (fun W => CkS w W c A cap o r R rcap) HS0.out ?_
  clear HS0
  intro W1 S
  have HS := Lib.hid S
  obtain ⟨q0, q1, q2, q3, q4, q5, q6, q7, q8, q9, q10, q11, _⟩ := cmdAt S.r0.row
  clear S
  go_wp2_with fail
  refine (HC.out.G _ HS.out.r0.lies).mono ?_
  rintro e w1 ⟨rfl, hb1⟩
  have S := HS.out.grow hb1
  clear hb1 HS q0 q1 q2 q3 q4 q5 q6 q7 q8 q9 q10 q11
  have r0 : w1.cell? ⟨w.heap.size + 1 + 1, 0, none⟩ = some (.int .u8 (r.code : Int)) := cell_of_row _ _ 0 _ _ _ S.r2
  have r1 : w1.cell? ⟨w.heap.size + 1 + 1, 1, none⟩ = some (.int .u64 (r.n : Int)) := cell_of_row _ _ 1 _ _ _ S.r2
  have r2 : w1.cell? ⟨w.heap.size + 1 + 1, 2, none⟩ = some (.string r.val) := cell_of_row _ _ 2 _ _ _ S.r2
  have r3 : w1.cell? ⟨w.heap.size + 1 + 1, 3, none⟩ = some (.slice R r.rows.length rcap) := cell_of_row _ _ 3 _ _ _ S.r2
  have HS := Lib.hid S
  clear S
  go_wp2_with fail
  refine (HC.out.GR _ HS.out.l2).mono ?_
  rintro e w2 ⟨rfl, hb2⟩
  have S := HS.out.grow hb2
  clear hb2 HS r0 r1 r2 r3
  obtain ⟨q0, q1, q2, q3, q4, q5, q6, q7, q8, q9, q10, q11, _⟩ := cmdAt S.r0.row
  have HS := Lib.hid S
  clear S
  go_wp2_with fail
  refine (HC.out.W _ HS.out.r0.lies).mono ?_
  rintro e w3 ⟨rfl, hb3⟩
  have HS3 := Lib.hid (HS.out.grow hb3)
  clear hb3 HS q0 q1 q2 q3 q4 q5 q6 q7 q8 q9 q10 q11
  go_wp2_with fail
  refine (H1.out.one _).mono ?_
  rintro e v1 ⟨A1, k1, rfl, hL1, hb1⟩
  have F1 := cmdF c A1 k1
  obtain ⟨P1, hP1⟩ : ∃ P, P = cmdC c A1 k1 := ⟨_, rfl⟩
  rw [← hP1] at F1 ⊢
  have G1 := Lib.hid (And.intro hP1 (And.intro hL1 (HS3.out.grow hb1)))
  have s1 := F1.size
  have hst1 := storeCmd P1 s1 F1.one
  clear hP1 hL1 hb1 F1 HS3
  go_wp2_with fail
  refine (H1.out.cut _).mono ?_
  rintro e v2 ⟨A2, k2, rfl, hL2, hb2⟩
  have F2 := cmdF Cm.zero A2 k2
  obtain ⟨P2, hP2⟩ : ∃ P, P = cmdC Cm.zero A2 k2 := ⟨_, rfl⟩
  rw [← hP2] at F2 ⊢
  have G2 := Lib.hid (And.intro ((G1.out.2.2.grow (bnew (Below.refl _ _) (.cells P1 27))).grow hb2) ((HasC.new (P := P1) G1.out.2.1 G1.out.1).below hb2))
  have s2 := F2.size
  have hst2 := storeCmd P2 s2 F2.one
  clear hP2 hL2 hb2 F2 G1 hst1 s1
  go_wp2_with fail
  refine (H1.out.more _).mono ?_
  rintro e v3 ⟨A3, k3, rfl, hL3, hb3⟩
  have F3 := cmdF Cm.zero A3 k3
  obtain ⟨P3, hP3⟩ : ∃ P, P = cmdC Cm.zero A3 k3 := ⟨_, rfl⟩
  rw [← hP3] at F3 ⊢
  have G3 := Lib.hid (And.intro ((G2.out.1.grow (bnew (Below.refl _ _) (.cells P2 27))).grow hb3) ((G2.out.2.below (bnew (Below.refl _ _) (.cells P2 27))).below hb3))
  have s3 := F3.size
  have hst3 := storeCmd P3 s3 F3.one
  clear hP3 hL3 hb3 F3 G2 hst2 s2
  go_upto_region 8 with (fail)
  refine forget (fun W => CkS w W c A cap o r R rcap ∧ HasC W v1.heap.size c A1 k1) ⟨G3.out.1.grow (bnew (Below.refl _ _) _), G3.out.2.below (bnew (Below.refl _ _) _)⟩ ?_
  rintro W4 ⟨S, S1⟩
  obtain ⟨q0, q1, q2, q3, q4, q5, q6, q7, q8, q9, q10, q11, _⟩ := cmdAt S.r0.row
  obtain ⟨y0, y1, y2, y3, y4, y5, y6, y7, y8, y9, y10, y11, _⟩ := cmdAt S1.row
  have HS4 := Lib.hid (And.intro S S1)
  clear S S1 G3 hst3 s3
  go_wp2_with fail
  refine (H1.out.same _ A1 k1 A cap HS4.out.2.lies HS4.out.1.r0.lies).mono ?_
  rintro e w5 ⟨rfl, hb5⟩
  have HS3 := Lib.hid (HS4.out.1.grow hb5)
  clear hb5 HS4 q0 q1 q2 q3 q4 q5 q6 q7 q8 q9 q10 q11 y0 y1 y2 y3 y4 y5 y6 y7 y8 y9 y10 y11 e1 i1 j1 ha1 hp1 hz1 H1
  go_upto_region 10 with (fail)
  refine forget (fun W => CkS w W c A cap o r R rcap) HS3.out ?_
  clear HS3
  intro W6 S
  obtain ⟨p0, p1, p2, p3, p4, p5, p6, p7, p8, p9, p10, p11, p12, p13, p14, p15, _⟩ := operAt S.r1
  have HS := Lib.hid S
  clear S
  go_wp2_with fail
  refine (HC.out.V _).mono ?_
  rintro e w7 ⟨rfl, hb7⟩
  have HS3 := Lib.hid (HS.out.grow hb7)
  clear hb7 HS p0 p1 p2 p3 p4 p5 p6 p7 p8 p9 p10 p11 p12 p13 p14 p15
  go_wp2_with fail
  refine (H2.out.one _).mono ?_
  rintro e v1 ⟨rfl, hb1⟩
  obtain ⟨P1, hP1⟩ : ∃ P, P = operC o := ⟨_, rfl⟩
  have s1 := operC_size o
  have o1 := operC_one o
  rw [← hP1] at s1 o1 ⊢
  have G1 := Lib.hid (And.intro hP1 (HS3.out.grow hb1))
  have hst1 := storeOper P1 s1 o1
  clear hP1 hb1 o1 HS3
  go_wp2_with fail
  refine (H2.out.cut _).mono ?_
  rintro e v2 ⟨rfl, hb2⟩
  obtain ⟨P2, hP2⟩ : ∃ P, P = operC Og.Oper.zero := ⟨_, rfl⟩
  have s2 := operC_size Og.Oper.zero
  have o2 := operC_one Og.Oper.zero
  rw [← hP2] at s2 o2 ⊢
  have hst2 := storeOper P2 s2 o2
  have G2 : Hid (CkS w v2 c A cap o r R rcap ∧ v2.heap[v1.heap.size]? = some (.cells (operC o) 33 (0, 0))) := Lib.hid ⟨(G1.out.2.grow (bnew (Below.refl _ _) (.cells P1 33))).grow hb2, (hb2.block _ (by simp)).trans (by rw [← G1.out.1]; exact heap_alloc_new v1 _)⟩
  clear hP2 hb2 o2 G1 hst1 s1
  go_wp2_with fail
  refine (H2.out.more _).mono ?_
  rintro e v3 ⟨rfl, hb3⟩
  obtain ⟨P3, hP3⟩ : ∃ P, P = operC Og.Oper.zero := ⟨_, rfl⟩
  have s3 := operC_size Og.Oper.zero
  have o3 := operC_one Og.Oper.zero
  rw [← hP3] at s3 o3 ⊢
  have hst3 := storeOper P3 s3 o3
  have G3 : Hid (CkS w v3 c A cap o r R rcap ∧ v3.heap[v1.heap.size]? = some (.cells (operC o) 33 (0, 0))) := Lib.hid ⟨(G2.out.1.grow (bnew (Below.refl _ _) (.cells P2 33))).grow hb3, (hb3.block _ (by have := (Array.getElem?_eq_some_iff.1 G2.out.2).1; simp; omega)).trans ((Below.heap_alloc _ _ _ (Array.getElem?_eq_some_iff.1 G2.out.2).1).trans G2.out.2)⟩
  clear hP3 hb3 o3 G2 hst2 s2
  go_upto_region 15 with (fail)
  refine forget (fun W => CkS w W c A cap o r R rcap ∧ W.heap[v1.heap.size]? = some (.cells (operC o) 33 (0, 0))) ⟨G3.out.1.grow (bnew (Below.refl _ _) _), (Below.heap_alloc _ _ _ (Array.getElem?_eq_some_iff.1 G3.out.2).1).trans G3.out.2⟩ ?_
  rintro W8 ⟨S, S1⟩
  obtain ⟨p0, p1, p2, p3, p4, p5, p6, p7, p8, p9, p10, p11, p12, p13, p14, p15, _⟩ := operAt S.r1
  obtain ⟨u0, u1, u2, u3, u4, u5, u6, u7, u8, u9, u10, u11, u12, u13, u14, u15, _⟩ := operAt S1
  have HS3 := Lib.hid S
  clear S S1 G3 hst3 s3
  go_upto_region 17 with (fail)
  refine forget (fun W => CkS w W c A cap o r R rcap) HS3.out ?_
  clear HS3 p0 p1 p2 p3 p4 p5 p6 p7 p8 p9 p10 p11 p12 p13 p14 p15 u0 u1 u2 u3 u4 u5 u6 u7 u8 u9 u10 u11 u12 u13 u14 u15 e2 i2 j2 ha2 hp2 hz2 H2 hne
  intro W9 S
  have r0 : W9.cell? ⟨w.heap.size + 1 + 1, 0, none⟩ = some (.int .u8 (r.code : Int)) := cell_of_row _ _ 0 _ _ _ S.r2
  have r1 : W9.cell? ⟨w.heap.size + 1 + 1, 1, none⟩ = some (.int .u64 (r.n : Int)) := cell_of_row _ _ 1 _ _ _ S.r2
  have r2 : W9.cell? ⟨w.heap.size + 1 + 1, 2, none⟩ = some (.string r.val) := cell_of_row _ _ 2 _ _ _ S.r2
  have r3 : W9.cell? ⟨w.heap.size + 1 + 1, 3, none⟩ = some (.slice R r.rows.length rcap) := cell_of_row _ _ 3 _ _ _ S.r2
  have HS := Lib.hid S
  clear S
  go_wp2_with fail
  refine (HC.out.X _ HS.out.l2).mono ?_
  rintro e w10 ⟨rfl, hb10⟩
  have HS3 := Lib.hid (HS.out.grow hb10)
  clear hb10 HS r0 r1 r2 r3
  go_wp2_with fail
  refine (H3.out.one _).mono ?_
  rintro e v1 ⟨A1, k1, rfl, hL1, hb1⟩
  have s1 : (resC r A1 k1).size = 4 := rfl
  have o1 : (resC r A1 k1).all (·.oneCell') = true := by simp [resC, Value.oneCell']
  obtain ⟨P1, hP1⟩ : ∃ P, P = resC r A1 k1 := ⟨_, rfl⟩
  rw [← hP1] at s1 o1 ⊢
  have G1 := Lib.hid (And.intro hP1 (And.intro hL1 (HS3.out.grow hb1)))
  have hst1 := storeRes P1 s1 o1
  clear hP1 hL1 hb1 o1 HS3
  go_wp2_with fail
  refine (H3.out.cut _).mono ?_
  rintro e v2 ⟨A2, k2, rfl, hL2, hb2⟩
  have s2 : (resC Rs.zero A2 k2).size = 4 := rfl
  have o2 : (resC Rs.zero A2 k2).all (·.oneCell') = true := by simp [resC, Value.oneCell']
  obtain ⟨P2, hP2⟩ : ∃ P, P = resC Rs.zero A2 k2 := ⟨_, rfl⟩
  rw [← hP2] at s2 o2 ⊢
  have hst2 := storeRes P2 s2 o2
  have G2 : Hid (CkS w v2 c A cap o r R rcap ∧ HasR v2 v1.heap.size r A1 k1) := Lib.hid ⟨(G1.out.2.2.grow (bnew (Below.refl _ _) (.cells P1 42))).grow hb2, HasR.below ⟨by rw [← G1.out.1]; exact heap_alloc_new v1 _, G1.out.2.1.below (bnew (Below.refl _ _) _)⟩ hb2⟩
  clear hP2 hL2 hb2 o2 G1 hst1 s1
  go_wp2_with fail
  refine (H3.out.more _).mono ?_
  rintro e v3 ⟨A3, k3, rfl, hL3, hb3⟩
  have s3 : (resC Rs.zero A3 k3).size = 4 := rfl
  have o3 : (resC Rs.zero A3 k3).all (·.oneCell') = true := by simp [resC, Value.oneCell']
  obtain ⟨P3, hP3⟩ : ∃ P, P = resC Rs.zero A3 k3 := ⟨_, rfl⟩
  rw [← hP3] at s3 o3 ⊢
  have hst3 := storeRes P3 s3 o3
  have G3 := Lib.hid (And.intro ((G2.out.1.grow (bnew (Below.refl _ _) (.cells P2 42))).grow hb3) ((G2.out.2.below (bnew (Below.refl _ _) (.cells P2 42))).below hb3))
  clear hP3 hL3 hb3 o3 G2 hst2 s2
  go_upto_region 23 with (fail)
  refine forget (fun W => CkS w W c A cap o r R rcap ∧ HasR W v1.heap.size r A1 k1) ⟨G3.out.1.grow (bnew (Below.refl _ _) _), G3.out.2.below (bnew (Below.refl _ _) _)⟩ ?_
  rintro W11 ⟨S, S1⟩
  have r0 : W11.cell? ⟨w.heap.size + 1 + 1, 0, none⟩ = some (.int .u8 (r.code : Int)) := cell_of_row _ _ 0 _ _ _ S.r2
  have r1 : W11.cell? ⟨w.heap.size + 1 + 1, 1, none⟩ = some (.int .u64 (r.n : Int)) := cell_of_row _ _ 1 _ _ _ S.r2
  have r2 : W11.cell? ⟨w.heap.size + 1 + 1, 2, none⟩ = some (.string r.val) := cell_of_row _ _ 2 _ _ _ S.r2
  have r3 : W11.cell? ⟨w.heap.size + 1 + 1, 3, none⟩ = some (.slice R r.rows.length rcap) := cell_of_row _ _ 3 _ _ _ S.r2
  have x0 : W11.cell? ⟨v1.heap.size, 0, none⟩ = some (.int .u8 (r.code : Int)) := cell_of_row _ _ 0 _ _ _ S1.row
  have x1 : W11.cell? ⟨v1.heap.size, 1, none⟩ = some (.int .u64 (r.n : Int)) := cell_of_row _ _ 1 _ _ _ S1.row
  have x2 : W11.cell? ⟨v1.heap.size, 2, none⟩ = some (.string r.val) := cell_of_row _ _ 2 _ _ _ S1.row
  have x3 : W11.cell? ⟨v1.heap.size, 3, none⟩ = some (.slice A1 r.rows.length k1) := cell_of_row _ _ 3 _ _ _ S1.row
  have HS4 := Lib.hid (And.intro S S1)
  clear S S1 G3 hst3 s3
  go_wp2_with fail
  refine (H3.out.same _ A1 k1 R rcap HS4.out.2.lies HS4.out.1.l2).mono ?_
  rintro e w12 ⟨rfl, hb12⟩
  have HB := Lib.hid (HS4.out.1.grow hb12).b
  clear hb12 HS4 r0 r1 r2 r3 x0 x1 x2 x3
  go_wp2_with fail
  refine (HAw.out _).mono ?_
  rintro e w13 ⟨rfl, hb13⟩
  have HB13 := Lib.hid (bnext HB.out hb13)
  clear hb13
  go_wp2_with fail
  go_ret
  exact ⟨rfl, HB13.out⟩
end Go.Proofs.Ytkghldobefgjeaa
