/-
  CmdOnly's code walked. WRITTEN BY wip/tools/gen_lwonly.py.
-/
import Derived.Test.YtaebbmhjnhhemaaQLwOnlyH
set_option linter.unusedSimpArgs false
set_option linter.unusedVariables false
namespace Go.Proofs.Ytaebbmhjnhhemaa
open Go.RowKit
set_option linter.unusedVariables false
set_option maxRecDepth 100000 in
set_option maxHeartbeats 8000000 in
theorem only_1011 (s t : ByteArray) (hk : 4000 < s.size) (ht : s.extract 0 4000 = t) (w : World) (c : Cm.Cmd) (o : Og.Oper) (r : Rs.Res)
    (HR : ∀ W, Calls Try.prog 19 #[.string t] W fun e w' => ∃ A cap, e = .returned (.tuple #[.agg (cmdC c A cap), .bool true]) ∧ Lies w' A (pc c.parts) ∧ Below W.heap.size W w')
    (HO : ∀ W, Calls Try.prog 21 #[.string t] W fun e w' => e = .returned (.tuple #[.agg (operC Og.Oper.zero), .bool false]) ∧ Below W.heap.size W w')
    (HP : ∀ W, Calls Try.prog 23 #[.string t] W fun e w' => ∃ A cap, e = .returned (.tuple #[.agg (resC r A cap), .bool true]) ∧ Lies w' A (rc r.rows) ∧ Below W.heap.size W w')
    (HW : ∀ W A cap, Lies W A (pc c.parts) → Calls Try.prog 10 #[.agg (cmdC c A cap)] W fun e w' => e = .returned (.string t) ∧ Below W.heap.size W w')
    (HX : ∀ W A cap, Lies W A (rc r.rows) → Calls Try.prog 14 #[.agg (resC r A cap)] W fun e w' => e = .returned (.string t) ∧ Below W.heap.size W w') :
    Calls Try.prog 9 #[.string s] w fun e w' => e = .returned (.bool true) ∧ Below w.heap.size w w' := by
  have HR := Lib.hid HR
  have HO := Lib.hid HO
  have HP := Lib.hid HP
  have HW := Lib.hid HW
  have HX := Lib.hid HX
  have HAw := Lib.hid cmdAwake_any
  have HT := Lib.hid ht
  clear ht
  have htt : (t.toList == t.toList) = true := by simp
  go_enter Try.func9, Try.ntmps9
  go_wp2_with fail
  rw [HT.out]
  refine (HR.out _).mono ?_
  rintro e w1 ⟨A1, k1, rfl, hL1, hb1⟩
  have F1 := cmdF c A1 k1
  obtain ⟨P1, hP1⟩ : ∃ P, P = cmdC c A1 k1 := ⟨_, rfl⟩
  rw [← hP1] at F1 ⊢
  have H1 := Lib.hid (And.intro hP1 (And.intro hL1 hb1))
  have s1 := F1.size
  have hst1 := storeCmd P1 s1 F1.one
  clear hP1 hL1 hb1 F1 HR
  go_wp2_with fail
  refine (HO.out _).mono ?_
  rintro e w2 ⟨rfl, hb2⟩
  have s2 := operC_size Og.Oper.zero
  have o2 := operC_one Og.Oper.zero
  obtain ⟨P2, hP2⟩ : ∃ P, P = operC Og.Oper.zero := ⟨_, rfl⟩
  rw [← hP2] at s2 o2 ⊢
  have H2 := Lib.hid (And.intro hP2 hb2)
  have hst2 := storeOper P2 s2 o2
  clear hP2 hb2 o2 s1 hst1 HO
  go_wp2_with fail
  refine (HP.out _).mono ?_
  rintro e w3 ⟨A3, k3, rfl, hL3, hb3⟩
  have s3 : (resC r A3 k3).size = 4 := rfl
  have o3 : (resC r A3 k3).all (·.oneCell') = true := by simp [resC, Value.oneCell']
  obtain ⟨P3, hP3⟩ : ∃ P, P = resC r A3 k3 := ⟨_, rfl⟩
  rw [← hP3] at s3 o3 ⊢
  have H3 := Lib.hid (And.intro hP3 (And.intro hL3 hb3))
  have hst3 := storeRes P3 s3 o3
  clear hP3 hL3 hb3 o3 s2 hst2 HP
  go_upto_region 6 with (fail)
  have HS : OnS w (w3.alloc (.cells P3 42)) w1.heap.size w2.heap.size w3.heap.size c A1 k1 Og.Oper.zero r A3 k3 := by
    obtain ⟨e1, l1, b1⟩ := H1.out
    obtain ⟨e2, b2⟩ := H2.out
    obtain ⟨e3, l3, b3⟩ := H3.out
    exact OnS.make e1 l1 b1 e2 b2 e3 l3 b3
  refine forget (fun W => OnS w W w1.heap.size w2.heap.size w3.heap.size c A1 k1 Og.Oper.zero r A3 k3) HS ?_
  intro W S
  obtain ⟨q1, hq1⟩ : ∃ q, q = w1.heap.size := ⟨_, rfl⟩
  obtain ⟨q2, hq2⟩ : ∃ q, q = w2.heap.size := ⟨_, rfl⟩
  obtain ⟨q3, hq3⟩ : ∃ q, q = w3.heap.size := ⟨_, rfl⟩
  rw [← hq1, ← hq2, ← hq3] at S ⊢
  clear hq1 hq2 hq3 H1 H2 H3 HS hst3 s3
  obtain ⟨q0, q1, q2, q3, q4, q5, q6, q7, q8, q9, q10, q11, _⟩ := cmdAt S.h1.row
  have HS := Lib.hid S
  clear S
  go_wp2_with fail
  refine (HW.out _ A1 k1 HS.out.h1.lies).mono ?_
  rintro e w4 ⟨rfl, hb4⟩
  have S4 := HS.out.grow hb4
  clear HS hb4 q0 q1 q2 q3 q4 q5 q6 q7 q8 q9 q10 q11 HW
  obtain ⟨p0, p1, p2, p3, p4, p5, p6, p7, p8, p9, p10, p11, p12, p13, p14, p15, _⟩ := operAt S4.r2
  have HS := Lib.hid S4
  clear S4
  have hgo := guardOper
  have hne := tok_zero
  have S5 := HS.out
  have r0 := cell_of_row _ _ 0 _ _ _ S5.r3
  have r1 := cell_of_row _ _ 1 _ _ _ S5.r3
  have r2 := cell_of_row _ _ 2 _ _ _ S5.r3
  have r3 := cell_of_row _ _ 3 _ _ _ S5.r3
  rw [show (resC r A3 k3)[0]? = some (.int .u8 (r.code : Int)) from rfl] at r0
  rw [show (resC r A3 k3)[1]? = some (.int .u64 (r.n : Int)) from rfl] at r1
  rw [show (resC r A3 k3)[2]? = some (.string r.val) from rfl] at r2
  rw [show (resC r A3 k3)[3]? = some (.slice A3 r.rows.length k3) from rfl] at r3
  clear S5
  go_wp2_with fail
  refine (HX.out _ A3 k3 HS.out.l3).mono ?_
  rintro e w6 ⟨rfl, hb6⟩
  have HS6 := Lib.hid (HS.out.grow hb6)
  clear HS hb6 r0 r1 r2 r3 HX
  go_wp2_with fail
  refine (HAw.out _).mono ?_
  rintro e w7 ⟨rfl, hb7⟩
  have HS7 := Lib.hid (HS6.out.grow hb7)
  clear HS6 hb7
  go_wp2_with fail
  go_ret
  exact ⟨rfl, HS7.out.b⟩
set_option maxRecDepth 100000 in
set_option maxHeartbeats 8000000 in
theorem only_1010 (s t : ByteArray) (hk : s.size ≤ 4000) (ht : s = t) (w : World) (c : Cm.Cmd) (o : Og.Oper) (r : Rs.Res)
    (HR : ∀ W, Calls Try.prog 19 #[.string t] W fun e w' => ∃ A cap, e = .returned (.tuple #[.agg (cmdC c A cap), .bool true]) ∧ Lies w' A (pc c.parts) ∧ Below W.heap.size W w')
    (HO : ∀ W, Calls Try.prog 21 #[.string t] W fun e w' => e = .returned (.tuple #[.agg (operC Og.Oper.zero), .bool false]) ∧ Below W.heap.size W w')
    (HP : ∀ W, Calls Try.prog 23 #[.string t] W fun e w' => ∃ A cap, e = .returned (.tuple #[.agg (resC r A cap), .bool true]) ∧ Lies w' A (rc r.rows) ∧ Below W.heap.size W w')
    (HW : ∀ W A cap, Lies W A (pc c.parts) → Calls Try.prog 10 #[.agg (cmdC c A cap)] W fun e w' => e = .returned (.string t) ∧ Below W.heap.size W w')
    (HX : ∀ W A cap, Lies W A (rc r.rows) → Calls Try.prog 14 #[.agg (resC r A cap)] W fun e w' => e = .returned (.string t) ∧ Below W.heap.size W w') :
    Calls Try.prog 9 #[.string s] w fun e w' => e = .returned (.bool true) ∧ Below w.heap.size w w' := by
  have HR := Lib.hid HR
  have HO := Lib.hid HO
  have HP := Lib.hid HP
  have HW := Lib.hid HW
  have HX := Lib.hid HX
  have HAw := Lib.hid cmdAwake_any
  subst ht
  have htt : (s.toList == s.toList) = true := by simp
  go_enter Try.func9, Try.ntmps9
  go_wp2_with fail
  refine (HR.out _).mono ?_
  rintro e w1 ⟨A1, k1, rfl, hL1, hb1⟩
  have F1 := cmdF c A1 k1
  obtain ⟨P1, hP1⟩ : ∃ P, P = cmdC c A1 k1 := ⟨_, rfl⟩
  rw [← hP1] at F1 ⊢
  have H1 := Lib.hid (And.intro hP1 (And.intro hL1 hb1))
  have s1 := F1.size
  have hst1 := storeCmd P1 s1 F1.one
  clear hP1 hL1 hb1 F1 HR
  go_wp2_with fail
  refine (HO.out _).mono ?_
  rintro e w2 ⟨rfl, hb2⟩
  have s2 := operC_size Og.Oper.zero
  have o2 := operC_one Og.Oper.zero
  obtain ⟨P2, hP2⟩ : ∃ P, P = operC Og.Oper.zero := ⟨_, rfl⟩
  rw [← hP2] at s2 o2 ⊢
  have H2 := Lib.hid (And.intro hP2 hb2)
  have hst2 := storeOper P2 s2 o2
  clear hP2 hb2 o2 s1 hst1 HO
  go_wp2_with fail
  refine (HP.out _).mono ?_
  rintro e w3 ⟨A3, k3, rfl, hL3, hb3⟩
  have s3 : (resC r A3 k3).size = 4 := rfl
  have o3 : (resC r A3 k3).all (·.oneCell') = true := by simp [resC, Value.oneCell']
  obtain ⟨P3, hP3⟩ : ∃ P, P = resC r A3 k3 := ⟨_, rfl⟩
  rw [← hP3] at s3 o3 ⊢
  have H3 := Lib.hid (And.intro hP3 (And.intro hL3 hb3))
  have hst3 := storeRes P3 s3 o3
  clear hP3 hL3 hb3 o3 s2 hst2 HP
  go_upto_region 6 with (fail)
  have HS : OnS w (w3.alloc (.cells P3 42)) w1.heap.size w2.heap.size w3.heap.size c A1 k1 Og.Oper.zero r A3 k3 := by
    obtain ⟨e1, l1, b1⟩ := H1.out
    obtain ⟨e2, b2⟩ := H2.out
    obtain ⟨e3, l3, b3⟩ := H3.out
    exact OnS.make e1 l1 b1 e2 b2 e3 l3 b3
  refine forget (fun W => OnS w W w1.heap.size w2.heap.size w3.heap.size c A1 k1 Og.Oper.zero r A3 k3) HS ?_
  intro W S
  obtain ⟨q1, hq1⟩ : ∃ q, q = w1.heap.size := ⟨_, rfl⟩
  obtain ⟨q2, hq2⟩ : ∃ q, q = w2.heap.size := ⟨_, rfl⟩
  obtain ⟨q3, hq3⟩ : ∃ q, q = w3.heap.size := ⟨_, rfl⟩
  rw [← hq1, ← hq2, ← hq3] at S ⊢
  clear hq1 hq2 hq3 H1 H2 H3 HS hst3 s3
  obtain ⟨q0, q1, q2, q3, q4, q5, q6, q7, q8, q9, q10, q11, _⟩ := cmdAt S.h1.row
  have HS := Lib.hid S
  clear S
  go_wp2_with fail
  refine (HW.out _ A1 k1 HS.out.h1.lies).mono ?_
  rintro e w4 ⟨rfl, hb4⟩
  have S4 := HS.out.grow hb4
  clear HS hb4 q0 q1 q2 q3 q4 q5 q6 q7 q8 q9 q10 q11 HW
  obtain ⟨p0, p1, p2, p3, p4, p5, p6, p7, p8, p9, p10, p11, p12, p13, p14, p15, _⟩ := operAt S4.r2
  have HS := Lib.hid S4
  clear S4
  have hgo := guardOper
  have hne := tok_zero
  have S5 := HS.out
  have r0 := cell_of_row _ _ 0 _ _ _ S5.r3
  have r1 := cell_of_row _ _ 1 _ _ _ S5.r3
  have r2 := cell_of_row _ _ 2 _ _ _ S5.r3
  have r3 := cell_of_row _ _ 3 _ _ _ S5.r3
  rw [show (resC r A3 k3)[0]? = some (.int .u8 (r.code : Int)) from rfl] at r0
  rw [show (resC r A3 k3)[1]? = some (.int .u64 (r.n : Int)) from rfl] at r1
  rw [show (resC r A3 k3)[2]? = some (.string r.val) from rfl] at r2
  rw [show (resC r A3 k3)[3]? = some (.slice A3 r.rows.length k3) from rfl] at r3
  clear S5
  go_wp2_with fail
  refine (HX.out _ A3 k3 HS.out.l3).mono ?_
  rintro e w6 ⟨rfl, hb6⟩
  have HS6 := Lib.hid (HS.out.grow hb6)
  clear HS hb6 r0 r1 r2 r3 HX
  go_wp2_with fail
  refine (HAw.out _).mono ?_
  rintro e w7 ⟨rfl, hb7⟩
  have HS7 := Lib.hid (HS6.out.grow hb7)
  clear HS6 hb7
  go_wp2_with fail
  go_ret
  exact ⟨rfl, HS7.out.b⟩
set_option maxRecDepth 100000 in
set_option maxHeartbeats 8000000 in
theorem only_1001 (s t : ByteArray) (hk : 4000 < s.size) (ht : s.extract 0 4000 = t) (w : World) (c : Cm.Cmd) (o : Og.Oper) (r : Rs.Res)
    (HR : ∀ W, Calls Try.prog 19 #[.string t] W fun e w' => ∃ A cap, e = .returned (.tuple #[.agg (cmdC c A cap), .bool true]) ∧ Lies w' A (pc c.parts) ∧ Below W.heap.size W w')
    (HO : ∀ W, Calls Try.prog 21 #[.string t] W fun e w' => e = .returned (.tuple #[.agg (operC Og.Oper.zero), .bool false]) ∧ Below W.heap.size W w')
    (HP : ∀ W, Calls Try.prog 23 #[.string t] W fun e w' => ∃ A cap, e = .returned (.tuple #[.agg (resC r A cap), .bool false]) ∧ Lies w' A (rc r.rows) ∧ Below W.heap.size W w')
    (HW : ∀ W A cap, Lies W A (pc c.parts) → Calls Try.prog 10 #[.agg (cmdC c A cap)] W fun e w' => e = .returned (.string t) ∧ Below W.heap.size W w')
    (HX : ∀ W A cap, Lies W A (rc r.rows) → Calls Try.prog 26 #[.agg (resC r A cap), .agg (resC Rs.zero none 0)] W fun e w' => e = .returned (.bool true) ∧ Below W.heap.size W w') :
    Calls Try.prog 9 #[.string s] w fun e w' => e = .returned (.bool true) ∧ Below w.heap.size w w' := by
  have HR := Lib.hid HR
  have HO := Lib.hid HO
  have HP := Lib.hid HP
  have HW := Lib.hid HW
  have HX := Lib.hid HX
  have HAw := Lib.hid cmdAwake_any
  have HT := Lib.hid ht
  clear ht
  have htt : (t.toList == t.toList) = true := by simp
  go_enter Try.func9, Try.ntmps9
  go_wp2_with fail
  rw [HT.out]
  refine (HR.out _).mono ?_
  rintro e w1 ⟨A1, k1, rfl, hL1, hb1⟩
  have F1 := cmdF c A1 k1
  obtain ⟨P1, hP1⟩ : ∃ P, P = cmdC c A1 k1 := ⟨_, rfl⟩
  rw [← hP1] at F1 ⊢
  have H1 := Lib.hid (And.intro hP1 (And.intro hL1 hb1))
  have s1 := F1.size
  have hst1 := storeCmd P1 s1 F1.one
  clear hP1 hL1 hb1 F1 HR
  go_wp2_with fail
  refine (HO.out _).mono ?_
  rintro e w2 ⟨rfl, hb2⟩
  have s2 := operC_size Og.Oper.zero
  have o2 := operC_one Og.Oper.zero
  obtain ⟨P2, hP2⟩ : ∃ P, P = operC Og.Oper.zero := ⟨_, rfl⟩
  rw [← hP2] at s2 o2 ⊢
  have H2 := Lib.hid (And.intro hP2 hb2)
  have hst2 := storeOper P2 s2 o2
  clear hP2 hb2 o2 s1 hst1 HO
  go_wp2_with fail
  refine (HP.out _).mono ?_
  rintro e w3 ⟨A3, k3, rfl, hL3, hb3⟩
  have s3 : (resC r A3 k3).size = 4 := rfl
  have o3 : (resC r A3 k3).all (·.oneCell') = true := by simp [resC, Value.oneCell']
  obtain ⟨P3, hP3⟩ : ∃ P, P = resC r A3 k3 := ⟨_, rfl⟩
  rw [← hP3] at s3 o3 ⊢
  have H3 := Lib.hid (And.intro hP3 (And.intro hL3 hb3))
  have hst3 := storeRes P3 s3 o3
  clear hP3 hL3 hb3 o3 s2 hst2 HP
  go_upto_region 6 with (fail)
  have HS : OnS w (w3.alloc (.cells P3 42)) w1.heap.size w2.heap.size w3.heap.size c A1 k1 Og.Oper.zero r A3 k3 := by
    obtain ⟨e1, l1, b1⟩ := H1.out
    obtain ⟨e2, b2⟩ := H2.out
    obtain ⟨e3, l3, b3⟩ := H3.out
    exact OnS.make e1 l1 b1 e2 b2 e3 l3 b3
  refine forget (fun W => OnS w W w1.heap.size w2.heap.size w3.heap.size c A1 k1 Og.Oper.zero r A3 k3) HS ?_
  intro W S
  obtain ⟨q1, hq1⟩ : ∃ q, q = w1.heap.size := ⟨_, rfl⟩
  obtain ⟨q2, hq2⟩ : ∃ q, q = w2.heap.size := ⟨_, rfl⟩
  obtain ⟨q3, hq3⟩ : ∃ q, q = w3.heap.size := ⟨_, rfl⟩
  rw [← hq1, ← hq2, ← hq3] at S ⊢
  clear hq1 hq2 hq3 H1 H2 H3 HS hst3 s3
  obtain ⟨q0, q1, q2, q3, q4, q5, q6, q7, q8, q9, q10, q11, _⟩ := cmdAt S.h1.row
  have HS := Lib.hid S
  clear S
  go_wp2_with fail
  refine (HW.out _ A1 k1 HS.out.h1.lies).mono ?_
  rintro e w4 ⟨rfl, hb4⟩
  have S4 := HS.out.grow hb4
  clear HS hb4 q0 q1 q2 q3 q4 q5 q6 q7 q8 q9 q10 q11 HW
  obtain ⟨p0, p1, p2, p3, p4, p5, p6, p7, p8, p9, p10, p11, p12, p13, p14, p15, _⟩ := operAt S4.r2
  have HS := Lib.hid S4
  clear S4
  have hgo := guardOper
  have hne := tok_zero
  have S5 := HS.out
  have r0 := cell_of_row _ _ 0 _ _ _ S5.r3
  have r1 := cell_of_row _ _ 1 _ _ _ S5.r3
  have r2 := cell_of_row _ _ 2 _ _ _ S5.r3
  have r3 := cell_of_row _ _ 3 _ _ _ S5.r3
  rw [show (resC r A3 k3)[0]? = some (.int .u8 (r.code : Int)) from rfl] at r0
  rw [show (resC r A3 k3)[1]? = some (.int .u64 (r.n : Int)) from rfl] at r1
  rw [show (resC r A3 k3)[2]? = some (.string r.val) from rfl] at r2
  rw [show (resC r A3 k3)[3]? = some (.slice A3 r.rows.length k3) from rfl] at r3
  clear S5
  go_wp2_with fail
  refine (HX.out _ A3 k3 HS.out.l3).mono ?_
  rintro e w6 ⟨rfl, hb6⟩
  have HS6 := Lib.hid (HS.out.grow hb6)
  clear HS hb6 r0 r1 r2 r3 HX
  go_wp2_with fail
  refine (HAw.out _).mono ?_
  rintro e w7 ⟨rfl, hb7⟩
  have HS7 := Lib.hid (HS6.out.grow hb7)
  clear HS6 hb7
  go_wp2_with fail
  go_ret
  exact ⟨rfl, HS7.out.b⟩
set_option maxRecDepth 100000 in
set_option maxHeartbeats 8000000 in
theorem only_1000 (s t : ByteArray) (hk : s.size ≤ 4000) (ht : s = t) (w : World) (c : Cm.Cmd) (o : Og.Oper) (r : Rs.Res)
    (HR : ∀ W, Calls Try.prog 19 #[.string t] W fun e w' => ∃ A cap, e = .returned (.tuple #[.agg (cmdC c A cap), .bool true]) ∧ Lies w' A (pc c.parts) ∧ Below W.heap.size W w')
    (HO : ∀ W, Calls Try.prog 21 #[.string t] W fun e w' => e = .returned (.tuple #[.agg (operC Og.Oper.zero), .bool false]) ∧ Below W.heap.size W w')
    (HP : ∀ W, Calls Try.prog 23 #[.string t] W fun e w' => ∃ A cap, e = .returned (.tuple #[.agg (resC r A cap), .bool false]) ∧ Lies w' A (rc r.rows) ∧ Below W.heap.size W w')
    (HW : ∀ W A cap, Lies W A (pc c.parts) → Calls Try.prog 10 #[.agg (cmdC c A cap)] W fun e w' => e = .returned (.string t) ∧ Below W.heap.size W w')
    (HX : ∀ W A cap, Lies W A (rc r.rows) → Calls Try.prog 26 #[.agg (resC r A cap), .agg (resC Rs.zero none 0)] W fun e w' => e = .returned (.bool true) ∧ Below W.heap.size W w') :
    Calls Try.prog 9 #[.string s] w fun e w' => e = .returned (.bool true) ∧ Below w.heap.size w w' := by
  have HR := Lib.hid HR
  have HO := Lib.hid HO
  have HP := Lib.hid HP
  have HW := Lib.hid HW
  have HX := Lib.hid HX
  have HAw := Lib.hid cmdAwake_any
  subst ht
  have htt : (s.toList == s.toList) = true := by simp
  go_enter Try.func9, Try.ntmps9
  go_wp2_with fail
  refine (HR.out _).mono ?_
  rintro e w1 ⟨A1, k1, rfl, hL1, hb1⟩
  have F1 := cmdF c A1 k1
  obtain ⟨P1, hP1⟩ : ∃ P, P = cmdC c A1 k1 := ⟨_, rfl⟩
  rw [← hP1] at F1 ⊢
  have H1 := Lib.hid (And.intro hP1 (And.intro hL1 hb1))
  have s1 := F1.size
  have hst1 := storeCmd P1 s1 F1.one
  clear hP1 hL1 hb1 F1 HR
  go_wp2_with fail
  refine (HO.out _).mono ?_
  rintro e w2 ⟨rfl, hb2⟩
  have s2 := operC_size Og.Oper.zero
  have o2 := operC_one Og.Oper.zero
  obtain ⟨P2, hP2⟩ : ∃ P, P = operC Og.Oper.zero := ⟨_, rfl⟩
  rw [← hP2] at s2 o2 ⊢
  have H2 := Lib.hid (And.intro hP2 hb2)
  have hst2 := storeOper P2 s2 o2
  clear hP2 hb2 o2 s1 hst1 HO
  go_wp2_with fail
  refine (HP.out _).mono ?_
  rintro e w3 ⟨A3, k3, rfl, hL3, hb3⟩
  have s3 : (resC r A3 k3).size = 4 := rfl
  have o3 : (resC r A3 k3).all (·.oneCell') = true := by simp [resC, Value.oneCell']
  obtain ⟨P3, hP3⟩ : ∃ P, P = resC r A3 k3 := ⟨_, rfl⟩
  rw [← hP3] at s3 o3 ⊢
  have H3 := Lib.hid (And.intro hP3 (And.intro hL3 hb3))
  have hst3 := storeRes P3 s3 o3
  clear hP3 hL3 hb3 o3 s2 hst2 HP
  go_upto_region 6 with (fail)
  have HS : OnS w (w3.alloc (.cells P3 42)) w1.heap.size w2.heap.size w3.heap.size c A1 k1 Og.Oper.zero r A3 k3 := by
    obtain ⟨e1, l1, b1⟩ := H1.out
    obtain ⟨e2, b2⟩ := H2.out
    obtain ⟨e3, l3, b3⟩ := H3.out
    exact OnS.make e1 l1 b1 e2 b2 e3 l3 b3
  refine forget (fun W => OnS w W w1.heap.size w2.heap.size w3.heap.size c A1 k1 Og.Oper.zero r A3 k3) HS ?_
  intro W S
  obtain ⟨q1, hq1⟩ : ∃ q, q = w1.heap.size := ⟨_, rfl⟩
  obtain ⟨q2, hq2⟩ : ∃ q, q = w2.heap.size := ⟨_, rfl⟩
  obtain ⟨q3, hq3⟩ : ∃ q, q = w3.heap.size := ⟨_, rfl⟩
  rw [← hq1, ← hq2, ← hq3] at S ⊢
  clear hq1 hq2 hq3 H1 H2 H3 HS hst3 s3
  obtain ⟨q0, q1, q2, q3, q4, q5, q6, q7, q8, q9, q10, q11, _⟩ := cmdAt S.h1.row
  have HS := Lib.hid S
  clear S
  go_wp2_with fail
  refine (HW.out _ A1 k1 HS.out.h1.lies).mono ?_
  rintro e w4 ⟨rfl, hb4⟩
  have S4 := HS.out.grow hb4
  clear HS hb4 q0 q1 q2 q3 q4 q5 q6 q7 q8 q9 q10 q11 HW
  obtain ⟨p0, p1, p2, p3, p4, p5, p6, p7, p8, p9, p10, p11, p12, p13, p14, p15, _⟩ := operAt S4.r2
  have HS := Lib.hid S4
  clear S4
  have hgo := guardOper
  have hne := tok_zero
  have S5 := HS.out
  have r0 := cell_of_row _ _ 0 _ _ _ S5.r3
  have r1 := cell_of_row _ _ 1 _ _ _ S5.r3
  have r2 := cell_of_row _ _ 2 _ _ _ S5.r3
  have r3 := cell_of_row _ _ 3 _ _ _ S5.r3
  rw [show (resC r A3 k3)[0]? = some (.int .u8 (r.code : Int)) from rfl] at r0
  rw [show (resC r A3 k3)[1]? = some (.int .u64 (r.n : Int)) from rfl] at r1
  rw [show (resC r A3 k3)[2]? = some (.string r.val) from rfl] at r2
  rw [show (resC r A3 k3)[3]? = some (.slice A3 r.rows.length k3) from rfl] at r3
  clear S5
  go_wp2_with fail
  refine (HX.out _ A3 k3 HS.out.l3).mono ?_
  rintro e w6 ⟨rfl, hb6⟩
  have HS6 := Lib.hid (HS.out.grow hb6)
  clear HS hb6 r0 r1 r2 r3 HX
  go_wp2_with fail
  refine (HAw.out _).mono ?_
  rintro e w7 ⟨rfl, hb7⟩
  have HS7 := Lib.hid (HS6.out.grow hb7)
  clear HS6 hb7
  go_wp2_with fail
  go_ret
  exact ⟨rfl, HS7.out.b⟩
end Go.Proofs.Ytaebbmhjnhhemaa
