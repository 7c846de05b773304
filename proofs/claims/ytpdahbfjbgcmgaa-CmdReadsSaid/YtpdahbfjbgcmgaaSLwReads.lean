/-
  CmdReads walked. WRITTEN BY wip/tools/gen_lwreads.py.
-/
import Derived.Test.YtpdahbfjbgcmgaaSLaw
import Derived.Test.YtpdahbfjbgcmgaaSReg
import Derived.Test.YtpdahbfjbgcmgaaSOrRead
import Derived.Test.YtpdahbfjbgcmgaaSRsRd
import Derived.Test.YtpdahbfjbgcmgaaSRes
import Derived.Test.YtpdahbfjbgcmgaaSCall
import Derived.Test.YtpdahbfjbgcmgaaSOnMath
import Derived.Test.YtpdahbfjbgcmgaaSLwOthers
import Derived.Test.YtpdahbfjbgcmgaaSLwOnlyH
set_option linter.unusedSimpArgs false
set_option linter.unusedVariables false
namespace Go.Proofs.Ytpdahbfjbgcmgaa
open Go.RowKit
set_option linter.unusedVariables false
noncomputable def lwrC : Code := ((Try.f5.body.bind (Reg.findRegion 9)).getD .skip)
set_option maxRecDepth 100000 in
set_option maxHeartbeats 8000000 in
theorem lwr9 {c0 c1 c2 c15 c16 c17 c18 c19 c20 c21 c22 c23 c24 c25 c26 c27 c28 c29 c30 c31 c32 c33 c34 c35 c36 c37 c38 c39 c40 c41 c42 c43 c44 c45 c46 c47 c48 c49 c50 c51 c52 c53 c54 c55 c56 c57 c58 c59 c60 c61 c62 c63 c64 c65 c66 c67 c68 c69 c70 c71 c72 c73 c74 c75 c76 c77 c78 c79 c80 : Value} (b1 b2 b3 : Bool) (c : Cm.Cmd) (p : Og.Oper) (r : Rs.Res) (w W : World) (g1 g2 g3 g4 g5 g6 : Nat) (A1 A2 A5 A6 : Option Addr) (cap1 cap2 cap5 cap6 : Nat) (hb1 : (b1 == b1) = true) (hb2 : (b2 == b2) = true) (hb3 : (b3 == b3) = true)
    (HS : Hid (∀ (A B : Option Addr) (ca cb : Nat) (W : World), Lies W A (pc c.parts) → Lies W B (pc c.parts) → Calls Try.prog 31 #[.agg #[.int .u8 (c.op : Int), .int .u64 (c.ses : Int), .int .u64 (c.seq : Int), .string c.key, .string c.val, .string c.exp, .string c.frm, .string c.tto, .int .u8 (c.lim : Int), .int .u64 (c.lease : Int), .int .u64 (c.ttl : Int), .slice A c.parts.length ca], .agg #[.int .u8 (c.op : Int), .int .u64 (c.ses : Int), .int .u64 (c.seq : Int), .string c.key, .string c.val, .string c.exp, .string c.frm, .string c.tto, .int .u8 (c.lim : Int), .int .u64 (c.lease : Int), .int .u64 (c.ttl : Int), .slice B c.parts.length cb]] W fun e w' => e = .returned (.bool true) ∧ Below W.heap.size W w'))
    (HR : Hid (∀ (A B : Option Addr) (ca cb : Nat) (W : World), Lies W A (rc r.rows) → Lies W B (rc r.rows) → Calls Try.prog 32 #[.agg #[.int .u8 (r.code : Int), .int .u64 (r.n : Int), .string r.val, .slice A r.rows.length ca], .agg #[.int .u8 (r.code : Int), .int .u64 (r.n : Int), .string r.val, .slice B r.rows.length cb]] W fun e w' => e = .returned (.bool true) ∧ Below W.heap.size W w'))
    (Hoe : Hid (∀ W : World, (binOp .eql 33 (.agg #[.int .u8 (p.op : Int), .int .u8 (p.slot : Int), .int .u8 (p.tok.a0.toNat : Int), .int .u8 (p.tok.a1.toNat : Int), .int .u8 (p.tok.a2.toNat : Int), .int .u8 (p.tok.a3.toNat : Int), .int .u8 (p.tok.a4.toNat : Int), .int .u8 (p.tok.a5.toNat : Int), .int .u8 (p.tok.a6.toNat : Int), .int .u8 (p.tok.a7.toNat : Int), .int .u8 (p.role : Int), .int .i64 p.keys, .int .i64 p.bytes, .int .i64 p.rate, .int .i64 p.burst, .int .u8 (p.node : Int)]) (.agg #[.int .u8 (p.op : Int), .int .u8 (p.slot : Int), .int .u8 (p.tok.a0.toNat : Int), .int .u8 (p.tok.a1.toNat : Int), .int .u8 (p.tok.a2.toNat : Int), .int .u8 (p.tok.a3.toNat : Int), .int .u8 (p.tok.a4.toNat : Int), .int .u8 (p.tok.a5.toNat : Int), .int .u8 (p.tok.a6.toNat : Int), .int .u8 (p.tok.a7.toNat : Int), .int .u8 (p.role : Int), .int .i64 p.keys, .int .i64 p.bytes, .int .i64 p.rate, .int .i64 p.burst, .int .u8 (p.node : Int)])).run Try.prog W = .ok (.bool true) W))
    (HM : Hid (Below w.heap.size w W ∧ (W.heap[g1]? = some (.cells (cmdC c A1 cap1) 27 (0, 0)) ∧ Lies W A1 (pc c.parts)) ∧ (W.heap[g2]? = some (.cells (cmdC c A2 cap2) 27 (0, 0)) ∧ Lies W A2 (pc c.parts)) ∧ (W.heap[g3]? = some (.cells (operC p) 33 (0, 0))) ∧ (W.heap[g4]? = some (.cells (operC p) 33 (0, 0))) ∧ (W.heap[g5]? = some (.cells (resC r A5 cap5) 42 (0, 0)) ∧ Lies W A5 (rc r.rows)) ∧ (W.heap[g6]? = some (.cells (resC r A6 cap6) 42 (0, 0)) ∧ Lies W A6 (rc r.rows)))) (Q : Exit → Act → World → Prop)
    (hQ : ∀ (a' : Act) (w' : World), a'.tmps.getD 2 undef = .bool true → a'.defers = [] → Below w.heap.size w w' → Q .normal a' w') :
    Code.wp Try.prog lwrC Q ⟨#[c0, c1, c2, .pointer (some ⟨g1, 0, none⟩), .bool b1, .pointer (some ⟨g2, 0, none⟩), .bool b1, .pointer (some ⟨g3, 0, none⟩), .bool b2, .pointer (some ⟨g4, 0, none⟩), .bool b2, .pointer (some ⟨g5, 0, none⟩), .bool b3, .pointer (some ⟨g6, 0, none⟩), .bool b3, c15, c16, c17, c18, c19, c20, c21, c22, c23, c24, c25, c26, c27, c28, c29, c30, c31, c32, c33, c34, c35, c36, c37, c38, c39, c40, c41, c42, c43, c44, c45, c46, c47, c48, c49, c50, c51, c52, c53, c54, c55, c56, c57, c58, c59, c60, c61, c62, c63, c64, c65, c66, c67, c68, c69, c70, c71, c72, c73, c74, c75, c76, c77, c78, c79, c80], []⟩ W := by
  have HAw := Lib.hid cmdAwake_any
  conv => arg 2; whnf
  obtain ⟨_, hq1, hq2, hq3, hq4, hq5, hq6⟩ := HM.out
  obtain ⟨a0, a1, a2, a3, a4, a5, a6, a7, a8, a9, a10, a11, _⟩ := cmdAt hq1.1
  obtain ⟨x0, x1, x2, x3, x4, x5, x6, x7, x8, x9, x10, x11, _⟩ := cmdAt hq2.1
  clear hq1 hq2 hq3 hq4 hq5 hq6
  have hoe := Hoe.out
  go_wp2_with fail
  refine (HS.out _ _ _ _ _ HM.out.2.1.2 HM.out.2.2.1.2).mono ?_
  rintro e W7 ⟨rfl, hb7⟩
  have HB7 := Lib.hid hb7
  obtain ⟨h0, _, _, hq3, hq4, hq5, hq6⟩ := HM.out
  obtain ⟨n0, n1, n2, n3, n4, n5, n6, n7, n8, n9, n10, n11, n12, n13, n14, n15, _⟩ := operAt ((hb7.block _ (Array.getElem?_eq_some_iff.1 hq3).1).trans hq3)
  obtain ⟨m0, m1, m2, m3, m4, m5, m6, m7, m8, m9, m10, m11, m12, m13, m14, m15, _⟩ := operAt ((hb7.block _ (Array.getElem?_eq_some_iff.1 hq4).1).trans hq4)
  obtain ⟨r0, r1, r2, r3⟩ := resAt4 ((hb7.block _ (Array.getElem?_eq_some_iff.1 hq5.1).1).trans hq5.1)
  obtain ⟨t0, t1, t2, t3⟩ := resAt4 ((hb7.block _ (Array.getElem?_eq_some_iff.1 hq6.1).1).trans hq6.1)
  clear hb7 h0 hq3 hq4 hq5 hq6 a0 a1 a2 a3 a4 a5 a6 a7 a8 a9 a10 a11 x0 x1 x2 x3 x4 x5 x6 x7 x8 x9 x10 x11
  go_wp2_with fail
  refine (HR.out _ _ _ _ _ (HM.out.2.2.2.2.2.1.2.below HB7.out) (HM.out.2.2.2.2.2.2.2.below HB7.out)).mono ?_
  rintro e W8 ⟨rfl, hb8⟩
  have HB8 := Lib.hid (bnext (bnext HM.out.1 HB7.out) hb8)
  clear hb8
  go_wp2_with fail
  refine (HAw.out _).mono ?_
  rintro e W9 ⟨rfl, hb9⟩
  have HB9 := Lib.hid (bnext HB8.out hb9)
  clear hb9
  go_wp2_with fail
  exact hQ _ _ rfl rfl HB9.out
set_option maxRecDepth 100000 in
set_option maxHeartbeats 8000000 in
theorem cmdReads_at0 (s s' : ByteArray) (b1 b2 b3 : Bool) (c : Cm.Cmd) (p : Og.Oper) (r : Rs.Res) (hc : c.parts.length ≤ 100000) (hr : r.rows.length ≤ 100000) (w : World) (hl : s.size ≤ 4000 ∧ s = s')
    (H1 : Hid (∀ W, Calls Try.prog 25 #[.string s'] W fun e w' => ∃ A cap, e = .returned (.tuple #[.agg (cmdC c A cap), .bool b1]) ∧ Lies w' A (pc c.parts) ∧ Below W.heap.size W w'))
    (H2 : Hid (∀ W, Calls Try.prog 26 #[.string s'] W fun e w' => ∃ A cap, e = .returned (.tuple #[.agg (cmdC c A cap), .bool b1]) ∧ Lies w' A (pc c.parts) ∧ Below W.heap.size W w'))
    (H3 : Hid (∀ W, Calls Try.prog 27 #[.string s'] W fun e w' => e = .returned (.tuple #[.agg (operC p), .bool b2]) ∧ Below W.heap.size W w'))
    (H4 : Hid (∀ W, Calls Try.prog 28 #[.string s'] W fun e w' => e = .returned (.tuple #[.agg (operC p), .bool b2]) ∧ Below W.heap.size W w'))
    (H5 : Hid (∀ W, Calls Try.prog 29 #[.string s'] W fun e w' => ∃ A cap, e = .returned (.tuple #[.agg (resC r A cap), .bool b3]) ∧ Lies w' A (rc r.rows) ∧ Below W.heap.size W w'))
    (H6 : Hid (∀ W, Calls Try.prog 30 #[.string s'] W fun e w' => ∃ A cap, e = .returned (.tuple #[.agg (resC r A cap), .bool b3]) ∧ Lies w' A (rc r.rows) ∧ Below W.heap.size W w')) :
    Calls Try.prog 5 #[.string s] w fun e w' => e = .returned (.bool true) ∧ Below w.heap.size w w' := by
  have HAw := Lib.hid cmdAwake_any
  have hS := fun (A B : Option Addr) (ca cb : Nat) (W : World) (hA : Lies W A (pc c.parts)) (hB : Lies W B (pc c.parts)) => same_any c c A B ca cb W hA hB (by omega)
  rw [Cm.same_refl] at hS
  unfold cmdC at hS
  have hR := fun (A B : Option Addr) (ca cb : Nat) (W : World) (hA : Lies W A (rc r.rows)) (hB : Lies W B (rc r.rows)) => sameResult_any r r A B ca cb W hA hB (by omega)
  rw [show Rs.same r r = true from (Rs.same_iff r r).2 rfl] at hR
  unfold resC at hR
  have hoe := oper_eql p p
  rw [decide_eq_true rfl] at hoe
  unfold operC at hoe
  have HS := Lib.hid hS
  have HR := Lib.hid hR
  have Hoe := Lib.hid hoe
  have hb1 : (b1 == b1) = true := by cases b1 <;> rfl
  have hb2 : (b2 == b2) = true := by cases b2 <;> rfl
  have hb3 : (b3 == b3) = true := by cases b3 <;> rfl
  clear hc hr hS hR hoe
  obtain ⟨hk, rfl⟩ := hl
  have d3 : decide ((4000 : Int) < (s.size : Int)) = false := by simp; omega
  clear hk
  go_enter Try.func5, Try.ntmps5
  go_upto_region 3 with (fail)
  have HM : Hid (Below w.heap.size w w) := Lib.hid (Below.refl _ _)
  go_wp2_with fail
  refine (H1.out _).mono ?_
  rintro e V1 ⟨A1, cap1, rfl, hl, hb⟩
  have HV := Lib.hid (And.intro hb hl)
  have FP := cmdF c A1 cap1
  obtain ⟨P, hP⟩ : ∃ P, P = cmdC c A1 cap1 := ⟨_, rfl⟩
  rw [← hP] at FP ⊢
  have hst := storeCmd P FP.size FP.one
  have hps := FP.size
  have HP := Lib.hid hP
  clear hP FP hl hb
  go_upto_region 4 with (fail)
  refine forget (fun W => Below w.heap.size w W ∧ (W.heap[V1.heap.size]? = some (.cells (cmdC c A1 cap1) 27 (0, 0)) ∧ Lies W A1 (pc c.parts))) (by
    have hbb := bnew HV.out.1 (.cells P 27)
    exact ⟨bnext HM.out hbb, ⟨by rw [← HP.out]; exact heap_alloc_new V1 _, HV.out.2.below (bnew (Below.refl _ _) _)⟩⟩) ?_
  clear hst hps HV HP HM H1
  obtain ⟨g1, hg⟩ : ∃ g, g = V1.heap.size := ⟨_, rfl⟩
  rw [← hg]
  clear hg
  clear V1
  intro W1 hM
  have HM := Lib.hid hM
  clear hM
  go_wp2_with fail
  refine (H2.out _).mono ?_
  rintro e V2 ⟨A2, cap2, rfl, hl, hb⟩
  have HV := Lib.hid (And.intro hb hl)
  have FP := cmdF c A2 cap2
  obtain ⟨P, hP⟩ : ∃ P, P = cmdC c A2 cap2 := ⟨_, rfl⟩
  rw [← hP] at FP ⊢
  have hst := storeCmd P FP.size FP.one
  have hps := FP.size
  have HP := Lib.hid hP
  clear hP FP hl hb
  go_upto_region 5 with (fail)
  refine forget (fun W => Below w.heap.size w W ∧ (W.heap[g1]? = some (.cells (cmdC c A1 cap1) 27 (0, 0)) ∧ Lies W A1 (pc c.parts)) ∧ (W.heap[V2.heap.size]? = some (.cells (cmdC c A2 cap2) 27 (0, 0)) ∧ Lies W A2 (pc c.parts))) (by
    have hbb := bnew HV.out.1 (.cells P 27)
    exact ⟨bnext HM.out.1 hbb, ⟨(hbb.block _ (Array.getElem?_eq_some_iff.1 HM.out.2.1).1).trans HM.out.2.1, HM.out.2.2.below hbb⟩, ⟨by rw [← HP.out]; exact heap_alloc_new V2 _, HV.out.2.below (bnew (Below.refl _ _) _)⟩⟩) ?_
  clear hst hps HV HP HM H2
  obtain ⟨g2, hg⟩ : ∃ g, g = V2.heap.size := ⟨_, rfl⟩
  rw [← hg]
  clear hg
  clear V2
  intro W2 hM
  have HM := Lib.hid hM
  clear hM
  go_wp2_with fail
  refine (H3.out _).mono ?_
  rintro e V3 ⟨rfl, hb⟩
  have HV := Lib.hid hb
  obtain ⟨P, hP⟩ : ∃ P, P = operC p := ⟨_, rfl⟩
  have hps : P.size = 16 := by rw [hP]; rfl
  have hon : P.all (·.oneCell') = true := by rw [hP]; exact operC_one p
  rw [← hP]
  have hst := storeOper P hps hon
  have HP := Lib.hid hP
  clear hP hb hon
  go_upto_region 6 with (fail)
  refine forget (fun W => Below w.heap.size w W ∧ (W.heap[g1]? = some (.cells (cmdC c A1 cap1) 27 (0, 0)) ∧ Lies W A1 (pc c.parts)) ∧ (W.heap[g2]? = some (.cells (cmdC c A2 cap2) 27 (0, 0)) ∧ Lies W A2 (pc c.parts)) ∧ (W.heap[V3.heap.size]? = some (.cells (operC p) 33 (0, 0)))) (by
    have hbb := bnew HV.out (.cells P 33)
    exact ⟨bnext HM.out.1 hbb, ⟨(hbb.block _ (Array.getElem?_eq_some_iff.1 HM.out.2.1.1).1).trans HM.out.2.1.1, HM.out.2.1.2.below hbb⟩, ⟨(hbb.block _ (Array.getElem?_eq_some_iff.1 HM.out.2.2.1).1).trans HM.out.2.2.1, HM.out.2.2.2.below hbb⟩, (by rw [← HP.out]; exact heap_alloc_new V3 _)⟩) ?_
  clear hst hps HV HP HM H3
  obtain ⟨g3, hg⟩ : ∃ g, g = V3.heap.size := ⟨_, rfl⟩
  rw [← hg]
  clear hg
  clear V3
  intro W3 hM
  have HM := Lib.hid hM
  clear hM
  go_wp2_with fail
  refine (H4.out _).mono ?_
  rintro e V4 ⟨rfl, hb⟩
  have HV := Lib.hid hb
  obtain ⟨P, hP⟩ : ∃ P, P = operC p := ⟨_, rfl⟩
  have hps : P.size = 16 := by rw [hP]; rfl
  have hon : P.all (·.oneCell') = true := by rw [hP]; exact operC_one p
  rw [← hP]
  have hst := storeOper P hps hon
  have HP := Lib.hid hP
  clear hP hb hon
  go_upto_region 7 with (fail)
  refine forget (fun W => Below w.heap.size w W ∧ (W.heap[g1]? = some (.cells (cmdC c A1 cap1) 27 (0, 0)) ∧ Lies W A1 (pc c.parts)) ∧ (W.heap[g2]? = some (.cells (cmdC c A2 cap2) 27 (0, 0)) ∧ Lies W A2 (pc c.parts)) ∧ (W.heap[g3]? = some (.cells (operC p) 33 (0, 0))) ∧ (W.heap[V4.heap.size]? = some (.cells (operC p) 33 (0, 0)))) (by
    have hbb := bnew HV.out (.cells P 33)
    exact ⟨bnext HM.out.1 hbb, ⟨(hbb.block _ (Array.getElem?_eq_some_iff.1 HM.out.2.1.1).1).trans HM.out.2.1.1, HM.out.2.1.2.below hbb⟩, ⟨(hbb.block _ (Array.getElem?_eq_some_iff.1 HM.out.2.2.1.1).1).trans HM.out.2.2.1.1, HM.out.2.2.1.2.below hbb⟩, (hbb.block _ (Array.getElem?_eq_some_iff.1 HM.out.2.2.2).1).trans HM.out.2.2.2, (by rw [← HP.out]; exact heap_alloc_new V4 _)⟩) ?_
  clear hst hps HV HP HM H4
  obtain ⟨g4, hg⟩ : ∃ g, g = V4.heap.size := ⟨_, rfl⟩
  rw [← hg]
  clear hg
  clear V4
  intro W4 hM
  have HM := Lib.hid hM
  clear hM
  go_wp2_with fail
  refine (H5.out _).mono ?_
  rintro e V5 ⟨A5, cap5, rfl, hl, hb⟩
  have HV := Lib.hid (And.intro hb hl)
  obtain ⟨P, hP⟩ : ∃ P, P = resC r A5 cap5 := ⟨_, rfl⟩
  have hps : P.size = 4 := by rw [hP]; rfl
  have hon : P.all (·.oneCell') = true := by rw [hP]; simp [resC, Value.oneCell']
  rw [← hP]
  have hst := storeRes P hps hon
  have HP := Lib.hid hP
  clear hP hl hb hon
  go_upto_region 8 with (fail)
  refine forget (fun W => Below w.heap.size w W ∧ (W.heap[g1]? = some (.cells (cmdC c A1 cap1) 27 (0, 0)) ∧ Lies W A1 (pc c.parts)) ∧ (W.heap[g2]? = some (.cells (cmdC c A2 cap2) 27 (0, 0)) ∧ Lies W A2 (pc c.parts)) ∧ (W.heap[g3]? = some (.cells (operC p) 33 (0, 0))) ∧ (W.heap[g4]? = some (.cells (operC p) 33 (0, 0))) ∧ (W.heap[V5.heap.size]? = some (.cells (resC r A5 cap5) 42 (0, 0)) ∧ Lies W A5 (rc r.rows))) (by
    have hbb := bnew HV.out.1 (.cells P 42)
    exact ⟨bnext HM.out.1 hbb, ⟨(hbb.block _ (Array.getElem?_eq_some_iff.1 HM.out.2.1.1).1).trans HM.out.2.1.1, HM.out.2.1.2.below hbb⟩, ⟨(hbb.block _ (Array.getElem?_eq_some_iff.1 HM.out.2.2.1.1).1).trans HM.out.2.2.1.1, HM.out.2.2.1.2.below hbb⟩, (hbb.block _ (Array.getElem?_eq_some_iff.1 HM.out.2.2.2.1).1).trans HM.out.2.2.2.1, (hbb.block _ (Array.getElem?_eq_some_iff.1 HM.out.2.2.2.2).1).trans HM.out.2.2.2.2, ⟨by rw [← HP.out]; exact heap_alloc_new V5 _, HV.out.2.below (bnew (Below.refl _ _) _)⟩⟩) ?_
  clear hst hps HV HP HM H5
  obtain ⟨g5, hg⟩ : ∃ g, g = V5.heap.size := ⟨_, rfl⟩
  rw [← hg]
  clear hg
  clear V5
  intro W5 hM
  have HM := Lib.hid hM
  clear hM
  go_wp2_with fail
  refine (H6.out _).mono ?_
  rintro e V6 ⟨A6, cap6, rfl, hl, hb⟩
  have HV := Lib.hid (And.intro hb hl)
  obtain ⟨P, hP⟩ : ∃ P, P = resC r A6 cap6 := ⟨_, rfl⟩
  have hps : P.size = 4 := by rw [hP]; rfl
  have hon : P.all (·.oneCell') = true := by rw [hP]; simp [resC, Value.oneCell']
  rw [← hP]
  have hst := storeRes P hps hon
  have HP := Lib.hid hP
  clear hP hl hb hon
  go_upto_region 9 with (fail)
  refine forget (fun W => Below w.heap.size w W ∧ (W.heap[g1]? = some (.cells (cmdC c A1 cap1) 27 (0, 0)) ∧ Lies W A1 (pc c.parts)) ∧ (W.heap[g2]? = some (.cells (cmdC c A2 cap2) 27 (0, 0)) ∧ Lies W A2 (pc c.parts)) ∧ (W.heap[g3]? = some (.cells (operC p) 33 (0, 0))) ∧ (W.heap[g4]? = some (.cells (operC p) 33 (0, 0))) ∧ (W.heap[g5]? = some (.cells (resC r A5 cap5) 42 (0, 0)) ∧ Lies W A5 (rc r.rows)) ∧ (W.heap[V6.heap.size]? = some (.cells (resC r A6 cap6) 42 (0, 0)) ∧ Lies W A6 (rc r.rows))) (by
    have hbb := bnew HV.out.1 (.cells P 42)
    exact ⟨bnext HM.out.1 hbb, ⟨(hbb.block _ (Array.getElem?_eq_some_iff.1 HM.out.2.1.1).1).trans HM.out.2.1.1, HM.out.2.1.2.below hbb⟩, ⟨(hbb.block _ (Array.getElem?_eq_some_iff.1 HM.out.2.2.1.1).1).trans HM.out.2.2.1.1, HM.out.2.2.1.2.below hbb⟩, (hbb.block _ (Array.getElem?_eq_some_iff.1 HM.out.2.2.2.1).1).trans HM.out.2.2.2.1, (hbb.block _ (Array.getElem?_eq_some_iff.1 HM.out.2.2.2.2.1).1).trans HM.out.2.2.2.2.1, ⟨(hbb.block _ (Array.getElem?_eq_some_iff.1 HM.out.2.2.2.2.2.1).1).trans HM.out.2.2.2.2.2.1, HM.out.2.2.2.2.2.2.below hbb⟩, ⟨by rw [← HP.out]; exact heap_alloc_new V6 _, HV.out.2.below (bnew (Below.refl _ _) _)⟩⟩) ?_
  clear hst hps HV HP HM H6
  obtain ⟨g6, hg⟩ : ∃ g, g = V6.heap.size := ⟨_, rfl⟩
  rw [← hg]
  clear hg
  clear V6
  intro W6 hM
  have HM := Lib.hid hM
  clear hM
  refine lwr9 b1 b2 b3 c p r w _ g1 g2 g3 g4 g5 g6 A1 A2 A5 A6 cap1 cap2 cap5 cap6 hb1 hb2 hb3 HS HR Hoe HM _ ?_
  intro a' w' hres hd hb
  rename_i hK
  refine hK _ _ (wp_ret ?_)
  exact bodyPost_ret (results_tmp rfl _ _ _) hd ⟨by rw [hres], hb⟩
set_option maxRecDepth 100000 in
set_option maxHeartbeats 8000000 in
theorem cmdReads_at1 (s s' : ByteArray) (b1 b2 b3 : Bool) (c : Cm.Cmd) (p : Og.Oper) (r : Rs.Res) (hc : c.parts.length ≤ 100000) (hr : r.rows.length ≤ 100000) (w : World) (hl : 4000 < s.size ∧ s.extract 0 4000 = s')
    (H1 : Hid (∀ W, Calls Try.prog 25 #[.string s'] W fun e w' => ∃ A cap, e = .returned (.tuple #[.agg (cmdC c A cap), .bool b1]) ∧ Lies w' A (pc c.parts) ∧ Below W.heap.size W w'))
    (H2 : Hid (∀ W, Calls Try.prog 26 #[.string s'] W fun e w' => ∃ A cap, e = .returned (.tuple #[.agg (cmdC c A cap), .bool b1]) ∧ Lies w' A (pc c.parts) ∧ Below W.heap.size W w'))
    (H3 : Hid (∀ W, Calls Try.prog 27 #[.string s'] W fun e w' => e = .returned (.tuple #[.agg (operC p), .bool b2]) ∧ Below W.heap.size W w'))
    (H4 : Hid (∀ W, Calls Try.prog 28 #[.string s'] W fun e w' => e = .returned (.tuple #[.agg (operC p), .bool b2]) ∧ Below W.heap.size W w'))
    (H5 : Hid (∀ W, Calls Try.prog 29 #[.string s'] W fun e w' => ∃ A cap, e = .returned (.tuple #[.agg (resC r A cap), .bool b3]) ∧ Lies w' A (rc r.rows) ∧ Below W.heap.size W w'))
    (H6 : Hid (∀ W, Calls Try.prog 30 #[.string s'] W fun e w' => ∃ A cap, e = .returned (.tuple #[.agg (resC r A cap), .bool b3]) ∧ Lies w' A (rc r.rows) ∧ Below W.heap.size W w')) :
    Calls Try.prog 5 #[.string s] w fun e w' => e = .returned (.bool true) ∧ Below w.heap.size w w' := by
  have HAw := Lib.hid cmdAwake_any
  have hS := fun (A B : Option Addr) (ca cb : Nat) (W : World) (hA : Lies W A (pc c.parts)) (hB : Lies W B (pc c.parts)) => same_any c c A B ca cb W hA hB (by omega)
  rw [Cm.same_refl] at hS
  unfold cmdC at hS
  have hR := fun (A B : Option Addr) (ca cb : Nat) (W : World) (hA : Lies W A (rc r.rows)) (hB : Lies W B (rc r.rows)) => sameResult_any r r A B ca cb W hA hB (by omega)
  rw [show Rs.same r r = true from (Rs.same_iff r r).2 rfl] at hR
  unfold resC at hR
  have hoe := oper_eql p p
  rw [decide_eq_true rfl] at hoe
  unfold operC at hoe
  have HS := Lib.hid hS
  have HR := Lib.hid hR
  have Hoe := Lib.hid hoe
  have hb1 : (b1 == b1) = true := by cases b1 <;> rfl
  have hb2 : (b2 == b2) = true := by cases b2 <;> rfl
  have hb3 : (b3 == b3) = true := by cases b3 <;> rfl
  clear hc hr hS hR hoe
  obtain ⟨hk, hss⟩ := hl
  have d3 : decide ((4000 : Int) < (s.size : Int)) = true := by simp; omega
  have d3' : (4000 : Int) ≤ (s.size : Int) := by omega
  have HSS := Lib.hid hss
  clear hk hss
  go_enter Try.func5, Try.ntmps5
  go_upto_region 3 with (fail)
  rw [HSS.out]
  have HM : Hid (Below w.heap.size w w) := Lib.hid (Below.refl _ _)
  go_wp2_with fail
  refine (H1.out _).mono ?_
  rintro e V1 ⟨A1, cap1, rfl, hl, hb⟩
  have HV := Lib.hid (And.intro hb hl)
  have FP := cmdF c A1 cap1
  obtain ⟨P, hP⟩ : ∃ P, P = cmdC c A1 cap1 := ⟨_, rfl⟩
  rw [← hP] at FP ⊢
  have hst := storeCmd P FP.size FP.one
  have hps := FP.size
  have HP := Lib.hid hP
  clear hP FP hl hb
  go_upto_region 4 with (fail)
  refine forget (fun W => Below w.heap.size w W ∧ (W.heap[V1.heap.size]? = some (.cells (cmdC c A1 cap1) 27 (0, 0)) ∧ Lies W A1 (pc c.parts))) (by
    have hbb := bnew HV.out.1 (.cells P 27)
    exact ⟨bnext HM.out hbb, ⟨by rw [← HP.out]; exact heap_alloc_new V1 _, HV.out.2.below (bnew (Below.refl _ _) _)⟩⟩) ?_
  clear hst hps HV HP HM H1
  obtain ⟨g1, hg⟩ : ∃ g, g = V1.heap.size := ⟨_, rfl⟩
  rw [← hg]
  clear hg
  clear V1
  intro W1 hM
  have HM := Lib.hid hM
  clear hM
  go_wp2_with fail
  refine (H2.out _).mono ?_
  rintro e V2 ⟨A2, cap2, rfl, hl, hb⟩
  have HV := Lib.hid (And.intro hb hl)
  have FP := cmdF c A2 cap2
  obtain ⟨P, hP⟩ : ∃ P, P = cmdC c A2 cap2 := ⟨_, rfl⟩
  rw [← hP] at FP ⊢
  have hst := storeCmd P FP.size FP.one
  have hps := FP.size
  have HP := Lib.hid hP
  clear hP FP hl hb
  go_upto_region 5 with (fail)
  refine forget (fun W => Below w.heap.size w W ∧ (W.heap[g1]? = some (.cells (cmdC c A1 cap1) 27 (0, 0)) ∧ Lies W A1 (pc c.parts)) ∧ (W.heap[V2.heap.size]? = some (.cells (cmdC c A2 cap2) 27 (0, 0)) ∧ Lies W A2 (pc c.parts))) (by
    have hbb := bnew HV.out.1 (.cells P 27)
    exact ⟨bnext HM.out.1 hbb, ⟨(hbb.block _ (Array.getElem?_eq_some_iff.1 HM.out.2.1).1).trans HM.out.2.1, HM.out.2.2.below hbb⟩, ⟨by rw [← HP.out]; exact heap_alloc_new V2 _, HV.out.2.below (bnew (Below.refl _ _) _)⟩⟩) ?_
  clear hst hps HV HP HM H2
  obtain ⟨g2, hg⟩ : ∃ g, g = V2.heap.size := ⟨_, rfl⟩
  rw [← hg]
  clear hg
  clear V2
  intro W2 hM
  have HM := Lib.hid hM
  clear hM
  go_wp2_with fail
  refine (H3.out _).mono ?_
  rintro e V3 ⟨rfl, hb⟩
  have HV := Lib.hid hb
  obtain ⟨P, hP⟩ : ∃ P, P = operC p := ⟨_, rfl⟩
  have hps : P.size = 16 := by rw [hP]; rfl
  have hon : P.all (·.oneCell') = true := by rw [hP]; exact operC_one p
  rw [← hP]
  have hst := storeOper P hps hon
  have HP := Lib.hid hP
  clear hP hb hon
  go_upto_region 6 with (fail)
  refine forget (fun W => Below w.heap.size w W ∧ (W.heap[g1]? = some (.cells (cmdC c A1 cap1) 27 (0, 0)) ∧ Lies W A1 (pc c.parts)) ∧ (W.heap[g2]? = some (.cells (cmdC c A2 cap2) 27 (0, 0)) ∧ Lies W A2 (pc c.parts)) ∧ (W.heap[V3.heap.size]? = some (.cells (operC p) 33 (0, 0)))) (by
    have hbb := bnew HV.out (.cells P 33)
    exact ⟨bnext HM.out.1 hbb, ⟨(hbb.block _ (Array.getElem?_eq_some_iff.1 HM.out.2.1.1).1).trans HM.out.2.1.1, HM.out.2.1.2.below hbb⟩, ⟨(hbb.block _ (Array.getElem?_eq_some_iff.1 HM.out.2.2.1).1).trans HM.out.2.2.1, HM.out.2.2.2.below hbb⟩, (by rw [← HP.out]; exact heap_alloc_new V3 _)⟩) ?_
  clear hst hps HV HP HM H3
  obtain ⟨g3, hg⟩ : ∃ g, g = V3.heap.size := ⟨_, rfl⟩
  rw [← hg]
  clear hg
  clear V3
  intro W3 hM
  have HM := Lib.hid hM
  clear hM
  go_wp2_with fail
  refine (H4.out _).mono ?_
  rintro e V4 ⟨rfl, hb⟩
  have HV := Lib.hid hb
  obtain ⟨P, hP⟩ : ∃ P, P = operC p := ⟨_, rfl⟩
  have hps : P.size = 16 := by rw [hP]; rfl
  have hon : P.all (·.oneCell') = true := by rw [hP]; exact operC_one p
  rw [← hP]
  have hst := storeOper P hps hon
  have HP := Lib.hid hP
  clear hP hb hon
  go_upto_region 7 with (fail)
  refine forget (fun W => Below w.heap.size w W ∧ (W.heap[g1]? = some (.cells (cmdC c A1 cap1) 27 (0, 0)) ∧ Lies W A1 (pc c.parts)) ∧ (W.heap[g2]? = some (.cells (cmdC c A2 cap2) 27 (0, 0)) ∧ Lies W A2 (pc c.parts)) ∧ (W.heap[g3]? = some (.cells (operC p) 33 (0, 0))) ∧ (W.heap[V4.heap.size]? = some (.cells (operC p) 33 (0, 0)))) (by
    have hbb := bnew HV.out (.cells P 33)
    exact ⟨bnext HM.out.1 hbb, ⟨(hbb.block _ (Array.getElem?_eq_some_iff.1 HM.out.2.1.1).1).trans HM.out.2.1.1, HM.out.2.1.2.below hbb⟩, ⟨(hbb.block _ (Array.getElem?_eq_some_iff.1 HM.out.2.2.1.1).1).trans HM.out.2.2.1.1, HM.out.2.2.1.2.below hbb⟩, (hbb.block _ (Array.getElem?_eq_some_iff.1 HM.out.2.2.2).1).trans HM.out.2.2.2, (by rw [← HP.out]; exact heap_alloc_new V4 _)⟩) ?_
  clear hst hps HV HP HM H4
  obtain ⟨g4, hg⟩ : ∃ g, g = V4.heap.size := ⟨_, rfl⟩
  rw [← hg]
  clear hg
  clear V4
  intro W4 hM
  have HM := Lib.hid hM
  clear hM
  go_wp2_with fail
  refine (H5.out _).mono ?_
  rintro e V5 ⟨A5, cap5, rfl, hl, hb⟩
  have HV := Lib.hid (And.intro hb hl)
  obtain ⟨P, hP⟩ : ∃ P, P = resC r A5 cap5 := ⟨_, rfl⟩
  have hps : P.size = 4 := by rw [hP]; rfl
  have hon : P.all (·.oneCell') = true := by rw [hP]; simp [resC, Value.oneCell']
  rw [← hP]
  have hst := storeRes P hps hon
  have HP := Lib.hid hP
  clear hP hl hb hon
  go_upto_region 8 with (fail)
  refine forget (fun W => Below w.heap.size w W ∧ (W.heap[g1]? = some (.cells (cmdC c A1 cap1) 27 (0, 0)) ∧ Lies W A1 (pc c.parts)) ∧ (W.heap[g2]? = some (.cells (cmdC c A2 cap2) 27 (0, 0)) ∧ Lies W A2 (pc c.parts)) ∧ (W.heap[g3]? = some (.cells (operC p) 33 (0, 0))) ∧ (W.heap[g4]? = some (.cells (operC p) 33 (0, 0))) ∧ (W.heap[V5.heap.size]? = some (.cells (resC r A5 cap5) 42 (0, 0)) ∧ Lies W A5 (rc r.rows))) (by
    have hbb := bnew HV.out.1 (.cells P 42)
    exact ⟨bnext HM.out.1 hbb, ⟨(hbb.block _ (Array.getElem?_eq_some_iff.1 HM.out.2.1.1).1).trans HM.out.2.1.1, HM.out.2.1.2.below hbb⟩, ⟨(hbb.block _ (Array.getElem?_eq_some_iff.1 HM.out.2.2.1.1).1).trans HM.out.2.2.1.1, HM.out.2.2.1.2.below hbb⟩, (hbb.block _ (Array.getElem?_eq_some_iff.1 HM.out.2.2.2.1).1).trans HM.out.2.2.2.1, (hbb.block _ (Array.getElem?_eq_some_iff.1 HM.out.2.2.2.2).1).trans HM.out.2.2.2.2, ⟨by rw [← HP.out]; exact heap_alloc_new V5 _, HV.out.2.below (bnew (Below.refl _ _) _)⟩⟩) ?_
  clear hst hps HV HP HM H5
  obtain ⟨g5, hg⟩ : ∃ g, g = V5.heap.size := ⟨_, rfl⟩
  rw [← hg]
  clear hg
  clear V5
  intro W5 hM
  have HM := Lib.hid hM
  clear hM
  go_wp2_with fail
  refine (H6.out _).mono ?_
  rintro e V6 ⟨A6, cap6, rfl, hl, hb⟩
  have HV := Lib.hid (And.intro hb hl)
  obtain ⟨P, hP⟩ : ∃ P, P = resC r A6 cap6 := ⟨_, rfl⟩
  have hps : P.size = 4 := by rw [hP]; rfl
  have hon : P.all (·.oneCell') = true := by rw [hP]; simp [resC, Value.oneCell']
  rw [← hP]
  have hst := storeRes P hps hon
  have HP := Lib.hid hP
  clear hP hl hb hon
  go_upto_region 9 with (fail)
  refine forget (fun W => Below w.heap.size w W ∧ (W.heap[g1]? = some (.cells (cmdC c A1 cap1) 27 (0, 0)) ∧ Lies W A1 (pc c.parts)) ∧ (W.heap[g2]? = some (.cells (cmdC c A2 cap2) 27 (0, 0)) ∧ Lies W A2 (pc c.parts)) ∧ (W.heap[g3]? = some (.cells (operC p) 33 (0, 0))) ∧ (W.heap[g4]? = some (.cells (operC p) 33 (0, 0))) ∧ (W.heap[g5]? = some (.cells (resC r A5 cap5) 42 (0, 0)) ∧ Lies W A5 (rc r.rows)) ∧ (W.heap[V6.heap.size]? = some (.cells (resC r A6 cap6) 42 (0, 0)) ∧ Lies W A6 (rc r.rows))) (by
    have hbb := bnew HV.out.1 (.cells P 42)
    exact ⟨bnext HM.out.1 hbb, ⟨(hbb.block _ (Array.getElem?_eq_some_iff.1 HM.out.2.1.1).1).trans HM.out.2.1.1, HM.out.2.1.2.below hbb⟩, ⟨(hbb.block _ (Array.getElem?_eq_some_iff.1 HM.out.2.2.1.1).1).trans HM.out.2.2.1.1, HM.out.2.2.1.2.below hbb⟩, (hbb.block _ (Array.getElem?_eq_some_iff.1 HM.out.2.2.2.1).1).trans HM.out.2.2.2.1, (hbb.block _ (Array.getElem?_eq_some_iff.1 HM.out.2.2.2.2.1).1).trans HM.out.2.2.2.2.1, ⟨(hbb.block _ (Array.getElem?_eq_some_iff.1 HM.out.2.2.2.2.2.1).1).trans HM.out.2.2.2.2.2.1, HM.out.2.2.2.2.2.2.below hbb⟩, ⟨by rw [← HP.out]; exact heap_alloc_new V6 _, HV.out.2.below (bnew (Below.refl _ _) _)⟩⟩) ?_
  clear hst hps HV HP HM H6
  obtain ⟨g6, hg⟩ : ∃ g, g = V6.heap.size := ⟨_, rfl⟩
  rw [← hg]
  clear hg
  clear V6
  intro W6 hM
  have HM := Lib.hid hM
  clear hM
  refine lwr9 b1 b2 b3 c p r w _ g1 g2 g3 g4 g5 g6 A1 A2 A5 A6 cap1 cap2 cap5 cap6 hb1 hb2 hb3 HS HR Hoe HM _ ?_
  intro a' w' hres hd hb
  rename_i hK
  refine hK _ _ (wp_ret ?_)
  exact bodyPost_ret (results_tmp rfl _ _ _) hd ⟨by rw [hres], hb⟩
theorem cmdReads_walk (s : ByteArray) (_w : s.size ≤ maxLen) (w : World) :
    Calls Try.prog 5 #[.string s] w fun e w' => e = .returned (.bool true) ∧ Below w.heap.size w w' := by
  have key : ∀ s' : ByteArray, s'.size ≤ 4000 → (4000 < s.size ∧ s.extract 0 4000 = s' ∨ s.size ≤ 4000 ∧ s = s') → Calls Try.prog 5 #[.string s] w fun e w' => e = .returned (.bool true) ∧ Below w.heap.size w w' := by
    intro s' hz hl
    have hc : ((Cm.read s'.data.toList).getD Cm.zero).parts.length ≤ 100000 := by
      rcases hr : Cm.read s'.data.toList with _ | c
      · exact Nat.zero_le _
      · have := ((Cm.read_iff _ _).1 hr).1.len
        show c.parts.length ≤ 100000
        omega
    have hr : ((Rs.read s'.data.toList).getD Rs.zero).rows.length ≤ 100000 := by
      rcases hr : Rs.read s'.data.toList with _ | c
      · exact Nat.zero_le _
      · have h3 := (Rs.read_iff _ _).1 hr
        have := (res_short h3.1 (by rw [← h3.2, ← Lib.size_eq]; omega)).2.2.1
        show c.rows.length ≤ 100000
        omega
    rcases hl with hl | hl
    · exact cmdReads_at1 s s' _ _ _ _ _ _ hc hr w hl (Lib.hid fun W => cmdRead_any s' W (by omega)) (Lib.hid fun W => read_any s' W (by omega)) (Lib.hid fun W => oread_any s' W (by omega)) (Lib.hid fun W => refReadOper_any s' W (by omega)) (Lib.hid fun W => cmdReadRes_any s' W (by omega)) (Lib.hid fun W => refReadRes_any s' W (by omega))
    · exact cmdReads_at0 s s' _ _ _ _ _ _ hc hr w hl (Lib.hid fun W => cmdRead_any s' W (by omega)) (Lib.hid fun W => read_any s' W (by omega)) (Lib.hid fun W => oread_any s' W (by omega)) (Lib.hid fun W => refReadOper_any s' W (by omega)) (Lib.hid fun W => cmdReadRes_any s' W (by omega)) (Lib.hid fun W => refReadRes_any s' W (by omega))
  by_cases hk : 4000 < s.size
  · exact key (s.extract 0 4000) (by rw [ByteArray.size_extract]; omega) (.inl ⟨hk, rfl⟩)
  · exact key s (by omega) (.inr ⟨by omega, rfl⟩)
end Go.Proofs.Ytpdahbfjbgcmgaa
