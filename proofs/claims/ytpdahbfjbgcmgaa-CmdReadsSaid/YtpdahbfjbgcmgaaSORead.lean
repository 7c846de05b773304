/-
  cmd.ReadOper walked. WRITTEN BY wip/tools/gen_oread.py.
-/
import Derived.Test.YtpdahbfjbgcmgaaSOWrite
import Derived.Test.YtpdahbfjbgcmgaaSCall
set_option linter.unusedSimpArgs false
set_option linter.unusedVariables false
namespace Go.Proofs.Ytpdahbfjbgcmgaa
open Go.RowKit
theorem operPut {W : World} {g : Nat} {z x : Og.Oper} (h : W.heap[g]? = some (.cells (operC z) 33 (0, 0))) :
    (((((((((((((((((W).setCell ⟨g, 0, none⟩ (.int .u8 (x.op : Int))).setCell ⟨g, 1, none⟩ (.int .u8 (x.slot : Int))).setCell ⟨g, 2, none⟩ (.int .u8 (x.tok.a0.toNat : Int))).setCell ⟨g, 3, none⟩ (.int .u8 (x.tok.a1.toNat : Int))).setCell ⟨g, 4, none⟩ (.int .u8 (x.tok.a2.toNat : Int))).setCell ⟨g, 5, none⟩ (.int .u8 (x.tok.a3.toNat : Int))).setCell ⟨g, 6, none⟩ (.int .u8 (x.tok.a4.toNat : Int))).setCell ⟨g, 7, none⟩ (.int .u8 (x.tok.a5.toNat : Int))).setCell ⟨g, 8, none⟩ (.int .u8 (x.tok.a6.toNat : Int))).setCell ⟨g, 9, none⟩ (.int .u8 (x.tok.a7.toNat : Int))).setCell ⟨g, 10, none⟩ (.int .u8 (x.role : Int))).setCell ⟨g, 11, none⟩ (.int .i64 x.keys)).setCell ⟨g, 12, none⟩ (.int .i64 x.bytes)).setCell ⟨g, 13, none⟩ (.int .i64 x.rate)).setCell ⟨g, 14, none⟩ (.int .i64 x.burst)).setCell ⟨g, 15, none⟩ (.int .u8 (x.node : Int))).heap[g]? = some (.cells (operC x) 33 (0, 0)) := by
  have l : Loc W (g + 1) none g (operC z) 33 := ⟨h, by omega, by simp⟩
  have h8 := (((((((((((((((((l).put 0 (.int .u8 (x.op : Int)) rfl).put 1 (.int .u8 (x.slot : Int)) rfl).put 2 (.int .u8 (x.tok.a0.toNat : Int)) rfl).put 3 (.int .u8 (x.tok.a1.toNat : Int)) rfl).put 4 (.int .u8 (x.tok.a2.toNat : Int)) rfl).put 5 (.int .u8 (x.tok.a3.toNat : Int)) rfl).put 6 (.int .u8 (x.tok.a4.toNat : Int)) rfl).put 7 (.int .u8 (x.tok.a5.toNat : Int)) rfl).put 8 (.int .u8 (x.tok.a6.toNat : Int)) rfl).put 9 (.int .u8 (x.tok.a7.toNat : Int)) rfl).put 10 (.int .u8 (x.role : Int)) rfl).put 11 (.int .i64 x.keys) rfl).put 12 (.int .i64 x.bytes) rfl).put 13 (.int .i64 x.rate) rfl).put 14 (.int .i64 x.burst) rfl).put 15 (.int .u8 (x.node : Int)) rfl).row
  rw [show (((((((((((((((((operC z)).setIfInBounds 0 (.int .u8 (x.op : Int))).setIfInBounds 1 (.int .u8 (x.slot : Int))).setIfInBounds 2 (.int .u8 (x.tok.a0.toNat : Int))).setIfInBounds 3 (.int .u8 (x.tok.a1.toNat : Int))).setIfInBounds 4 (.int .u8 (x.tok.a2.toNat : Int))).setIfInBounds 5 (.int .u8 (x.tok.a3.toNat : Int))).setIfInBounds 6 (.int .u8 (x.tok.a4.toNat : Int))).setIfInBounds 7 (.int .u8 (x.tok.a5.toNat : Int))).setIfInBounds 8 (.int .u8 (x.tok.a6.toNat : Int))).setIfInBounds 9 (.int .u8 (x.tok.a7.toNat : Int))).setIfInBounds 10 (.int .u8 (x.role : Int))).setIfInBounds 11 (.int .i64 x.keys)).setIfInBounds 12 (.int .i64 x.bytes)).setIfInBounds 13 (.int .i64 x.rate)).setIfInBounds 14 (.int .i64 x.burst)).setIfInBounds 15 (.int .u8 (x.node : Int)) = operC x by simp [operC]] at h8
  exact h8
theorem operBelow {W w : World} {B g : Nat} {x : Og.Oper} (h : Below B w W) (hg : B ≤ g) : Below B w (((((((((((((((((W).setCell ⟨g, 0, none⟩ (.int .u8 (x.op : Int))).setCell ⟨g, 1, none⟩ (.int .u8 (x.slot : Int))).setCell ⟨g, 2, none⟩ (.int .u8 (x.tok.a0.toNat : Int))).setCell ⟨g, 3, none⟩ (.int .u8 (x.tok.a1.toNat : Int))).setCell ⟨g, 4, none⟩ (.int .u8 (x.tok.a2.toNat : Int))).setCell ⟨g, 5, none⟩ (.int .u8 (x.tok.a3.toNat : Int))).setCell ⟨g, 6, none⟩ (.int .u8 (x.tok.a4.toNat : Int))).setCell ⟨g, 7, none⟩ (.int .u8 (x.tok.a5.toNat : Int))).setCell ⟨g, 8, none⟩ (.int .u8 (x.tok.a6.toNat : Int))).setCell ⟨g, 9, none⟩ (.int .u8 (x.tok.a7.toNat : Int))).setCell ⟨g, 10, none⟩ (.int .u8 (x.role : Int))).setCell ⟨g, 11, none⟩ (.int .i64 x.keys)).setCell ⟨g, 12, none⟩ (.int .i64 x.bytes)).setCell ⟨g, 13, none⟩ (.int .i64 x.rate)).setCell ⟨g, 14, none⟩ (.int .i64 x.burst)).setCell ⟨g, 15, none⟩ (.int .u8 (x.node : Int))) :=
  ((((((((((((((((h).setCell (p := ⟨g, 0, none⟩) hg _).setCell (p := ⟨g, 1, none⟩) hg _).setCell (p := ⟨g, 2, none⟩) hg _).setCell (p := ⟨g, 3, none⟩) hg _).setCell (p := ⟨g, 4, none⟩) hg _).setCell (p := ⟨g, 5, none⟩) hg _).setCell (p := ⟨g, 6, none⟩) hg _).setCell (p := ⟨g, 7, none⟩) hg _).setCell (p := ⟨g, 8, none⟩) hg _).setCell (p := ⟨g, 9, none⟩) hg _).setCell (p := ⟨g, 10, none⟩) hg _).setCell (p := ⟨g, 11, none⟩) hg _).setCell (p := ⟨g, 12, none⟩) hg _).setCell (p := ⟨g, 13, none⟩) hg _).setCell (p := ⟨g, 14, none⟩) hg _).setCell (p := ⟨g, 15, none⟩) hg _
/-- What ReadOper comes to. -/
def Wk.oin (l : List UInt8) : Option Og.Oper := if (Wk.rA.oper ⟨l, false⟩ Og.Oper.zero).2.bad = false ∧ (Wk.rA.oper ⟨l, false⟩ Og.Oper.zero).2.l = [] then some (Wk.rA.oper ⟨l, false⟩ Og.Oper.zero).1 else none
def RetOp (o : Option Og.Oper) (w : World) (e : Ending) (w' : World) : Prop :=
  e = .returned (.tuple #[.agg (operC (o.getD Og.Oper.zero)), .bool o.isSome]) ∧ Below w.heap.size w w'
theorem Og.zero_fits : Og.Fits Og.Oper.zero := ⟨by decide, by decide, by decide, by decide, by decide, by decide, by decide, by decide⟩
set_option maxRecDepth 100000 in
set_option maxHeartbeats 4000000 in
theorem oread_any (s : ByteArray) (w : World) (hs : s.size ≤ 10000000) :
    Calls Try.prog 27 #[.string s] w (RetOp (Wk.oin s.data.toList) w) := by
  have hW0 : ∀ a : Obj, RdAt (w.heap.size + 1) ((w.alloc a).alloc (.cells #[.string s, .bool false] 94)) (w.heap.size + 1) none ⟨s.data.toList, false⟩ := fun a => by
    have := RdAt.new (w.alloc a) (w.heap.size + 1) (by simp) s
    rw [World.size_alloc] at this
    exact this
  have hwc := woper_any (rdK (w.heap.size + 1)) (rdKK _) _ _ _ _ Og.Oper.zero (hW0 (.cells (operC Og.Oper.zero) 33)) (by simp only; rw [← Lib.size_eq]; omega) Og.zero_fits
  have hz0 : ((w.alloc (.cells (operC Og.Oper.zero) 33)).alloc (.cells #[.string s, .bool false] 94)).heap[w.heap.size]? = some (.cells (operC Og.Oper.zero) 33 (0, 0)) := (Below.heap_alloc _ _ _ (by simp)).trans (heap_alloc_new w _)
  have Hz0 := Lib.hid hz0
  have hinn : Wk.oin s.data.toList = if (Wk.rA.oper ⟨s.data.toList, false⟩ Og.Oper.zero).2.bad = false ∧ (Wk.rA.oper ⟨s.data.toList, false⟩ Og.Oper.zero).2.l = [] then some (Wk.rA.oper ⟨s.data.toList, false⟩ Og.Oper.zero).1 else none := rfl
  generalize Wk.rA.oper ⟨s.data.toList, false⟩ Og.Oper.zero = r at hwc hinn
  obtain ⟨u, st⟩ := r
  simp only at hwc hinn
  have Hwc := Lib.hid hwc
  have Hinn := Lib.hid hinn
  generalize Wk.oin s.data.toList = ans at Hinn ⊢
  clear hwc hinn hz0 hW0
  go_enter Try.func27, Try.ntmps27
  go_wp2_with fail
  refine Hwc.out.mono ?_
  rintro e w1 ⟨rfl, o1, hA1, hK1⟩
  have hp := operC_size u
  have hp1 := operC_one u
  obtain ⟨P, hP⟩ : ∃ P, P = operC u := ⟨_, rfl⟩
  rw [← hP] at hp hp1 ⊢
  have HP := Lib.hid hP
  have hst := storeOper P hp hp1
  have HM := Lib.hid (And.intro hA1 hK1)
  clear hP hA1 hK1 Hwc
  go_upto_region 3 with (fail)
  refine forget (fun W => Below w.heap.size w W ∧ W.heap[w.heap.size]? = some (.cells (operC Og.Oper.zero) 33 (0, 0)) ∧ W.heap[w1.heap.size]? = some (.cells P 33 (0, 0)) ∧ w.heap.size < w1.heap.size ∧ RdAt (w.heap.size + 1) W (w.heap.size + 1) o1 st) ?_ ?_
  · obtain ⟨hA1, hK1⟩ := HM.out
    have hs1 := hK1.size
    simp only [World.size_alloc] at hs1
    have hbT : Below w.heap.size w w1 := hK1.below (B := w.heap.size) (bnew (bnew (Below.refl _ _) _) _) (by simp; omega) (by omega) (fun k e => by cases e)
    have hA1 : RdAt (w.heap.size + 1) w1 (w.heap.size + 1) o1 st := hA1
    refine ⟨bnew hbT _, (Below.heap_alloc _ _ _ (by omega)).trans ((hK1.block _ (by simp; omega) (by omega) (by simp)).trans Hz0.out), heap_alloc_new w1 _, by omega, hA1.bel (bnew (Below.refl _ _) _)⟩
  rintro W2 ⟨hb2, hz2, hp2, hq2, hr2⟩
  obtain ⟨q, hq⟩ : ∃ q, q = w1.heap.size := ⟨_, rfl⟩
  rw [← hq] at hp2 hq2 ⊢
  have Hen := Lib.hid (rdE_any _ W2 _ _ st hr2)
  have HS := Lib.hid (And.intro hb2 (And.intro hz2 hp2))
  clear hq HM Hz0 hr2 hb2 hz2 hp2 hst hp
  go_wp2_with fail
  refine Hen.out.mono ?_
  rintro e w3 ⟨rfl, rfl⟩
  clear Hen
  obtain ⟨hb2, hz2, hp2⟩ := HS.out
  have hlw : w.heap.size < W2.heap.size := (Array.getElem?_eq_some_iff.1 hz2).1
  obtain ⟨z0, z1, z2, z3, z4, z5, z6, z7, z8, z9, z10, z11, z12, z13, z14, z15, zz⟩ := operAt hz2
  rw [HP.out] at hp2
  obtain ⟨q0, q1, q2, q3, q4, q5, q6, q7, q8, q9, q10, q11, q12, q13, q14, q15, _⟩ := operAt hp2
  cases he : (!st.bad && st.l.isEmpty)
  · have Hno : Hid (ans = none) := Lib.hid (by
      rw [Hinn.out, if_neg]
      rintro ⟨h1, h2⟩
      rw [h1, h2] at he; simp at he)
    clear he hz2 hp2 hb2 Hinn
    go_wp2_with fail
    have hres := results_ct (P := Try.prog) (fn := Try.f27) rfl
    refine bodyPost_ret (hres _ _ w.heap.size 33 (operC Og.Oper.zero) (0, 0) _ rfl (operPut (x := Og.Oper.zero) HS.out.2.1) Try.underlying33 rfl sizeOper) rfl ⟨?_, operBelow (x := Og.Oper.zero) HS.out.1 (Nat.le_refl _)⟩
    rw [Hno.out]; rfl
  · have Hyes : Hid (ans = some u) := Lib.hid (by
      rw [Hinn.out, if_pos]
      simp only [Bool.and_eq_true, Bool.not_eq_true', List.isEmpty_iff] at he
      exact he)
    clear he hz2 hp2 hb2 Hinn
    go_wp2_with fail
    have hres := results_ct (P := Try.prog) (fn := Try.f27) rfl
    refine bodyPost_ret (hres _ _ w.heap.size 33 (operC u) (0, 0) _ rfl (operPut (x := u) HS.out.2.1) Try.underlying33 rfl sizeOper) rfl ⟨?_, operBelow (x := u) HS.out.1 (Nat.le_refl _)⟩
    rw [Hyes.out]; rfl
end Go.Proofs.Ytpdahbfjbgcmgaa
