/-
  cmd.WriteOper walked.
  cmd.ReadOper walked. WRITTEN BY wip/tools/gen_oread.py.
-/
import Derived.Test.YtlcgjlganmblpaaROpB
import Derived.Test.YtlcgjlganmblpaaRCall
set_option linter.unusedSimpArgs false
set_option linter.unusedVariables false
namespace Go.Proofs.Ytlcgjlganmblpaa
open Go.RowKit
/-- What WriteOper comes to. -/
def Wk.oout (c : Og.Oper) : List UInt8 := if decide ((Wk.wA.oper ⟨[], false⟩ c).1 = c) then (if (Wk.wA.oper ⟨[], false⟩ c).2.bad then [] else (Wk.wA.oper ⟨[], false⟩ c).2.l) else []
theorem operC_size (c : Og.Oper) : (operC c).size = 16 := rfl
theorem operC_one (c : Og.Oper) : (operC c).all (·.oneCell') = true := by simp [operC, Value.oneCell']
theorem storeOper (X : Array Value) (hs : X.size = 16) (ho : X.all (·.oneCell') = true) (W : World) : (storeCells ⟨W.heap.size, 0, none⟩ X.toList 0).run Try.prog (W.alloc (.cells #[.int .u8 0, .int .u8 0, .int .u8 0, .int .u8 0, .int .u8 0, .int .u8 0, .int .u8 0, .int .u8 0, .int .u8 0, .int .u8 0, .int .u8 0, .int .i64 0, .int .i64 0, .int .i64 0, .int .i64 0, .int .u8 0] 26)) = .ok () (W.alloc (.cells X 26)) :=
  run_storeCells_new (P := Try.prog) W 26 _ X (by rw [hs]; exact sizeOper) (by rw [hs]; rfl) ho
set_option maxRecDepth 100000 in
set_option maxHeartbeats 2000000 in
theorem owrite_any (c : Og.Oper) (hf : Og.Fits c) (w : World) (h0 : (Wk.wA.oper ⟨[], false⟩ c).2.bad = false → (Wk.wA.oper ⟨[], false⟩ c).2.l ≠ []) :
    Calls Try.prog 54 #[.agg (operC c)] w (RetS (Wk.oout c) w) := by
  have hx := operC_size c
  have hx1 := operC_one c
  obtain ⟨X, hX⟩ : ∃ X, X = operC c := ⟨_, rfl⟩
  have hW0 : ∀ a : Obj, WrAt (w.heap.size + 1) ((w.alloc a).alloc (.cells #[.pointer none, .slice none 0 0, .bool false] 100)) (w.heap.size + 1) none ⟨[], false⟩ := fun a => by
    have := WrAt.new (w.alloc a)
    rw [World.size_alloc] at this
    exact this
  have hwc := woper_any (wrK (w.heap.size + 1)) (wrKK _) _ _ _ _ c (hW0 (.cells X 26)) (by simp) hf
  rw [← hX] at hwc hx hx1 ⊢
  have Hwc := Lib.hid hwc
  have HX := Lib.hid hX
  have hsz : (Try.prog.info? 26).map (·.size) = some X.size := by rw [hx]; exact sizeOper
  have Hsz := Lib.hid hsz
  have hrow0 : ((w.alloc (.cells X 26)).alloc (.cells #[.pointer none, .slice none 0 0, .bool false] 100)).heap[w.heap.size]? = some (.cells X 26 (0, 0)) := (Below.heap_alloc _ _ _ (by simp)).trans (heap_alloc_new w _)
  have Hrow0 := Lib.hid hrow0
  clear hsz hX hW0 hwc hrow0
  go_enter Try.func54, Try.ntmps54
  go_wp2_with (refine wpList_load_row rfl 26 _ rfl w.heap.size rfl 26 X (0, 0) _ Hrow0.out Try.underlying26 rfl Hsz.out ?_)
  refine Hwc.out.mono ?_
  rintro e w1 ⟨rfl, o1, hA1, hK1⟩
  have hout : Wk.oout c = if decide ((Wk.wA.oper ⟨[], false⟩ c).1 = c) then (if (Wk.wA.oper ⟨[], false⟩ c).2.bad then [] else (Wk.wA.oper ⟨[], false⟩ c).2.l) else [] := rfl
  generalize Wk.wA.oper ⟨[], false⟩ c = r at hA1 hout h0 ⊢
  obtain ⟨u, s⟩ := r
  simp only at hA1 hout h0 ⊢
  have hp := operC_size u
  have hp1 := operC_one u
  have hne0 := oper_neq u c
  obtain ⟨P, hP⟩ : ∃ P, P = operC u := ⟨_, rfl⟩
  rw [← hP] at hp hp1 hne0 ⊢
  rw [← HX.out] at hne0
  have hst := storeOper P hp hp1
  have HszP : Hid ((Try.prog.info? 26).map (·.size) = some P.size) := Lib.hid (by rw [hp]; exact sizeOper)
  have HM := Lib.hid (And.intro hA1 hK1)
  have Hout := Lib.hid hout
  have Hh := Lib.hid h0
  have Hne := Lib.hid hne0
  clear hP hA1 hK1 Hwc hout h0 hne0
  go_upto_region 3 with (fail)
  refine forget (fun W => Below w.heap.size w W ∧ w1.heap.size < W.heap.size ∧ W.heap[w.heap.size]? = some (.cells X 26 (0, 0)) ∧ W.heap[w1.heap.size]? = some (.cells P 26 (0, 0)) ∧ WrAt (w.heap.size + 1) W (w.heap.size + 1) o1 s) ?_ ?_
  · obtain ⟨hA1, hK1⟩ := HM.out
    have hs1 := hK1.size
    simp only [World.size_alloc] at hs1
    have hbT : Below w.heap.size w w1 := hK1.below (w := w) (B := w.heap.size) (bnew (bnew (Below.refl _ _) _) _) (by simp; omega) (by omega) (fun k e => by cases e)
    have hA1 : WrAt (w.heap.size + 1) w1 (w.heap.size + 1) o1 s := hA1
    obtain ⟨p, v, hWP, rfl⟩ := hA1
    refine ⟨bnew hbT _, by simp, (Below.heap_alloc _ _ _ (by omega)).trans ((hK1.block _ (by simp; omega) (by omega) (by simp)).trans Hrow0.out), heap_alloc_new w1 _, p, v, hWP.alloc _, rfl⟩
  rintro W2 ⟨hb2, hg2, hx2, hp2, hw2⟩
  have hlw : w.heap.size < W2.heap.size := (Array.getElem?_eq_some_iff.1 hx2).1
  have HW := Lib.hid (And.intro hx2 (And.intro hp2 (And.intro hb2 hw2)))
  have Hen := Lib.hid (wenc_any _ W2 _ _ s hw2 Hh.out)
  clear hx2 hp2 hw2 hb2 hst
  obtain ⟨q, hq⟩ : ∃ q, q = w1.heap.size := ⟨_, rfl⟩
  rw [← hq] at HW hg2 ⊢
  clear hq HM Hrow0
  have hneW := Hne.out
  have hgo := guardOper
  cases hs : decide (u = c)
  · rw [hs] at Hout hneW
    have Hs := Lib.hid hs
    clear hs
    go_wp2_with (first | (refine wpList_load_row rfl 26 _ rfl w.heap.size rfl 26 X (0, 0) _ HW.out.1 Try.underlying26 rfl Hsz.out ?_) | (refine wpList_load_row rfl 26 _ rfl q rfl 26 P (0, 0) _ HW.out.2.1 Try.underlying26 rfl HszP.out ?_))
    go_ret
    rw [Hout.out]
    exact ⟨rfl, HW.out.2.2.1⟩
  · rw [hs] at Hout hneW
    obtain ⟨y, hy⟩ : ∃ y : ByteArray, y = (if s.bad then ⟨#[]⟩ else ⟨s.l.toArray⟩) := ⟨_, rfl⟩
    have he2 := Hen.out
    rw [← hy] at he2
    have Hen2 := Lib.hid he2
    have Hy : Hid (⟨(Wk.oout c).toArray⟩ = y) := Lib.hid (by rw [Hout.out, hy]; cases s.bad <;> rfl)
    clear hs hy he2 Hen
    go_wp2_with (first | (refine wpList_load_row rfl 26 _ rfl w.heap.size rfl 26 X (0, 0) _ HW.out.1 Try.underlying26 rfl Hsz.out ?_) | (refine wpList_load_row rfl 26 _ rfl q rfl 26 P (0, 0) _ HW.out.2.1 Try.underlying26 rfl HszP.out ?_))
    refine Hen2.out.mono ?_
    rintro e w4 ⟨rfl, hb4⟩
    have Hb4 := Lib.hid hb4
    clear hb4
    go_wp2_with fail
    go_ret
    refine ⟨?_, ?_⟩
    · rw [Hy.out]; rfl
    · have h3 := HW.out.2.2.1
      have h4 := Hb4.out
      exact h3.trans (h4.mono (by omega))
end Go.Proofs.Ytlcgjlganmblpaa
namespace Go.Proofs.Ytlcgjlganmblpaa
open Go.RowKit
theorem operPut {W : World} {g : Nat} {z x : Og.Oper} (h : W.heap[g]? = some (.cells (operC z) 26 (0, 0))) :
    (((((((((((((((((W).setCell ⟨g, 0, none⟩ (.int .u8 (x.op : Int))).setCell ⟨g, 1, none⟩ (.int .u8 (x.slot : Int))).setCell ⟨g, 2, none⟩ (.int .u8 (x.tok.a0.toNat : Int))).setCell ⟨g, 3, none⟩ (.int .u8 (x.tok.a1.toNat : Int))).setCell ⟨g, 4, none⟩ (.int .u8 (x.tok.a2.toNat : Int))).setCell ⟨g, 5, none⟩ (.int .u8 (x.tok.a3.toNat : Int))).setCell ⟨g, 6, none⟩ (.int .u8 (x.tok.a4.toNat : Int))).setCell ⟨g, 7, none⟩ (.int .u8 (x.tok.a5.toNat : Int))).setCell ⟨g, 8, none⟩ (.int .u8 (x.tok.a6.toNat : Int))).setCell ⟨g, 9, none⟩ (.int .u8 (x.tok.a7.toNat : Int))).setCell ⟨g, 10, none⟩ (.int .u8 (x.role : Int))).setCell ⟨g, 11, none⟩ (.int .i64 x.keys)).setCell ⟨g, 12, none⟩ (.int .i64 x.bytes)).setCell ⟨g, 13, none⟩ (.int .i64 x.rate)).setCell ⟨g, 14, none⟩ (.int .i64 x.burst)).setCell ⟨g, 15, none⟩ (.int .u8 (x.node : Int))).heap[g]? = some (.cells (operC x) 26 (0, 0)) := by
  have l : Loc W (g + 1) none g (operC z) 26 := ⟨h, by omega, by simp⟩
  have h8 := (((((((((((((((((l).put 0 (.int .u8 (x.op : Int)) rfl).put 1 (.int .u8 (x.slot : Int)) rfl).put 2 (.int .u8 (x.tok.a0.toNat : Int)) rfl).put 3 (.int .u8 (x.tok.a1.toNat : Int)) rfl).put 4 (.int .u8 (x.tok.a2.toNat : Int)) rfl).put 5 (.int .u8 (x.tok.a3.toNat : Int)) rfl).put 6 (.int .u8 (x.tok.a4.toNat : Int)) rfl).put 7 (.int .u8 (x.tok.a5.toNat : Int)) rfl).put 8 (.int .u8 (x.tok.a6.toNat : Int)) rfl).put 9 (.int .u8 (x.tok.a7.toNat : Int)) rfl).put 10 (.int .u8 (x.role : Int)) rfl).put 11 (.int .i64 x.keys) rfl).put 12 (.int .i64 x.bytes) rfl).put 13 (.int .i64 x.rate) rfl).put 14 (.int .i64 x.burst) rfl).put 15 (.int .u8 (x.node : Int)) rfl).row
  rw [show (((((((((((((((((operC z)).setIfInBounds 0 (.int .u8 (x.op : Int))).setIfInBounds 1 (.int .u8 (x.slot : Int))).setIfInBounds 2 (.int .u8 (x.tok.a0.toNat : Int))).setIfInBounds 3 (.int .u8 (x.tok.a1.toNat : Int))).setIfInBounds 4 (.int .u8 (x.tok.a2.toNat : Int))).setIfInBounds 5 (.int .u8 (x.tok.a3.toNat : Int))).setIfInBounds 6 (.int .u8 (x.tok.a4.toNat : Int))).setIfInBounds 7 (.int .u8 (x.tok.a5.toNat : Int))).setIfInBounds 8 (.int .u8 (x.tok.a6.toNat : Int))).setIfInBounds 9 (.int .u8 (x.tok.a7.toNat : Int))).setIfInBounds 10 (.int .u8 (x.role : Int))).setIfInBounds 11 (.int .i64 x.keys)).setIfInBounds 12 (.int .i64 x.bytes)).setIfInBounds 13 (.int .i64 x.rate)).setIfInBounds 14 (.int .i64 x.burst)).setIfInBounds 15 (.int .u8 (x.node : Int)) = operC x by simp [operC]] at h8
  exact h8
theorem operBelow {W w : World} {B g : Nat} {x : Og.Oper} (h : Below B w W) (hg : B ≤ g) : Below B w (((((((((((((((((W).setCell ⟨g, 0, none⟩ (.int .u8 (x.op : Int))).setCell ⟨g, 1, none⟩ (.int .u8 (x.slot : Int))).setCell ⟨g, 2, none⟩ (.int .u8 (x.tok.a0.toNat : Int))).setCell ⟨g, 3, none⟩ (.int .u8 (x.tok.a1.toNat : Int))).setCell ⟨g, 4, none⟩ (.int .u8 (x.tok.a2.toNat : Int))).setCell ⟨g, 5, none⟩ (.int .u8 (x.tok.a3.toNat : Int))).setCell ⟨g, 6, none⟩ (.int .u8 (x.tok.a4.toNat : Int))).setCell ⟨g, 7, none⟩ (.int .u8 (x.tok.a5.toNat : Int))).setCell ⟨g, 8, none⟩ (.int .u8 (x.tok.a6.toNat : Int))).setCell ⟨g, 9, none⟩ (.int .u8 (x.tok.a7.toNat : Int))).setCell ⟨g, 10, none⟩ (.int .u8 (x.role : Int))).setCell ⟨g, 11, none⟩ (.int .i64 x.keys)).setCell ⟨g, 12, none⟩ (.int .i64 x.bytes)).setCell ⟨g, 13, none⟩ (.int .i64 x.rate)).setCell ⟨g, 14, none⟩ (.int .i64 x.burst)).setCell ⟨g, 15, none⟩ (.int .u8 (x.node : Int))) :=
  ((((((((((((((((h).setCell (p := ⟨g, 0, none⟩) hg _).setCell (p := ⟨g, 1, none⟩) hg _).setCell (p := ⟨g, 2, none⟩) hg _).setCell (p := ⟨g, 3, none⟩) hg _).setCell (p := ⟨g, 4, none⟩) hg _).setCell (p := ⟨g, 5, none⟩) hg _).setCell (p := ⟨g, 6, none⟩) hg _).setCell (p := ⟨g, 7, none⟩) hg _).setCell (p := ⟨g, 8, none⟩) hg _).setCell (p := ⟨g, 9, none⟩) hg _).setCell (p := ⟨g, 10, none⟩) hg _).setCell (p := ⟨g, 11, none⟩) hg _).setCell (p := ⟨g, 12, none⟩) hg _).setCell (p := ⟨g, 13, none⟩) hg _).setCell (p := ⟨g, 14, none⟩) hg _).setCell (p := ⟨g, 15, none⟩) hg _
/-- What ReadOper comes to. -/
def Wk.oin (l : List UInt8) : Option Og.Oper := if (Wk.rA.oper ⟨l, false⟩ Og.Oper.zero).2.bad = false ∧ (Wk.rA.oper ⟨l, false⟩ Og.Oper.zero).2.l = [] then some (Wk.rA.oper ⟨l, false⟩ Og.Oper.zero).1 else none
def RetOp (o : Option Og.Oper) (w : World) (e : Ending) (w' : World) : Prop :=
  e = .returned (.tuple #[.agg (operC (o.getD Og.Oper.zero)), .bool o.isSome]) ∧ Below w.heap.size w w'
theorem Og.zero_fits : Og.Fits Og.Oper.zero := ⟨by decide, by decide, by decide, by decide, by decide, by decide, by decide, by decide⟩
set_option maxRecDepth 100000 in
set_option maxHeartbeats 4000000 in
theorem oread_any (s : ByteArray) (w : World) (hs : s.size ≤ 10000000) :
    Calls Try.prog 32 #[.string s] w (RetOp (Wk.oin s.data.toList) w) := by
  have hW0 : ∀ a : Obj, RdAt (w.heap.size + 1) ((w.alloc a).alloc (.cells #[.string s, .bool false] 104)) (w.heap.size + 1) none ⟨s.data.toList, false⟩ := fun a => by
    have := RdAt.new (w.alloc a) (w.heap.size + 1) (by simp) s
    rw [World.size_alloc] at this
    exact this
  have hwc := woper_any (rdK (w.heap.size + 1)) (rdKK _) _ _ _ _ Og.Oper.zero (hW0 (.cells (operC Og.Oper.zero) 26)) (by simp only; rw [← Lib.size_eq]; omega) Og.zero_fits
  have hz0 : ((w.alloc (.cells (operC Og.Oper.zero) 26)).alloc (.cells #[.string s, .bool false] 104)).heap[w.heap.size]? = some (.cells (operC Og.Oper.zero) 26 (0, 0)) := (Below.heap_alloc _ _ _ (by simp)).trans (heap_alloc_new w _)
  have Hz0 := Lib.hid hz0
  have hinn : Wk.oin s.data.toList = if (Wk.rA.oper ⟨s.data.toList, false⟩ Og.Oper.zero).2.bad = false ∧ (Wk.rA.oper ⟨s.data.toList, false⟩ Og.Oper.zero).2.l = [] then some (Wk.rA.oper ⟨s.data.toList, false⟩ Og.Oper.zero).1 else none := rfl
  generalize Wk.rA.oper ⟨s.data.toList, false⟩ Og.Oper.zero = r at hwc hinn
  obtain ⟨u, st⟩ := r
  simp only at hwc hinn
  have Hwc := Lib.hid hwc
  have Hinn := Lib.hid hinn
  generalize Wk.oin s.data.toList = ans at Hinn ⊢
  clear hwc hinn hz0 hW0
  go_enter Try.func32, Try.ntmps32
  go_wp2_with fail
  refine Hwc.out.mono ?_
  rintro e w1 ⟨rfl, o1, hA1, hK1⟩
  have hp := operC_size u
  have hp1 := operC_one u
  obtain ⟨P, hP⟩ : ∃ P, P = operC u := ⟨_, rfl⟩
  rw [← hP] at hp hp1 ⊢
  have HP := Lib.hid hP
  have hst := storeOper P hp hp1
  have HM := Lib.hid (And.intro hA1 hK1)
  clear hP hA1 hK1 Hwc
  go_upto_region 3 with (fail)
  refine forget (fun W => Below w.heap.size w W ∧ W.heap[w.heap.size]? = some (.cells (operC Og.Oper.zero) 26 (0, 0)) ∧ W.heap[w1.heap.size]? = some (.cells P 26 (0, 0)) ∧ w.heap.size < w1.heap.size ∧ RdAt (w.heap.size + 1) W (w.heap.size + 1) o1 st) ?_ ?_
  · obtain ⟨hA1, hK1⟩ := HM.out
    have hs1 := hK1.size
    simp only [World.size_alloc] at hs1
    have hbT : Below w.heap.size w w1 := hK1.below (B := w.heap.size) (bnew (bnew (Below.refl _ _) _) _) (by simp; omega) (by omega) (fun k e => by cases e)
    have hA1 : RdAt (w.heap.size + 1) w1 (w.heap.size + 1) o1 st := hA1
    refine ⟨bnew hbT _, (Below.heap_alloc _ _ _ (by omega)).trans ((hK1.block _ (by simp; omega) (by omega) (by simp)).trans Hz0.out), heap_alloc_new w1 _, by omega, hA1.bel (bnew (Below.refl _ _) _)⟩
  rintro W2 ⟨hb2, hz2, hp2, hq2, hr2⟩
  obtain ⟨q, hq⟩ : ∃ q, q = w1.heap.size := ⟨_, rfl⟩
  rw [← hq] at hp2 hq2 ⊢
  have Hen := Lib.hid (rdE_any _ W2 _ _ st hr2)
  have HS := Lib.hid (And.intro hb2 (And.intro hz2 hp2))
  clear hq HM Hz0 hr2 hb2 hz2 hp2 hst hp
  go_wp2_with fail
  refine Hen.out.mono ?_
  rintro e w3 ⟨rfl, rfl⟩
  clear Hen
  obtain ⟨hb2, hz2, hp2⟩ := HS.out
  have hlw : w.heap.size < W2.heap.size := (Array.getElem?_eq_some_iff.1 hz2).1
  obtain ⟨z0, z1, z2, z3, z4, z5, z6, z7, z8, z9, z10, z11, z12, z13, z14, z15, zz⟩ := operAt hz2
  rw [HP.out] at hp2
  obtain ⟨q0, q1, q2, q3, q4, q5, q6, q7, q8, q9, q10, q11, q12, q13, q14, q15, _⟩ := operAt hp2
  cases he : (!st.bad && st.l.isEmpty)
  · have Hno : Hid (ans = none) := Lib.hid (by
      rw [Hinn.out, if_neg]
      rintro ⟨h1, h2⟩
      rw [h1, h2] at he; simp at he)
    clear he hz2 hp2 hb2 Hinn
    go_wp2_with fail
    have hres := results_ct (P := Try.prog) (fn := Try.f32) rfl
    refine bodyPost_ret (hres _ _ w.heap.size 26 (operC Og.Oper.zero) (0, 0) _ rfl (operPut (x := Og.Oper.zero) HS.out.2.1) Try.underlying26 rfl sizeOper) rfl ⟨?_, operBelow (x := Og.Oper.zero) HS.out.1 (Nat.le_refl _)⟩
    rw [Hno.out]; rfl
  · have Hyes : Hid (ans = some u) := Lib.hid (by
      rw [Hinn.out, if_pos]
      simp only [Bool.and_eq_true, Bool.not_eq_true', List.isEmpty_iff] at he
      exact he)
    clear he hz2 hp2 hb2 Hinn
    go_wp2_with fail
    have hres := results_ct (P := Try.prog) (fn := Try.f32) rfl
    refine bodyPost_ret (hres _ _ w.heap.size 26 (operC u) (0, 0) _ rfl (operPut (x := u) HS.out.2.1) Try.underlying26 rfl sizeOper) rfl ⟨?_, operBelow (x := u) HS.out.1 (Nat.le_refl _)⟩
    rw [Hyes.out]; rfl
end Go.Proofs.Ytlcgjlganmblpaa
