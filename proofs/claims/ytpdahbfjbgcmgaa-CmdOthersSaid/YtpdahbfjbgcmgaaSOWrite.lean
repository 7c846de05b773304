/-
  cmd.WriteOper walked.
-/
import Derived.Test.YtpdahbfjbgcmgaaSOpB
import Derived.Test.YtpdahbfjbgcmgaaSCall
set_option linter.unusedSimpArgs false
set_option linter.unusedVariables false
namespace Go.Proofs.Ytpdahbfjbgcmgaa
open Go.RowKit
/-- What WriteOper comes to. -/
def Wk.oout (c : Og.Oper) : List UInt8 := if decide ((Wk.wA.oper ⟨[], false⟩ c).1 = c) then (if (Wk.wA.oper ⟨[], false⟩ c).2.bad then [] else (Wk.wA.oper ⟨[], false⟩ c).2.l) else []
theorem operC_size (c : Og.Oper) : (operC c).size = 16 := rfl
theorem operC_one (c : Og.Oper) : (operC c).all (·.oneCell') = true := by simp [operC, Value.oneCell']
theorem storeOper (X : Array Value) (hs : X.size = 16) (ho : X.all (·.oneCell') = true) (W : World) : (storeCells ⟨W.heap.size, 0, none⟩ X.toList 0).run Try.prog (W.alloc (.cells #[.int .u8 0, .int .u8 0, .int .u8 0, .int .u8 0, .int .u8 0, .int .u8 0, .int .u8 0, .int .u8 0, .int .u8 0, .int .u8 0, .int .u8 0, .int .i64 0, .int .i64 0, .int .i64 0, .int .i64 0, .int .u8 0] 33)) = .ok () (W.alloc (.cells X 33)) :=
  run_storeCells_new (P := Try.prog) W 33 _ X (by rw [hs]; exact sizeOper) (by rw [hs]; rfl) ho
set_option maxRecDepth 100000 in
set_option maxHeartbeats 2000000 in
theorem owrite_any (c : Og.Oper) (hf : Og.Fits c) (w : World) (h0 : (Wk.wA.oper ⟨[], false⟩ c).2.bad = false → (Wk.wA.oper ⟨[], false⟩ c).2.l ≠ []) :
    Calls Try.prog 17 #[.agg (operC c)] w (RetS (Wk.oout c) w) := by
  have hx := operC_size c
  have hx1 := operC_one c
  obtain ⟨X, hX⟩ : ∃ X, X = operC c := ⟨_, rfl⟩
  have hW0 : ∀ a : Obj, WrAt (w.heap.size + 1) ((w.alloc a).alloc (.cells #[.pointer none, .slice none 0 0, .bool false] 80)) (w.heap.size + 1) none ⟨[], false⟩ := fun a => by
    have := WrAt.new (w.alloc a)
    rw [World.size_alloc] at this
    exact this
  have hwc := woper_any (wrK (w.heap.size + 1)) (wrKK _) _ _ _ _ c (hW0 (.cells X 33)) (by simp) hf
  rw [← hX] at hwc hx hx1 ⊢
  have Hwc := Lib.hid hwc
  have HX := Lib.hid hX
  have hsz : (Try.prog.info? 33).map (·.size) = some X.size := by rw [hx]; exact sizeOper
  have Hsz := Lib.hid hsz
  have hrow0 : ((w.alloc (.cells X 33)).alloc (.cells #[.pointer none, .slice none 0 0, .bool false] 80)).heap[w.heap.size]? = some (.cells X 33 (0, 0)) := (Below.heap_alloc _ _ _ (by simp)).trans (heap_alloc_new w _)
  have Hrow0 := Lib.hid hrow0
  clear hsz hX hW0 hwc hrow0
  go_enter Try.func17, Try.ntmps17
  go_wp2_with (refine wpList_load_row rfl 33 _ rfl w.heap.size rfl 33 X (0, 0) _ Hrow0.out Try.underlying33 rfl Hsz.out ?_)
  refine Hwc.out.mono ?_
  rintro e w1 ⟨rfl, o1, hA1, hK1⟩
  have hout : Wk.oout c = if decide ((Wk.wA.oper ⟨[], false⟩ c).1 = c) then (if (Wk.wA.oper ⟨[], false⟩ c).2.bad then [] else (Wk.wA.oper ⟨[], false⟩ c).2.l) else [] := rfl
  generalize Wk.wA.oper ⟨[], false⟩ c = r at hA1 hout h0 ⊢
  obtain ⟨u, s⟩ := r
  simp only at hA1 hout h0 ⊢
  have hp := operC_size u
  have hp1 := operC_one u
  have hne0 := oper_neq u c
  obtain ⟨P, hP⟩ : ∃ P, P = operC u := ⟨_, rfl⟩
  rw [← hP] at hp hp1 hne0 ⊢
  rw [← HX.out] at hne0
  have hst := storeOper P hp hp1
  have HszP : Hid ((Try.prog.info? 33).map (·.size) = some P.size) := Lib.hid (by rw [hp]; exact sizeOper)
  have HM := Lib.hid (And.intro hA1 hK1)
  have Hout := Lib.hid hout
  have Hh := Lib.hid h0
  have Hne := Lib.hid hne0
  clear hP hA1 hK1 Hwc hout h0 hne0
  go_upto_region 3 with (fail)
  refine forget (fun W => Below w.heap.size w W ∧ w1.heap.size < W.heap.size ∧ W.heap[w.heap.size]? = some (.cells X 33 (0, 0)) ∧ W.heap[w1.heap.size]? = some (.cells P 33 (0, 0)) ∧ WrAt (w.heap.size + 1) W (w.heap.size + 1) o1 s) ?_ ?_
  · obtain ⟨hA1, hK1⟩ := HM.out
    have hs1 := hK1.size
    simp only [World.size_alloc] at hs1
    have hbT : Below w.heap.size w w1 := hK1.below (w := w) (B := w.heap.size) (bnew (bnew (Below.refl _ _) _) _) (by simp; omega) (by omega) (fun k e => by cases e)
    have hA1 : WrAt (w.heap.size + 1) w1 (w.heap.size + 1) o1 s := hA1
    obtain ⟨p, v, hWP, rfl⟩ := hA1
    refine ⟨bnew hbT _, by simp, (Below.heap_alloc _ _ _ (by omega)).trans ((hK1.block _ (by simp; omega) (by omega) (by simp)).trans Hrow0.out), heap_alloc_new w1 _, p, v, hWP.alloc _, rfl⟩
  rintro W2 ⟨hb2, hg2, hx2, hp2, hw2⟩
  have hlw : w.heap.size < W2.heap.size := (Array.getElem?_eq_some_iff.1 hx2).1
  have HW := Lib.hid (And.intro hx2 (And.intro hp2 (And.intro hb2 hw2)))
  have Hen := Lib.hid (wenc_any _ W2 _ _ s hw2 Hh.out)
  clear hx2 hp2 hw2 hb2 hst
  obtain ⟨q, hq⟩ : ∃ q, q = w1.heap.size := ⟨_, rfl⟩
  rw [← hq] at HW hg2 ⊢
  clear hq HM Hrow0
  have hneW := Hne.out
  have hgo := guardOper
  cases hs : decide (u = c)
  · rw [hs] at Hout hneW
    have Hs := Lib.hid hs
    clear hs
    go_wp2_with (first | (refine wpList_load_row rfl 33 _ rfl w.heap.size rfl 33 X (0, 0) _ HW.out.1 Try.underlying33 rfl Hsz.out ?_) | (refine wpList_load_row rfl 33 _ rfl q rfl 33 P (0, 0) _ HW.out.2.1 Try.underlying33 rfl HszP.out ?_))
    go_ret
    rw [Hout.out]
    exact ⟨rfl, HW.out.2.2.1⟩
  · rw [hs] at Hout hneW
    obtain ⟨y, hy⟩ : ∃ y : ByteArray, y = (if s.bad then ⟨#[]⟩ else ⟨s.l.toArray⟩) := ⟨_, rfl⟩
    have he2 := Hen.out
    rw [← hy] at he2
    have Hen2 := Lib.hid he2
    have Hy : Hid (⟨(Wk.oout c).toArray⟩ = y) := Lib.hid (by rw [Hout.out, hy]; cases s.bad <;> rfl)
    clear hs hy he2 Hen
    go_wp2_with (first | (refine wpList_load_row rfl 33 _ rfl w.heap.size rfl 33 X (0, 0) _ HW.out.1 Try.underlying33 rfl Hsz.out ?_) | (refine wpList_load_row rfl 33 _ rfl q rfl 33 P (0, 0) _ HW.out.2.1 Try.underlying33 rfl HszP.out ?_))
    refine Hen2.out.mono ?_
    rintro e w4 ⟨rfl, hb4⟩
    have Hb4 := Lib.hid hb4
    clear hb4
    go_wp2_with fail
    go_ret
    refine ⟨?_, ?_⟩
    · rw [Hy.out]; rfl
    · have h3 := HW.out.2.2.1
      have h4 := Hb4.out
      exact h3.trans (h4.mono (by omega))
end Go.Proofs.Ytpdahbfjbgcmgaa
