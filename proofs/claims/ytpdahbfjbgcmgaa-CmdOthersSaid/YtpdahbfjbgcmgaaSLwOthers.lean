/-
  CmdOthers walked. WRITTEN BY wip/tools/gen_others.py.
-/
import Derived.Test.YtpdahbfjbgcmgaaSLaw
import Derived.Test.YtpdahbfjbgcmgaaSLwGreatR
import Derived.Test.YtpdahbfjbgcmgaaSOrWrite
import Derived.Test.YtpdahbfjbgcmgaaSOpen
import Derived.Test.YtpdahbfjbgcmgaaSOpOpen
import Derived.Test.YtpdahbfjbgcmgaaSCall
set_option linter.unusedSimpArgs false
set_option linter.unusedVariables false
namespace Go.Proofs.Ytpdahbfjbgcmgaa
open Go.RowKit
set_option linter.unusedVariables false
theorem rbytes_small {r : Rs.Res} (hf : RFits r) (h : Rs.Small r) : (Rs.bytes r).length ≤ 10000000 := by
  have g1 := grp_len r.n hf.n
  have g2 := grp_len r.rows.length (by have := h.len; unfold Nm.top; omega)
  have tx : ∀ s : ByteArray, s.size ≤ 3000 → (Cm.txt s).length ≤ 3010 := fun s hs => by
    have := grp_len s.size (by unfold Nm.top; omega)
    have e : s.data.toList.length = s.size := (Lib.size_eq s).symm
    unfold Cm.txt row
    rw [List.length_append, e]; omega
  have t1 := tx r.val h.val
  have hp : ∀ ps : List Rs.Row, (∀ p ∈ ps, p.ver < Nm.top) → (∀ p ∈ ps, p.key.size ≤ 3000 ∧ p.val.size ≤ 3000) → (Rs.rowsB ps).length ≤ ps.length * 7000 := by
    intro ps
    induction ps with
    | nil => intro _ _; simp [Rs.rowsB]
    | cons p ps ih =>
      intro hv hh
      have := ih (fun q hq => hv q (by simp [hq])) (fun q hq => hh q (by simp [hq]))
      have k1 := tx p.key (hh p (by simp)).1
      have k2 := tx p.val (hh p (by simp)).2
      have k3 := grp_len p.ver (hv p (by simp))
      have e : (Rs.rowsB (p :: ps)).length = (Rs.rowB p).length + (Rs.rowsB ps).length := by simp [Rs.rowsB]
      have e2 : (Rs.rowB p).length ≤ 7000 := by
        unfold Rs.rowB
        simp only [List.length_append]; omega
      rw [e, List.length_cons, Nat.add_mul]; omega
  have h5 := hp r.rows hf.rows h.rows
  have h6 : r.rows.length * 7000 ≤ 40 * 7000 := Nat.mul_le_mul_right _ h.len
  unfold Rs.bytes
  simp only [List.length_append, Cm.one, List.length_singleton]
  omega
theorem resAt4 {W : World} {q : Nat} {r : Rs.Res} {A : Option Addr} {cap : Nat} (h : W.heap[q]? = some (.cells (resC r A cap) 42 (0, 0))) : W.cell? ⟨q, 0, none⟩ = some (.int .u8 (r.code : Int)) ∧ W.cell? ⟨q, 1, none⟩ = some (.int .u64 (r.n : Int)) ∧ W.cell? ⟨q, 2, none⟩ = some (.string r.val) ∧ W.cell? ⟨q, 3, none⟩ = some (.slice A r.rows.length cap) :=
  ⟨cell_of_row W q 0 _ _ _ h, cell_of_row W q 1 _ _ _ h, cell_of_row W q 2 _ _ _ h, cell_of_row W q 3 _ _ _ h⟩
set_option maxRecDepth 100000 in
set_option maxHeartbeats 8000000 in
theorem cmdOthers_walk (w : World) (c : Og.Oper) (hf : Og.Fits c) (r : Rs.Res) (A : Option Addr) (cap : Nat) (gr : GivenR w r A cap) :
    Calls Try.prog 6 #[.agg (operC c), .agg (resC r A cap)] w fun e w' => e = .returned (.bool true) ∧ Below w.heap.size w w' := by
  have hG := fun W (hb : Below w.heap.size w W) => greatR_any r A cap W (gr.lies.below hb)
  have HAw := Lib.hid cmdAwake_any
  have hsx := operC_size c
  have hsy : (resC r A cap).size = 4 := rfl
  have hW1 := fun W => owrite_any c hf W (Wk.oper_ne c hf)
  have hW2 := fun W => refWriteOper_any c hf W
  rw [Wk.oout_eq c hf] at hW1
  unfold RetS operC at hW1 hW2
  have hW2' : ∀ W, Calls Try.prog 34 _ W _ := hW2
  unfold Og.write at hW2
  generalize (⟨(if Og.may c then Og.enc c else []).toArray⟩ : ByteArray) = x at hW1 hW2
  have HW1 := Lib.hid hW1
  have HW2 := Lib.hid hW2
  unfold resC at hG
  have HG := Lib.hid hG
  clear hG hW1 hW2 hW2'
  obtain ⟨X, hX⟩ : ∃ X, X = operC c := ⟨_, rfl⟩
  obtain ⟨Y, hY⟩ : ∃ Y, Y = resC r A cap := ⟨_, rfl⟩
  rw [← hX] at hsx ⊢
  rw [← hY] at hsy ⊢
  have HX := Lib.hid (And.intro hX hY)
  clear hX hY
  cases hgr : Rs.great r
  case true =>
    rw [hgr] at HG
    clear hgr
    go_enter Try.func6, Try.ntmps6
    go_upto_region 1 with (fail)
    refine forget (fun W => Below w.heap.size w W ∧ W.heap[w.heap.size]? = some (.cells (operC c) 33 (0, 0)) ∧ W.heap[w.heap.size + 1]? = some (.cells (resC r A cap) 42 (0, 0))) ⟨bnew (bnew (Below.refl _ _) _) _, by rw [← HX.out.1]; exact (Below.heap_alloc _ _ _ (by simp)).trans (heap_alloc_new w _), by have := heap_alloc_new (w.alloc (.cells X 33)) (.cells Y 42); rw [World.size_alloc] at this; rw [← HX.out.2]; exact this⟩ ?_
    rintro W0 ⟨hb0, hx0, hy0⟩
    obtain ⟨g, hg⟩ : ∃ g, g = w.heap.size := ⟨_, rfl⟩
    obtain ⟨q, hq⟩ : ∃ q, q = w.heap.size + 1 := ⟨_, rfl⟩
    rw [← hq] at hy0 ⊢
    rw [← hg] at hx0 ⊢
    obtain ⟨q0, q1, q2, q3⟩ := resAt4 hy0
    have HB := Lib.hid (And.intro hb0 (And.intro (And.intro hx0 (Array.getElem?_eq_some_iff.1 hx0).1) (And.intro hy0 (Array.getElem?_eq_some_iff.1 hy0).1)))
    clear hb0 hx0 hy0 hg hq hsx hsy HX
    go_wp2_with fail
    refine (HG.out _ HB.out.1).mono ?_
    rintro e W1 ⟨rfl, hb1⟩
    have HB1 := Lib.hid (bnext HB.out.1 hb1)
    clear hb1
    go_wp2_with fail
    refine (HAw.out _).mono ?_
    rintro e w2 ⟨rfl, hb2⟩
    have HB2 := Lib.hid (bnext HB1.out hb2)
    clear hb2 HB1
    go_wp2_with fail
    go_ret
    exact ⟨rfl, HB2.out⟩
  rw [hgr] at HG
  have hs := Rs.small_of hgr
  have hR1 := fun W (hb : Below w.heap.size w W) => cmdWriteRes_any r gr.fits (by have := hs.val; omega) (by have := hs.len; omega) (fun p hp => by have := hs.rows p hp; omega) A cap W (gr.lies.below hb)
  have hR2 := fun W (hb : Below w.heap.size w W) => writeResult_any r gr.fits A cap W (gr.lies.below hb) (by have := hs.len; omega) (by have := rbytes_small gr.fits hs; omega)
  unfold RetS at hR1 hR2
  unfold resC at hR2
  generalize (⟨(Rs.bytes r).toArray⟩ : ByteArray) = y at hR1 hR2
  have HR1 := Lib.hid hR1
  have HR2 := Lib.hid hR2
  have hxx : (x.toList == x.toList) = true := by simp
  have hyy : (y.toList == y.toList) = true := by simp
  clear hR1 hR2 hs hgr gr
  go_enter Try.func6, Try.ntmps6
  go_upto_region 1 with (fail)
  refine forget (fun W => Below w.heap.size w W ∧ W.heap[w.heap.size]? = some (.cells (operC c) 33 (0, 0)) ∧ W.heap[w.heap.size + 1]? = some (.cells (resC r A cap) 42 (0, 0))) ⟨bnew (bnew (Below.refl _ _) _) _, by rw [← HX.out.1]; exact (Below.heap_alloc _ _ _ (by simp)).trans (heap_alloc_new w _), by have := heap_alloc_new (w.alloc (.cells X 33)) (.cells Y 42); rw [World.size_alloc] at this; rw [← HX.out.2]; exact this⟩ ?_
  rintro W0 ⟨hb0, hx0, hy0⟩
  obtain ⟨g, hg⟩ : ∃ g, g = w.heap.size := ⟨_, rfl⟩
  obtain ⟨q, hq⟩ : ∃ q, q = w.heap.size + 1 := ⟨_, rfl⟩
  rw [← hq] at hy0 ⊢
  rw [← hg] at hx0 ⊢
  obtain ⟨q0, q1, q2, q3⟩ := resAt4 hy0
  have HB := Lib.hid (And.intro hb0 (And.intro (And.intro hx0 (Array.getElem?_eq_some_iff.1 hx0).1) (And.intro hy0 (Array.getElem?_eq_some_iff.1 hy0).1)))
  clear hb0 hx0 hy0 hg hq hsx hsy HX
  go_wp2_with fail
  refine (HG.out _ HB.out.1).mono ?_
  rintro e W1 ⟨rfl, hb1⟩
  have HB1 := Lib.hid (And.intro (bnext HB.out.1 hb1) (And.intro ((hb1.block _ HB.out.2.1.2).trans HB.out.2.1.1) ((hb1.block _ HB.out.2.2.2).trans HB.out.2.2.1)))
  clear hb1 q0 q1 q2 q3
  go_upto_region 3 with (fail)
  obtain ⟨q0, q1, q2, q3⟩ := resAt4 HB1.out.2.2
  have k0 := fun d os => cell_regrown q0 d os
  have k1 := fun d os => cell_regrown q1 d os
  have k2 := fun d os => cell_regrown q2 d os
  have k3 := fun d os => cell_regrown q3 d os
  obtain ⟨c0, c1, c2, c3, c4, c5, c6, c7, c8, c9, c10, c11, c12, c13, c14, c15, _⟩ := operAt HB1.out.2.1
  have r0 := fun d os => cell_regrown c0 d os
  have r1 := fun d os => cell_regrown c1 d os
  have r2 := fun d os => cell_regrown c2 d os
  have r3 := fun d os => cell_regrown c3 d os
  have r4 := fun d os => cell_regrown c4 d os
  have r5 := fun d os => cell_regrown c5 d os
  have r6 := fun d os => cell_regrown c6 d os
  have r7 := fun d os => cell_regrown c7 d os
  have r8 := fun d os => cell_regrown c8 d os
  have r9 := fun d os => cell_regrown c9 d os
  have r10 := fun d os => cell_regrown c10 d os
  have r11 := fun d os => cell_regrown c11 d os
  have r12 := fun d os => cell_regrown c12 d os
  have r13 := fun d os => cell_regrown c13 d os
  have r14 := fun d os => cell_regrown c14 d os
  have r15 := fun d os => cell_regrown c15 d os
  have HB6 : Hid (∀ d os, Below w.heap.size w (Go.Sort.grow (redrawn W1 d) os)) := Lib.hid fun d os => HB1.out.1.trans ((below_regrown W1 d os).mono HB1.out.1.size)
  clear q0 q1 q2 q3 c0 c1 c2 c3 c4 c5 c6 c7 c8 c9 c10 c11 c12 c13 c14 c15
  refine wp_region_quiet_below (by kernel_rfl) (by kernel_rfl) ?_
  repeat (go_big_quiet_step ((first | (go_at_call 17; exact Calls.regrown_of (HW1.out _)) | (go_at_call 34; exact Calls.regrown_of (HW2.out _)) | (go_at_call 20; exact Calls.regrown_of (HR1.out _ (HB6.out _ _))) | (go_at_call 35; exact Calls.regrown_of (HR2.out _ (HB6.out _ _))) | (go_at_call 21; exact Calls.regrown_of (HAw.out _)))))
  refine wpQuiet_nil ?_
  intro _ hw'
  obtain ⟨pq, hw''⟩ := hw'
  subst hw''
  have hb1 := HB6.out pq.d pq.os
  go_wp2_with fail
  go_ret
  exact ⟨rfl, hb1⟩
end Go.Proofs.Ytpdahbfjbgcmgaa
