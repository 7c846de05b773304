/-
  MsgWrites walked. WRITTEN BY wip/tools/gen_mgww.py.
-/
import Derived.Test.YtpdahbfjbgcmgaaRMgBackH
import Derived.Test.YtpdahbfjbgcmgaaRMgRefW
import Derived.Test.YtpdahbfjbgcmgaaRMgOpen
import Derived.Deep.DeepCutAuto
import Derived.Deep.CutBlock
import Derived.Lib.QuietBelow
set_option linter.unusedSimpArgs false
set_option linter.unusedVariables false
namespace Go.Proofs.Ytpdahbfjbgcmgaa
open Go.RowKit
set_option maxRecDepth 100000 in
set_option maxHeartbeats 16000000 in
theorem msgWrites_walk (w : World) (m : Mg.M) (A : Option Addr) (cap : Nat) (gv : GivenM w m A cap) (n : Mg.M) (B : Option Addr) (cb : Nat) (gw : GivenM w n B cb) :
    Calls Try.prog 11 #[.agg (msgC m A cap), .agg (msgC n B cb)] w fun r w' => r = .returned (.bool true) ∧ Below w.heap.size w w' := by
  have HG := Lib.hid (fun W (hb : Below w.heap.size w W) => great_any5 m A cap W (gv.lies.below hb) gv.body gv.len)
  have HG2 := Lib.hid (fun W (hb : Below w.heap.size w W) => great_any5 n B cb W (gw.lies.below hb) gw.body gw.len)
  have HAw := Lib.hid mAwake_any
  have F := msgF m A cap
  have F2 := msgF n B cb
  obtain ⟨X, hX⟩ : ∃ X, X = msgC m A cap := ⟨_, rfl⟩
  obtain ⟨Y, hY⟩ : ∃ X, X = msgC n B cb := ⟨_, rfl⟩
  rw [← hX] at F ⊢
  rw [← hY] at F2 ⊢
  obtain ⟨hx, _, x0, x1, x2, x3, x4, x5, x6, x7, x8, x9, x10, x11, x12⟩ := F
  obtain ⟨hy, _, y0, y1, y2, y3, y4, y5, y6, y7, y8, y9, y10, y11, y12⟩ := F2
  have HX := Lib.hid hX
  have HY := Lib.hid hY
  have HRY : Hid (∀ w1, Below ((w.alloc (.cells X 63)).alloc (.cells Y 63)).heap.size ((w.alloc (.cells X 63)).alloc (.cells Y 63)) w1 → w1.heap[w.heap.size]? = some (.cells (msgC m A cap) 63 (0, 0)) ∧ w1.heap[w.heap.size + 1]? = some (.cells (msgC n B cb) 63 (0, 0))) := Lib.hid fun w1 hb => by
    have h1 : w1.heap[w.heap.size]? = some (.cells X 63 (0, 0)) := (hb.block _ (by simp; omega)).trans ((Below.heap_alloc _ _ _ (by simp)).trans (heap_alloc_new w _))
    have h2 : w1.heap[w.heap.size + 1]? = some (.cells Y 63 (0, 0)) := by
      have := heap_alloc_new (w.alloc (.cells X 63)) (.cells Y 63)
      rw [World.size_alloc] at this
      exact (hb.block _ (by simp)).trans this
    rw [← hX, ← hY]
    exact ⟨h1, h2⟩
  unfold msgC at HG HG2
  clear hX hY
  have HB0 : Hid (Below w.heap.size w ((w.alloc (.cells X 63)).alloc (.cells Y 63))) := Lib.hid (bnew (bnew (Below.refl _ _) _) _)
  rcases hgr : Mg.great m with _ | _
  case true =>
    rw [hgr] at HG
    clear hgr gv gw
    go_enter Try.func11, Try.ntmps11
    go_wp2_with fail
    refine (HG.out _ HB0.out).mono ?_
    rintro r w1 ⟨rfl, hb1⟩
    have HB1 := Lib.hid (bnext HB0.out hb1)
    clear hb1
    go_wp2_with fail
    refine (HAw.out _).mono ?_
    rintro r w2 ⟨rfl, hb2⟩
    go_wp2_with fail
    go_ret
    exact ⟨rfl, bnext HB1.out hb2⟩
  rw [hgr] at HG
  rcases hgr2 : Mg.great n with _ | _
  case true =>
    rw [hgr2] at HG2
    clear hgr hgr2 gv gw
    go_enter Try.func11, Try.ntmps11
    go_wp2_with fail
    refine (HG.out _ HB0.out).mono ?_
    rintro r w1 ⟨rfl, hb1⟩
    have HB1 := Lib.hid (And.intro (bnext HB0.out hb1) hb1)
    obtain ⟨_, hr2⟩ := HRY.out w1 hb1
    have f0 := (msgAt hr2).c0
    have f1 := (msgAt hr2).c1
    have f2 := (msgAt hr2).c2
    have f3 := (msgAt hr2).c3
    have f4 := (msgAt hr2).c4
    have f5 := (msgAt hr2).c5
    have f6 := (msgAt hr2).c6
    have f7 := (msgAt hr2).c7
    have f8 := (msgAt hr2).c8
    have f9 := (msgAt hr2).c9
    have f10 := (msgAt hr2).c10
    have f11 := (msgAt hr2).c11
    have f12 := (msgAt hr2).c12
    clear hb1 hr2
    go_wp2_with fail
    refine (HG2.out _ HB1.out.1).mono ?_
    rintro r w2 ⟨rfl, hb2⟩
    have HB2 := Lib.hid (bnext HB1.out.1 hb2)
    clear hb2
    go_wp2_with fail
    refine (HAw.out _).mono ?_
    rintro r w3 ⟨rfl, hb3⟩
    go_wp2_with fail
    go_ret
    exact ⟨rfl, bnext HB2.out hb3⟩
  rw [hgr2] at HG2
  have OK : OkM m := ⟨gv.fits, Mg.small_of hgr⟩
  have OK2 : OkM n := ⟨gw.fits, Mg.small_of hgr2⟩
  have hn40 := OK.small.len
  have hbig := OK.big
  have hbz := OK.body
  have hn41 := OK2.small.len
  have HW : Hid (∀ W, Below w.heap.size w W → Calls Try.prog 37 #[.agg (msgC m A cap)] W fun r w' => r = .returned (.string (wrB m)) ∧ Below W.heap.size W w') := Lib.hid (fun W hb => mWrite_any m OK.fits (by omega) (by omega) (by omega) A cap W (gv.lies.below hb))
  have HWr : Hid (∀ W, Below w.heap.size w W → Calls Try.prog 45 #[.agg (msgC m A cap)] W fun r w' => r = .returned (.string (wrB m)) ∧ Below W.heap.size W w') := Lib.hid (fun W hb => mRefWrite_any m OK.fits (by omega) (by omega) (by omega) A cap W (gv.lies.below hb))
  have HR : Hid (∀ W, Below w.heap.size w W → Calls Try.prog 38 #[.agg (msgC m A cap)] W fun r w' => r = .returned (.bool (Mg.may m)) ∧ Below W.heap.size W w') := Lib.hid (fun W hb => mRight_any m A cap W (gv.lies.below hb))
  have HRr : Hid (∀ W, Below w.heap.size w W → Calls Try.prog 44 #[.agg (msgC m A cap)] W fun r w' => r = .returned (.bool (Mg.may m)) ∧ Below W.heap.size W w') := Lib.hid (fun W hb => mRefRight_any m A cap W (gv.lies.below hb))
  have HS : Hid (∀ W, Below w.heap.size w W → Calls Try.prog 40 #[.agg (msgC m A cap), .agg (msgC n B cb)] W fun r w' => r = .returned (.bool (decide (m = n))) ∧ Below W.heap.size W w') := Lib.hid (fun W hb => same_any5 m n A B cap cb W (gv.lies.below hb) (gw.lies.below hb) (by omega) (by omega))
  have HSr : Hid (∀ W, Below w.heap.size w W → Calls Try.prog 46 #[.agg (msgC m A cap), .agg (msgC n B cb)] W fun r w' => r = .returned (.bool (decide (m = n))) ∧ Below W.heap.size W w') := Lib.hid (fun W hb => refSame_any5 m n A B cap cb W (gv.lies.below hb) (gw.lies.below hb) (by omega) (by omega))
  have HSa : Hid (∀ W, Below w.heap.size w W → Calls Try.prog 40 #[.agg (msgC m A cap), .agg (msgC m A cap)] W fun r w' => r = .returned (.bool true) ∧ Below W.heap.size W w') := Lib.hid (fun W hb => by
    have := same_any5 m m A A cap cap W (gv.lies.below hb) (gv.lies.below hb) (by omega) (by omega)
    rw [decide_eq_true rfl] at this
    exact this)
  unfold msgC at HW HWr HR HRr HS HSr HSa
  obtain ⟨t, ht⟩ : ∃ t, t = wrB m := ⟨_, rfl⟩
  obtain ⟨b, hb⟩ : ∃ b, b = Mg.may m := ⟨_, rfl⟩
  obtain ⟨z, hz⟩ : ∃ z, z = decide (m = n) := ⟨_, rfl⟩
  rw [← ht] at HW HWr
  rw [← hb] at HR HRr
  rw [← hz] at HS HSr
  have hbb : (b == b) = true := by cases b <;> rfl
  have hzz : (z == z) = true := by cases z <;> rfl
  have htt : (t.toList == t.toList) = true := by simp
  clear gv gw OK OK2 hgr hgr2 hn40 hn41 hbig hbz ht hb hz
  go_enter Try.func11, Try.ntmps11
  go_wp2_with fail
  refine (HG.out _ HB0.out).mono ?_
  rintro r w1 ⟨rfl, hb1⟩
  have HB1 := Lib.hid (And.intro (bnext HB0.out hb1) hb1)
  obtain ⟨_, hr2⟩ := HRY.out w1 hb1
  have f0 := (msgAt hr2).c0
  have f1 := (msgAt hr2).c1
  have f2 := (msgAt hr2).c2
  have f3 := (msgAt hr2).c3
  have f4 := (msgAt hr2).c4
  have f5 := (msgAt hr2).c5
  have f6 := (msgAt hr2).c6
  have f7 := (msgAt hr2).c7
  have f8 := (msgAt hr2).c8
  have f9 := (msgAt hr2).c9
  have f10 := (msgAt hr2).c10
  have f11 := (msgAt hr2).c11
  have f12 := (msgAt hr2).c12
  clear hb1 hr2
  go_wp2_with fail
  refine (HG2.out _ HB1.out.1).mono ?_
  rintro r w2 ⟨rfl, hb2⟩
  have HB2 := Lib.hid (And.intro (bnext HB1.out.1 hb2) (HRY.out w2 (bnext HB1.out.2 hb2)))
  clear hb2
  clear f0 f1 f2 f3 f4 f5 f6 f7 f8 f9 f10 f11 f12
  go_upto_region 3 with (fail)
  refine forget (fun W => Below w.heap.size w W ∧ W.heap[w.heap.size]? = some (.cells (msgC m A cap) 63 (0, 0)) ∧ W.heap[w.heap.size + 1]? = some (.cells (msgC n B cb) 63 (0, 0))) HB2.out ?_
  clear HB2 HB1 HB0 HRY x0 x1 x2 x3 x4 x5 x6 x7 x8 x9 x10 x11 x12 y0 y1 y2 y3 y4 y5 y6 y7 y8 y9 y10 y11 y12
  rintro W5 ⟨hb5, hr1, hr2⟩
  obtain ⟨a0, a1, a2, a3, a4, a5, a6, a7, a8, a9, a10, a11, a12, _⟩ := msgAt hr1
  obtain ⟨b0, b1, b2, b3, b4, b5, b6, b7, b8, b9, b10, b11, b12, _⟩ := msgAt hr2
  have k0 := fun d os => cell_regrown a0 d os
  have l0 := fun d os => cell_regrown b0 d os
  have k1 := fun d os => cell_regrown a1 d os
  have l1 := fun d os => cell_regrown b1 d os
  have k2 := fun d os => cell_regrown a2 d os
  have l2 := fun d os => cell_regrown b2 d os
  have k3 := fun d os => cell_regrown a3 d os
  have l3 := fun d os => cell_regrown b3 d os
  have k4 := fun d os => cell_regrown a4 d os
  have l4 := fun d os => cell_regrown b4 d os
  have k5 := fun d os => cell_regrown a5 d os
  have l5 := fun d os => cell_regrown b5 d os
  have k6 := fun d os => cell_regrown a6 d os
  have l6 := fun d os => cell_regrown b6 d os
  have k7 := fun d os => cell_regrown a7 d os
  have l7 := fun d os => cell_regrown b7 d os
  have k8 := fun d os => cell_regrown a8 d os
  have l8 := fun d os => cell_regrown b8 d os
  have k9 := fun d os => cell_regrown a9 d os
  have l9 := fun d os => cell_regrown b9 d os
  have k10 := fun d os => cell_regrown a10 d os
  have l10 := fun d os => cell_regrown b10 d os
  have k11 := fun d os => cell_regrown a11 d os
  have l11 := fun d os => cell_regrown b11 d os
  have k12 := fun d os => cell_regrown a12 d os
  have l12 := fun d os => cell_regrown b12 d os
  have HB5 := Lib.hid hb5
  clear hb5 hr1 hr2 a0 b0 a1 b1 a2 b2 a3 b3 a4 b4 a5 b5 a6 b6 a7 b7 a8 b8 a9 b9 a10 b10 a11 b11 a12 b12
  refine wp_region_quiet_below (by kernel_rfl) (by kernel_rfl) ?_
  repeat (go_big_quiet_step (fail))
  go_big_quiet_step ((go_at_call 38; exact Calls.regrown_of (HR.out _ (bnext HB5.out (below_regrown _ _ _)))))
  repeat (go_big_quiet_step (fail))
  go_big_quiet_step ((go_at_call 44; exact Calls.regrown_of (HRr.out _ (bnext HB5.out (below_regrown _ _ _)))))
  repeat (go_big_quiet_step (fail))
  go_big_quiet_step ((go_at_call 37; exact Calls.regrown_of (HW.out _ (bnext HB5.out (below_regrown _ _ _)))))
  repeat (go_big_quiet_step (fail))
  go_big_quiet_step ((go_at_call 45; exact Calls.regrown_of (HWr.out _ (bnext HB5.out (below_regrown _ _ _)))))
  repeat (go_big_quiet_step (fail))
  go_big_quiet_step ((go_at_call 40; exact Calls.regrown_of (HS.out _ (bnext HB5.out (below_regrown _ _ _)))))
  repeat (go_big_quiet_step (fail))
  go_big_quiet_step ((go_at_call 46; exact Calls.regrown_of (HSr.out _ (bnext HB5.out (below_regrown _ _ _)))))
  repeat (go_big_quiet_step (fail))
  go_big_quiet_step ((go_at_call 40; exact Calls.regrown_of (HSa.out _ (bnext HB5.out (below_regrown _ _ _)))))
  repeat (go_big_quiet_step (fail))
  go_big_quiet_step ((go_at_call 42; exact Calls.regrown_of (HAw.out _)))
  repeat (go_big_quiet_step (fail))
  refine wpQuiet_nil ?_
  intro _ hw'
  obtain ⟨pq, hw''⟩ := hw'
  subst hw''
  have hb1 := below_regrown W5 pq.d pq.os
  go_wp2_with fail
  go_ret
  exact ⟨rfl, bnext HB5.out hb1⟩
end Go.Proofs.Ytpdahbfjbgcmgaa
