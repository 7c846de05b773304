/-
  wapentakeref03.MayOper walked: numbers out of range. WRITTEN BY wip/tools/gen_orref.py.
  wapentakeref03.MayOper walked: what is not plain. WRITTEN BY wip/tools/gen_orref.py.
  wapentakeref03.MayOper walked: slots. WRITTEN BY wip/tools/gen_orref.py.
  wapentakeref03.MayOper walked: roles. WRITTEN BY wip/tools/gen_orref.py.
  wapentakeref03.MayOper walked: of principals. WRITTEN BY wip/tools/gen_orref.py.
  wapentakeref03.MayOper walked: of tenants. WRITTEN BY wip/tools/gen_orref.py.
  wapentakeref03.MayOper walked: nodes. WRITTEN BY wip/tools/gen_orref.py.
  wapentakeref03.MayOper walked: of members. WRITTEN BY wip/tools/gen_orref.py.
  wapentakeref03.MayOper walked: all. WRITTEN BY wip/tools/gen_orref.py.
-/
import Derived.Test.YtlcgjlganmblpaaROrT
set_option linter.unusedSimpArgs false
set_option linter.unusedVariables false
namespace Go.Proofs.Ytlcgjlganmblpaa
open Go.RowKit
set_option linter.unusedVariables false
set_option maxRecDepth 100000 in
set_option maxHeartbeats 8000000 in
theorem mayOper_a (c : Og.Oper) (w : World) (h1 : ¬ 1 ≤ c.op) : Calls Try.prog 41 #[.agg (operC c)] w (RetTr (decide (Og.may c)) w) := by
  have hsz := operC_size c
  obtain ⟨Y, hY⟩ : ∃ Y, Y = operC (Og.plain c) := ⟨_, rfl⟩
  have hp := fun W => plainOper_any c W
  have hne := fun W => oper_neq c (Og.plain c) W
  rw [← hY] at hp hne
  obtain ⟨b, hb⟩ : ∃ b, b = decide (c = Og.plain c) := ⟨_, rfl⟩
  rw [← hb] at hne
  have HB := Lib.hid hb
  have Hmay := Lib.hid (Og.may_iff c)
  unfold operC at hp hne
  have HP := Lib.hid hp
  have Hne := Lib.hid hne
  clear hp hne hb hY
  have hk1 := fun W => bounded_any c.keys W
  obtain ⟨k1, ek1⟩ : ∃ k, k = decide (Og.amt c.keys) := ⟨_, rfl⟩
  rw [← ek1] at hk1
  have Hk1 := Lib.hid hk1
  have Ek1 := Lib.hid ek1
  clear hk1 ek1
  have hk2 := fun W => bounded_any c.bytes W
  obtain ⟨k2, ek2⟩ : ∃ k, k = decide (Og.amt c.bytes) := ⟨_, rfl⟩
  rw [← ek2] at hk2
  have Hk2 := Lib.hid hk2
  have Ek2 := Lib.hid ek2
  clear hk2 ek2
  have hk3 := fun W => bounded_any c.rate W
  obtain ⟨k3, ek3⟩ : ∃ k, k = decide (Og.amt c.rate) := ⟨_, rfl⟩
  rw [← ek3] at hk3
  have Hk3 := Lib.hid hk3
  have Ek3 := Lib.hid ek3
  clear hk3 ek3
  have hk4 := fun W => bounded_any c.burst W
  obtain ⟨k4, ek4⟩ : ∃ k, k = decide (Og.amt c.burst) := ⟨_, rfl⟩
  rw [← ek4] at hk4
  have Hk4 := Lib.hid hk4
  have Ek4 := Lib.hid ek4
  clear hk4 ek4
  obtain ⟨X, hX⟩ : ∃ X, X = operC c := ⟨_, rfl⟩
  rw [← hX] at hsz ⊢
  unfold RetTr
  have HX := Lib.hid hX
  clear hX
  go_enter Try.func41, Try.ntmps41
  go_upto_region 1 with (fail)
  refine forget (fun W => Below w.heap.size w W ∧ W.heap[w.heap.size]? = some (.cells (operC c) 26 (0, 0))) ⟨bnew (Below.refl _ _) _, by rw [← HX.out]; exact heap_alloc_new w _⟩ ?_
  rintro W0 ⟨hb0, hr0⟩
  obtain ⟨g, hg⟩ : ∃ g, g = w.heap.size := ⟨_, rfl⟩
  rw [← hg] at hr0 ⊢
  have hlt := (Array.getElem?_eq_some_iff.1 hr0).1
  have HR := Lib.hid (And.intro hb0 (And.intro hr0 hlt))
  have HG := Lib.hid hg
  obtain ⟨c0, c1, c2, c3, c4, c5, c6, c7, c8, c9, c10, c11, c12, c13, c14, c15, _⟩ := operAt hr0
  have r0 := fun d os => cell_regrown c0 d os
  have r1 := fun d os => cell_regrown c1 d os
  have r2 := fun d os => cell_regrown c2 d os
  have r3 := fun d os => cell_regrown c3 d os
  have r4 := fun d os => cell_regrown c4 d os
  have r5 := fun d os => cell_regrown c5 d os
  have r6 := fun d os => cell_regrown c6 d os
  have r7 := fun d os => cell_regrown c7 d os
  have r8 := fun d os => cell_regrown c8 d os
  have r9 := fun d os => cell_regrown c9 d os
  have r10 := fun d os => cell_regrown c10 d os
  have r11 := fun d os => cell_regrown c11 d os
  have r12 := fun d os => cell_regrown c12 d os
  have r13 := fun d os => cell_regrown c13 d os
  have r14 := fun d os => cell_regrown c14 d os
  have r15 := fun d os => cell_regrown c15 d os
  clear hb0 hr0 hg hsz hlt c0 c1 c2 c3 c4 c5 c6 c7 c8 c9 c10 c11 c12 c13 c14 c15
  have an : decide (c.op < 1) = true := by simp; omega
  have ai : decide ((c.op : Int) < 1) = true := by simp; omega
  have ap : ((c.op : Int) < 1) = True := by simp; omega
  have EE : Hid (decide (Og.may c) = false) := Lib.hid (decide_eq_false (fun h => by have hm := Hmay.out.1 h; omega))
  clear h1
  refine wp_region_quiet_below (by kernel_rfl) (by kernel_rfl) ?_
  repeat (go_big_quiet_step (fail))
  refine wpQuiet_nil ?_
  intro _ hw'
  obtain ⟨pq, hw''⟩ := hw'
  subst hw''
  have hb1 := below_regrown W0 pq.d pq.os
  clear r0 r1 r2 r3 r4 r5 r6 r7 r8 r9 r10 r11 r12 r13 r14 r15
  generalize Go.Sort.grow (redrawn W0 pq.d) pq.os = W1 at *
  have HB1 := Lib.hid (And.intro (bnext HR.out.1 hb1) ((hb1.block _ HR.out.2.2).trans HR.out.2.1))
  clear hb1
  go_wp2_with fail
  go_ret
  exact ⟨by rw [EE.out]; rfl, HB1.out.1⟩
set_option maxRecDepth 100000 in
set_option maxHeartbeats 8000000 in
theorem mayOper_b (c : Og.Oper) (w : World) (h1 : 1 ≤ c.op) (h7 : ¬ c.op ≤ 7) : Calls Try.prog 41 #[.agg (operC c)] w (RetTr (decide (Og.may c)) w) := by
  have hsz := operC_size c
  obtain ⟨Y, hY⟩ : ∃ Y, Y = operC (Og.plain c) := ⟨_, rfl⟩
  have hp := fun W => plainOper_any c W
  have hne := fun W => oper_neq c (Og.plain c) W
  rw [← hY] at hp hne
  obtain ⟨b, hb⟩ : ∃ b, b = decide (c = Og.plain c) := ⟨_, rfl⟩
  rw [← hb] at hne
  have HB := Lib.hid hb
  have Hmay := Lib.hid (Og.may_iff c)
  unfold operC at hp hne
  have HP := Lib.hid hp
  have Hne := Lib.hid hne
  clear hp hne hb hY
  have hk1 := fun W => bounded_any c.keys W
  obtain ⟨k1, ek1⟩ : ∃ k, k = decide (Og.amt c.keys) := ⟨_, rfl⟩
  rw [← ek1] at hk1
  have Hk1 := Lib.hid hk1
  have Ek1 := Lib.hid ek1
  clear hk1 ek1
  have hk2 := fun W => bounded_any c.bytes W
  obtain ⟨k2, ek2⟩ : ∃ k, k = decide (Og.amt c.bytes) := ⟨_, rfl⟩
  rw [← ek2] at hk2
  have Hk2 := Lib.hid hk2
  have Ek2 := Lib.hid ek2
  clear hk2 ek2
  have hk3 := fun W => bounded_any c.rate W
  obtain ⟨k3, ek3⟩ : ∃ k, k = decide (Og.amt c.rate) := ⟨_, rfl⟩
  rw [← ek3] at hk3
  have Hk3 := Lib.hid hk3
  have Ek3 := Lib.hid ek3
  clear hk3 ek3
  have hk4 := fun W => bounded_any c.burst W
  obtain ⟨k4, ek4⟩ : ∃ k, k = decide (Og.amt c.burst) := ⟨_, rfl⟩
  rw [← ek4] at hk4
  have Hk4 := Lib.hid hk4
  have Ek4 := Lib.hid ek4
  clear hk4 ek4
  obtain ⟨X, hX⟩ : ∃ X, X = operC c := ⟨_, rfl⟩
  rw [← hX] at hsz ⊢
  unfold RetTr
  have HX := Lib.hid hX
  clear hX
  go_enter Try.func41, Try.ntmps41
  go_upto_region 1 with (fail)
  refine forget (fun W => Below w.heap.size w W ∧ W.heap[w.heap.size]? = some (.cells (operC c) 26 (0, 0))) ⟨bnew (Below.refl _ _) _, by rw [← HX.out]; exact heap_alloc_new w _⟩ ?_
  rintro W0 ⟨hb0, hr0⟩
  obtain ⟨g, hg⟩ : ∃ g, g = w.heap.size := ⟨_, rfl⟩
  rw [← hg] at hr0 ⊢
  have hlt := (Array.getElem?_eq_some_iff.1 hr0).1
  have HR := Lib.hid (And.intro hb0 (And.intro hr0 hlt))
  have HG := Lib.hid hg
  obtain ⟨c0, c1, c2, c3, c4, c5, c6, c7, c8, c9, c10, c11, c12, c13, c14, c15, _⟩ := operAt hr0
  have r0 := fun d os => cell_regrown c0 d os
  have r1 := fun d os => cell_regrown c1 d os
  have r2 := fun d os => cell_regrown c2 d os
  have r3 := fun d os => cell_regrown c3 d os
  have r4 := fun d os => cell_regrown c4 d os
  have r5 := fun d os => cell_regrown c5 d os
  have r6 := fun d os => cell_regrown c6 d os
  have r7 := fun d os => cell_regrown c7 d os
  have r8 := fun d os => cell_regrown c8 d os
  have r9 := fun d os => cell_regrown c9 d os
  have r10 := fun d os => cell_regrown c10 d os
  have r11 := fun d os => cell_regrown c11 d os
  have r12 := fun d os => cell_regrown c12 d os
  have r13 := fun d os => cell_regrown c13 d os
  have r14 := fun d os => cell_regrown c14 d os
  have r15 := fun d os => cell_regrown c15 d os
  clear hb0 hr0 hg hsz hlt c0 c1 c2 c3 c4 c5 c6 c7 c8 c9 c10 c11 c12 c13 c14 c15
  have an : decide (c.op < 1) = false := by simp; omega
  have ai : decide ((c.op : Int) < 1) = false := by simp; omega
  have ap : ((c.op : Int) < 1) = False := by simp; omega
  have dn : decide (7 < c.op) = true := by simp; omega
  have di : decide ((7 : Int) < (c.op : Int)) = true := by simp; omega
  have dp : ((7 : Int) < (c.op : Int)) = True := by simp; omega
  have EE : Hid (decide (Og.may c) = false) := Lib.hid (decide_eq_false (fun h => by have hm := Hmay.out.1 h; omega))
  clear h1 h7
  refine wp_region_quiet_below (by kernel_rfl) (by kernel_rfl) ?_
  repeat (go_big_quiet_step (fail))
  refine wpQuiet_nil ?_
  intro _ hw'
  obtain ⟨pq, hw''⟩ := hw'
  subst hw''
  have hb1 := below_regrown W0 pq.d pq.os
  clear r0 r1 r2 r3 r4 r5 r6 r7 r8 r9 r10 r11 r12 r13 r14 r15
  generalize Go.Sort.grow (redrawn W0 pq.d) pq.os = W1 at *
  have HB1 := Lib.hid (And.intro (bnext HR.out.1 hb1) ((hb1.block _ HR.out.2.2).trans HR.out.2.1))
  clear hb1
  go_wp2_with fail
  go_ret
  exact ⟨by rw [EE.out]; rfl, HB1.out.1⟩
end Go.Proofs.Ytlcgjlganmblpaa
namespace Go.Proofs.Ytlcgjlganmblpaa
open Go.RowKit
set_option linter.unusedVariables false
set_option maxRecDepth 100000 in
set_option maxHeartbeats 8000000 in
theorem mayOper_c (c : Og.Oper) (w : World) (h1 : 1 ≤ c.op) (h7 : c.op ≤ 7) (Hpe : Hid (¬ c = Og.plain c)) : Calls Try.prog 41 #[.agg (operC c)] w (RetTr (decide (Og.may c)) w) := by
  have hsz := operC_size c
  obtain ⟨Y, hY⟩ : ∃ Y, Y = operC (Og.plain c) := ⟨_, rfl⟩
  have hp := fun W => plainOper_any c W
  have hne := fun W => oper_neq c (Og.plain c) W
  rw [← hY] at hp hne
  obtain ⟨b, hb⟩ : ∃ b, b = decide (c = Og.plain c) := ⟨_, rfl⟩
  rw [← hb] at hne
  have HB := Lib.hid hb
  have Hmay := Lib.hid (Og.may_iff c)
  unfold operC at hp hne
  have HP := Lib.hid hp
  have Hne := Lib.hid hne
  clear hp hne hb hY
  have hk1 := fun W => bounded_any c.keys W
  obtain ⟨k1, ek1⟩ : ∃ k, k = decide (Og.amt c.keys) := ⟨_, rfl⟩
  rw [← ek1] at hk1
  have Hk1 := Lib.hid hk1
  have Ek1 := Lib.hid ek1
  clear hk1 ek1
  have hk2 := fun W => bounded_any c.bytes W
  obtain ⟨k2, ek2⟩ : ∃ k, k = decide (Og.amt c.bytes) := ⟨_, rfl⟩
  rw [← ek2] at hk2
  have Hk2 := Lib.hid hk2
  have Ek2 := Lib.hid ek2
  clear hk2 ek2
  have hk3 := fun W => bounded_any c.rate W
  obtain ⟨k3, ek3⟩ : ∃ k, k = decide (Og.amt c.rate) := ⟨_, rfl⟩
  rw [← ek3] at hk3
  have Hk3 := Lib.hid hk3
  have Ek3 := Lib.hid ek3
  clear hk3 ek3
  have hk4 := fun W => bounded_any c.burst W
  obtain ⟨k4, ek4⟩ : ∃ k, k = decide (Og.amt c.burst) := ⟨_, rfl⟩
  rw [← ek4] at hk4
  have Hk4 := Lib.hid hk4
  have Ek4 := Lib.hid ek4
  clear hk4 ek4
  obtain ⟨X, hX⟩ : ∃ X, X = operC c := ⟨_, rfl⟩
  rw [← hX] at hsz ⊢
  unfold RetTr
  have HX := Lib.hid hX
  clear hX
  go_enter Try.func41, Try.ntmps41
  go_upto_region 1 with (fail)
  refine forget (fun W => Below w.heap.size w W ∧ W.heap[w.heap.size]? = some (.cells (operC c) 26 (0, 0))) ⟨bnew (Below.refl _ _) _, by rw [← HX.out]; exact heap_alloc_new w _⟩ ?_
  rintro W0 ⟨hb0, hr0⟩
  obtain ⟨g, hg⟩ : ∃ g, g = w.heap.size := ⟨_, rfl⟩
  rw [← hg] at hr0 ⊢
  have hlt := (Array.getElem?_eq_some_iff.1 hr0).1
  have HR := Lib.hid (And.intro hb0 (And.intro hr0 hlt))
  have HG := Lib.hid hg
  obtain ⟨c0, c1, c2, c3, c4, c5, c6, c7, c8, c9, c10, c11, c12, c13, c14, c15, _⟩ := operAt hr0
  have r0 := fun d os => cell_regrown c0 d os
  have r1 := fun d os => cell_regrown c1 d os
  have r2 := fun d os => cell_regrown c2 d os
  have r3 := fun d os => cell_regrown c3 d os
  have r4 := fun d os => cell_regrown c4 d os
  have r5 := fun d os => cell_regrown c5 d os
  have r6 := fun d os => cell_regrown c6 d os
  have r7 := fun d os => cell_regrown c7 d os
  have r8 := fun d os => cell_regrown c8 d os
  have r9 := fun d os => cell_regrown c9 d os
  have r10 := fun d os => cell_regrown c10 d os
  have r11 := fun d os => cell_regrown c11 d os
  have r12 := fun d os => cell_regrown c12 d os
  have r13 := fun d os => cell_regrown c13 d os
  have r14 := fun d os => cell_regrown c14 d os
  have r15 := fun d os => cell_regrown c15 d os
  clear hb0 hr0 hg hsz hlt c0 c1 c2 c3 c4 c5 c6 c7 c8 c9 c10 c11 c12 c13 c14 c15
  have an : decide (c.op < 1) = false := by simp; omega
  have ai : decide ((c.op : Int) < 1) = false := by simp; omega
  have ap : ((c.op : Int) < 1) = False := by simp; omega
  have dn : decide (7 < c.op) = false := by simp; omega
  have di : decide ((7 : Int) < (c.op : Int)) = false := by simp; omega
  have dp : ((7 : Int) < (c.op : Int)) = False := by simp; omega
  have Hop : Hid (1 ≤ c.op ∧ c.op ≤ 7) := Lib.hid ⟨h1, h7⟩
  have hne := Hne.out
  have hpl := HP.out
  have hbt : b = false := by have := HB.out; rw [this]; exact decide_eq_false Hpe.out
  rw [hbt] at hne
  simp only [Bool.not_false] at hne
  have EE : Hid (decide (Og.may c) = false) := Lib.hid (decide_eq_false (fun h => by have hm := Hmay.out.1 h; exact Hpe.out hm.2.1))
  clear h1 h7 hbt
  refine wp_region_quiet_below (by kernel_rfl) (by kernel_rfl) ?_
  repeat (go_big_quiet_step ((go_at_call 65; exact Calls.regrown_of (HP.out _))))
  refine wpQuiet_nil ?_
  intro _ hw'
  obtain ⟨pq, hw''⟩ := hw'
  subst hw''
  have hb1 := below_regrown W0 pq.d pq.os
  clear r0 r1 r2 r3 r4 r5 r6 r7 r8 r9 r10 r11 r12 r13 r14 r15
  generalize Go.Sort.grow (redrawn W0 pq.d) pq.os = W1 at *
  have HB1 := Lib.hid (And.intro (bnext HR.out.1 hb1) ((hb1.block _ HR.out.2.2).trans HR.out.2.1))
  clear hb1
  go_wp2_with fail
  go_ret
  exact ⟨by rw [EE.out]; rfl, HB1.out.1⟩
end Go.Proofs.Ytlcgjlganmblpaa
namespace Go.Proofs.Ytlcgjlganmblpaa
open Go.RowKit
set_option linter.unusedVariables false
set_option maxRecDepth 100000 in
set_option maxHeartbeats 8000000 in
theorem mayOper_d (c : Og.Oper) (w : World) (h1 : 1 ≤ c.op) (h7 : c.op ≤ 7) (Hpe : Hid (c = Og.plain c)) (hs : ¬ c.slot ≤ 3) : Calls Try.prog 41 #[.agg (operC c)] w (RetTr (decide (Og.may c)) w) := by
  have hsz := operC_size c
  obtain ⟨Y, hY⟩ : ∃ Y, Y = operC (Og.plain c) := ⟨_, rfl⟩
  have hp := fun W => plainOper_any c W
  have hne := fun W => oper_neq c (Og.plain c) W
  rw [← hY] at hp hne
  obtain ⟨b, hb⟩ : ∃ b, b = decide (c = Og.plain c) := ⟨_, rfl⟩
  rw [← hb] at hne
  have HB := Lib.hid hb
  have Hmay := Lib.hid (Og.may_iff c)
  unfold operC at hp hne
  have HP := Lib.hid hp
  have Hne := Lib.hid hne
  clear hp hne hb hY
  have hk1 := fun W => bounded_any c.keys W
  obtain ⟨k1, ek1⟩ : ∃ k, k = decide (Og.amt c.keys) := ⟨_, rfl⟩
  rw [← ek1] at hk1
  have Hk1 := Lib.hid hk1
  have Ek1 := Lib.hid ek1
  clear hk1 ek1
  have hk2 := fun W => bounded_any c.bytes W
  obtain ⟨k2, ek2⟩ : ∃ k, k = decide (Og.amt c.bytes) := ⟨_, rfl⟩
  rw [← ek2] at hk2
  have Hk2 := Lib.hid hk2
  have Ek2 := Lib.hid ek2
  clear hk2 ek2
  have hk3 := fun W => bounded_any c.rate W
  obtain ⟨k3, ek3⟩ : ∃ k, k = decide (Og.amt c.rate) := ⟨_, rfl⟩
  rw [← ek3] at hk3
  have Hk3 := Lib.hid hk3
  have Ek3 := Lib.hid ek3
  clear hk3 ek3
  have hk4 := fun W => bounded_any c.burst W
  obtain ⟨k4, ek4⟩ : ∃ k, k = decide (Og.amt c.burst) := ⟨_, rfl⟩
  rw [← ek4] at hk4
  have Hk4 := Lib.hid hk4
  have Ek4 := Lib.hid ek4
  clear hk4 ek4
  obtain ⟨X, hX⟩ : ∃ X, X = operC c := ⟨_, rfl⟩
  rw [← hX] at hsz ⊢
  unfold RetTr
  have HX := Lib.hid hX
  clear hX
  go_enter Try.func41, Try.ntmps41
  go_upto_region 1 with (fail)
  refine forget (fun W => Below w.heap.size w W ∧ W.heap[w.heap.size]? = some (.cells (operC c) 26 (0, 0))) ⟨bnew (Below.refl _ _) _, by rw [← HX.out]; exact heap_alloc_new w _⟩ ?_
  rintro W0 ⟨hb0, hr0⟩
  obtain ⟨g, hg⟩ : ∃ g, g = w.heap.size := ⟨_, rfl⟩
  rw [← hg] at hr0 ⊢
  have hlt := (Array.getElem?_eq_some_iff.1 hr0).1
  have HR := Lib.hid (And.intro hb0 (And.intro hr0 hlt))
  have HG := Lib.hid hg
  obtain ⟨c0, c1, c2, c3, c4, c5, c6, c7, c8, c9, c10, c11, c12, c13, c14, c15, _⟩ := operAt hr0
  have r0 := fun d os => cell_regrown c0 d os
  have r1 := fun d os => cell_regrown c1 d os
  have r2 := fun d os => cell_regrown c2 d os
  have r3 := fun d os => cell_regrown c3 d os
  have r4 := fun d os => cell_regrown c4 d os
  have r5 := fun d os => cell_regrown c5 d os
  have r6 := fun d os => cell_regrown c6 d os
  have r7 := fun d os => cell_regrown c7 d os
  have r8 := fun d os => cell_regrown c8 d os
  have r9 := fun d os => cell_regrown c9 d os
  have r10 := fun d os => cell_regrown c10 d os
  have r11 := fun d os => cell_regrown c11 d os
  have r12 := fun d os => cell_regrown c12 d os
  have r13 := fun d os => cell_regrown c13 d os
  have r14 := fun d os => cell_regrown c14 d os
  have r15 := fun d os => cell_regrown c15 d os
  clear hb0 hr0 hg hsz hlt c0 c1 c2 c3 c4 c5 c6 c7 c8 c9 c10 c11 c12 c13 c14 c15
  have an : decide (c.op < 1) = false := by simp; omega
  have ai : decide ((c.op : Int) < 1) = false := by simp; omega
  have ap : ((c.op : Int) < 1) = False := by simp; omega
  have dn : decide (7 < c.op) = false := by simp; omega
  have di : decide ((7 : Int) < (c.op : Int)) = false := by simp; omega
  have dp : ((7 : Int) < (c.op : Int)) = False := by simp; omega
  have Hop : Hid (1 ≤ c.op ∧ c.op ≤ 7) := Lib.hid ⟨h1, h7⟩
  have hne := Hne.out
  have hpl := HP.out
  have hbt : b = true := by have := HB.out; rw [this]; exact decide_eq_true Hpe.out
  rw [hbt] at hne
  simp only [Bool.not_true] at hne
  have sn : decide (3 < c.slot) = true := by simp; omega
  have si : decide ((3 : Int) < (c.slot : Int)) = true := by simp; omega
  have sp : ((3 : Int) < (c.slot : Int)) = True := by simp; omega
  have EE : Hid (decide (Og.may c) = false) := Lib.hid (decide_eq_false (fun h => by have hm := Hmay.out.1 h; omega))
  clear h1 h7 hs hbt
  refine wp_region_quiet_below (by kernel_rfl) (by kernel_rfl) ?_
  repeat (go_big_quiet_step ((go_at_call 65; exact Calls.regrown_of (HP.out _))))
  refine wpQuiet_nil ?_
  intro _ hw'
  obtain ⟨pq, hw''⟩ := hw'
  subst hw''
  have hb1 := below_regrown W0 pq.d pq.os
  clear r0 r1 r2 r3 r4 r5 r6 r7 r8 r9 r10 r11 r12 r13 r14 r15
  generalize Go.Sort.grow (redrawn W0 pq.d) pq.os = W1 at *
  have HB1 := Lib.hid (And.intro (bnext HR.out.1 hb1) ((hb1.block _ HR.out.2.2).trans HR.out.2.1))
  clear hb1
  go_wp2_with fail
  go_ret
  exact ⟨by rw [EE.out]; rfl, HB1.out.1⟩
end Go.Proofs.Ytlcgjlganmblpaa
namespace Go.Proofs.Ytlcgjlganmblpaa
open Go.RowKit
set_option linter.unusedVariables false
set_option maxRecDepth 100000 in
set_option maxHeartbeats 8000000 in
theorem mayOper_e (c : Og.Oper) (w : World) (h1 : 1 ≤ c.op) (h7 : c.op ≤ 7) (Hpe : Hid (c = Og.plain c)) (hs : c.slot ≤ 3) (H2 : Hid (c.op = 2)) (hr : ¬ (1 ≤ c.role ∧ c.role ≤ 3)) : Calls Try.prog 41 #[.agg (operC c)] w (RetTr (decide (Og.may c)) w) := by
  have hsz := operC_size c
  obtain ⟨Y, hY⟩ : ∃ Y, Y = operC (Og.plain c) := ⟨_, rfl⟩
  have hp := fun W => plainOper_any c W
  have hne := fun W => oper_neq c (Og.plain c) W
  rw [← hY] at hp hne
  obtain ⟨b, hb⟩ : ∃ b, b = decide (c = Og.plain c) := ⟨_, rfl⟩
  rw [← hb] at hne
  have HB := Lib.hid hb
  have Hmay := Lib.hid (Og.may_iff c)
  unfold operC at hp hne
  have HP := Lib.hid hp
  have Hne := Lib.hid hne
  clear hp hne hb hY
  have hk1 := fun W => bounded_any c.keys W
  obtain ⟨k1, ek1⟩ : ∃ k, k = decide (Og.amt c.keys) := ⟨_, rfl⟩
  rw [← ek1] at hk1
  have Hk1 := Lib.hid hk1
  have Ek1 := Lib.hid ek1
  clear hk1 ek1
  have hk2 := fun W => bounded_any c.bytes W
  obtain ⟨k2, ek2⟩ : ∃ k, k = decide (Og.amt c.bytes) := ⟨_, rfl⟩
  rw [← ek2] at hk2
  have Hk2 := Lib.hid hk2
  have Ek2 := Lib.hid ek2
  clear hk2 ek2
  have hk3 := fun W => bounded_any c.rate W
  obtain ⟨k3, ek3⟩ : ∃ k, k = decide (Og.amt c.rate) := ⟨_, rfl⟩
  rw [← ek3] at hk3
  have Hk3 := Lib.hid hk3
  have Ek3 := Lib.hid ek3
  clear hk3 ek3
  have hk4 := fun W => bounded_any c.burst W
  obtain ⟨k4, ek4⟩ : ∃ k, k = decide (Og.amt c.burst) := ⟨_, rfl⟩
  rw [← ek4] at hk4
  have Hk4 := Lib.hid hk4
  have Ek4 := Lib.hid ek4
  clear hk4 ek4
  obtain ⟨X, hX⟩ : ∃ X, X = operC c := ⟨_, rfl⟩
  rw [← hX] at hsz ⊢
  unfold RetTr
  have HX := Lib.hid hX
  clear hX
  go_enter Try.func41, Try.ntmps41
  go_upto_region 1 with (fail)
  refine forget (fun W => Below w.heap.size w W ∧ W.heap[w.heap.size]? = some (.cells (operC c) 26 (0, 0))) ⟨bnew (Below.refl _ _) _, by rw [← HX.out]; exact heap_alloc_new w _⟩ ?_
  rintro W0 ⟨hb0, hr0⟩
  obtain ⟨g, hg⟩ : ∃ g, g = w.heap.size := ⟨_, rfl⟩
  rw [← hg] at hr0 ⊢
  have hlt := (Array.getElem?_eq_some_iff.1 hr0).1
  have HR := Lib.hid (And.intro hb0 (And.intro hr0 hlt))
  have HG := Lib.hid hg
  obtain ⟨c0, c1, c2, c3, c4, c5, c6, c7, c8, c9, c10, c11, c12, c13, c14, c15, _⟩ := operAt hr0
  have r0 := fun d os => cell_regrown c0 d os
  have r1 := fun d os => cell_regrown c1 d os
  have r2 := fun d os => cell_regrown c2 d os
  have r3 := fun d os => cell_regrown c3 d os
  have r4 := fun d os => cell_regrown c4 d os
  have r5 := fun d os => cell_regrown c5 d os
  have r6 := fun d os => cell_regrown c6 d os
  have r7 := fun d os => cell_regrown c7 d os
  have r8 := fun d os => cell_regrown c8 d os
  have r9 := fun d os => cell_regrown c9 d os
  have r10 := fun d os => cell_regrown c10 d os
  have r11 := fun d os => cell_regrown c11 d os
  have r12 := fun d os => cell_regrown c12 d os
  have r13 := fun d os => cell_regrown c13 d os
  have r14 := fun d os => cell_regrown c14 d os
  have r15 := fun d os => cell_regrown c15 d os
  clear hb0 hr0 hg hsz hlt c0 c1 c2 c3 c4 c5 c6 c7 c8 c9 c10 c11 c12 c13 c14 c15
  have an : decide (c.op < 1) = false := by simp; omega
  have ai : decide ((c.op : Int) < 1) = false := by simp; omega
  have ap : ((c.op : Int) < 1) = False := by simp; omega
  have dn : decide (7 < c.op) = false := by simp; omega
  have di : decide ((7 : Int) < (c.op : Int)) = false := by simp; omega
  have dp : ((7 : Int) < (c.op : Int)) = False := by simp; omega
  have Hop : Hid (1 ≤ c.op ∧ c.op ≤ 7) := Lib.hid ⟨h1, h7⟩
  have hne := Hne.out
  have hpl := HP.out
  have hbt : b = true := by have := HB.out; rw [this]; exact decide_eq_true Hpe.out
  rw [hbt] at hne
  simp only [Bool.not_true] at hne
  have sn : decide (3 < c.slot) = false := by simp; omega
  have si : decide ((3 : Int) < (c.slot : Int)) = false := by simp; omega
  have sp : ((3 : Int) < (c.slot : Int)) = False := by simp; omega
  have Hs := Lib.hid hs
  clear hs hbt
  refine wp_region_quiet_below (by kernel_rfl) (by kernel_rfl) ?_
  repeat (go_big_quiet_step ((go_at_call 65; exact Calls.regrown_of (HP.out _))))
  refine wpQuiet_nil ?_
  intro _ hw'
  obtain ⟨pq, hw''⟩ := hw'
  subst hw''
  have hb1 := below_regrown W0 pq.d pq.os
  clear r0 r1 r2 r3 r4 r5 r6 r7 r8 r9 r10 r11 r12 r13 r14 r15
  generalize Go.Sort.grow (redrawn W0 pq.d) pq.os = W1 at *
  have HB1 := Lib.hid (And.intro (bnext HR.out.1 hb1) ((hb1.block _ HR.out.2.2).trans HR.out.2.1))
  clear hb1
  obtain ⟨c0, c1, c2, c3, c4, c5, c6, c7, c8, c9, c10, c11, c12, c13, c14, c15, _⟩ := operAt HB1.out.2
  clear hne hpl
  go_upto_region 3 with (fail)
  have h2 := H2.out
  have q2 : ((c.op : Int) == 2) = true := by simp; omega
  have fn : decide (4 < c.op) = false := by simp; omega
  have fi : decide ((4 : Int) < (c.op : Int)) = false := by simp; omega
  have fp : ((4 : Int) < (c.op : Int)) = False := by simp; omega
  clear h2
  by_cases hr1 : 1 ≤ c.role
  case neg =>
    have un : decide (c.role < 1) = true := by simp; omega
    have ui : decide ((c.role : Int) < 1) = true := by simp; omega
    have up : ((c.role : Int) < 1) = True := by simp; omega
    have EE : Hid (decide (Og.may c) = false) := Lib.hid (decide_eq_false (fun h => by have hm := Hmay.out.1 h; have := H2.out; omega))
    clear h1 h7 hr1 hr
    go_wp2_with fail
    go_ret
    exact ⟨by rw [EE.out]; rfl, HB1.out.1⟩
  have un : decide (c.role < 1) = false := by simp; omega
  have ui : decide ((c.role : Int) < 1) = false := by simp; omega
  have up : ((c.role : Int) < 1) = False := by simp; omega
  have xn : decide (3 < c.role) = true := by simp; omega
  have xi : decide ((3 : Int) < (c.role : Int)) = true := by simp; omega
  have xp : ((3 : Int) < (c.role : Int)) = True := by simp; omega
  have EE : Hid (decide (Og.may c) = false) := Lib.hid (decide_eq_false (fun h => by have hm := Hmay.out.1 h; have := H2.out; omega))
  clear h1 h7 hr1 hr
  go_wp2_with fail
  go_ret
  exact ⟨by rw [EE.out]; rfl, HB1.out.1⟩
end Go.Proofs.Ytlcgjlganmblpaa
namespace Go.Proofs.Ytlcgjlganmblpaa
open Go.RowKit
set_option linter.unusedVariables false
set_option maxRecDepth 100000 in
set_option maxHeartbeats 8000000 in
theorem mayOper_f (c : Og.Oper) (w : World) (h1 : 1 ≤ c.op) (h7 : c.op ≤ 7) (Hpe : Hid (c = Og.plain c)) (hs : c.slot ≤ 3) (H2 : Hid (c.op = 2)) (hr1 : 1 ≤ c.role) (hr3 : c.role ≤ 3) : Calls Try.prog 41 #[.agg (operC c)] w (RetTr (decide (Og.may c)) w) := by
  have hsz := operC_size c
  obtain ⟨Y, hY⟩ : ∃ Y, Y = operC (Og.plain c) := ⟨_, rfl⟩
  have hp := fun W => plainOper_any c W
  have hne := fun W => oper_neq c (Og.plain c) W
  rw [← hY] at hp hne
  obtain ⟨b, hb⟩ : ∃ b, b = decide (c = Og.plain c) := ⟨_, rfl⟩
  rw [← hb] at hne
  have HB := Lib.hid hb
  have Hmay := Lib.hid (Og.may_iff c)
  unfold operC at hp hne
  have HP := Lib.hid hp
  have Hne := Lib.hid hne
  clear hp hne hb hY
  have hk1 := fun W => bounded_any c.keys W
  obtain ⟨k1, ek1⟩ : ∃ k, k = decide (Og.amt c.keys) := ⟨_, rfl⟩
  rw [← ek1] at hk1
  have Hk1 := Lib.hid hk1
  have Ek1 := Lib.hid ek1
  clear hk1 ek1
  have hk2 := fun W => bounded_any c.bytes W
  obtain ⟨k2, ek2⟩ : ∃ k, k = decide (Og.amt c.bytes) := ⟨_, rfl⟩
  rw [← ek2] at hk2
  have Hk2 := Lib.hid hk2
  have Ek2 := Lib.hid ek2
  clear hk2 ek2
  have hk3 := fun W => bounded_any c.rate W
  obtain ⟨k3, ek3⟩ : ∃ k, k = decide (Og.amt c.rate) := ⟨_, rfl⟩
  rw [← ek3] at hk3
  have Hk3 := Lib.hid hk3
  have Ek3 := Lib.hid ek3
  clear hk3 ek3
  have hk4 := fun W => bounded_any c.burst W
  obtain ⟨k4, ek4⟩ : ∃ k, k = decide (Og.amt c.burst) := ⟨_, rfl⟩
  rw [← ek4] at hk4
  have Hk4 := Lib.hid hk4
  have Ek4 := Lib.hid ek4
  clear hk4 ek4
  obtain ⟨X, hX⟩ : ∃ X, X = operC c := ⟨_, rfl⟩
  rw [← hX] at hsz ⊢
  unfold RetTr
  have HX := Lib.hid hX
  clear hX
  go_enter Try.func41, Try.ntmps41
  go_upto_region 1 with (fail)
  refine forget (fun W => Below w.heap.size w W ∧ W.heap[w.heap.size]? = some (.cells (operC c) 26 (0, 0))) ⟨bnew (Below.refl _ _) _, by rw [← HX.out]; exact heap_alloc_new w _⟩ ?_
  rintro W0 ⟨hb0, hr0⟩
  obtain ⟨g, hg⟩ : ∃ g, g = w.heap.size := ⟨_, rfl⟩
  rw [← hg] at hr0 ⊢
  have hlt := (Array.getElem?_eq_some_iff.1 hr0).1
  have HR := Lib.hid (And.intro hb0 (And.intro hr0 hlt))
  have HG := Lib.hid hg
  obtain ⟨c0, c1, c2, c3, c4, c5, c6, c7, c8, c9, c10, c11, c12, c13, c14, c15, _⟩ := operAt hr0
  have r0 := fun d os => cell_regrown c0 d os
  have r1 := fun d os => cell_regrown c1 d os
  have r2 := fun d os => cell_regrown c2 d os
  have r3 := fun d os => cell_regrown c3 d os
  have r4 := fun d os => cell_regrown c4 d os
  have r5 := fun d os => cell_regrown c5 d os
  have r6 := fun d os => cell_regrown c6 d os
  have r7 := fun d os => cell_regrown c7 d os
  have r8 := fun d os => cell_regrown c8 d os
  have r9 := fun d os => cell_regrown c9 d os
  have r10 := fun d os => cell_regrown c10 d os
  have r11 := fun d os => cell_regrown c11 d os
  have r12 := fun d os => cell_regrown c12 d os
  have r13 := fun d os => cell_regrown c13 d os
  have r14 := fun d os => cell_regrown c14 d os
  have r15 := fun d os => cell_regrown c15 d os
  clear hb0 hr0 hg hsz hlt c0 c1 c2 c3 c4 c5 c6 c7 c8 c9 c10 c11 c12 c13 c14 c15
  have an : decide (c.op < 1) = false := by simp; omega
  have ai : decide ((c.op : Int) < 1) = false := by simp; omega
  have ap : ((c.op : Int) < 1) = False := by simp; omega
  have dn : decide (7 < c.op) = false := by simp; omega
  have di : decide ((7 : Int) < (c.op : Int)) = false := by simp; omega
  have dp : ((7 : Int) < (c.op : Int)) = False := by simp; omega
  have Hop : Hid (1 ≤ c.op ∧ c.op ≤ 7) := Lib.hid ⟨h1, h7⟩
  have hne := Hne.out
  have hpl := HP.out
  have hbt : b = true := by have := HB.out; rw [this]; exact decide_eq_true Hpe.out
  rw [hbt] at hne
  simp only [Bool.not_true] at hne
  have sn : decide (3 < c.slot) = false := by simp; omega
  have si : decide ((3 : Int) < (c.slot : Int)) = false := by simp; omega
  have sp : ((3 : Int) < (c.slot : Int)) = False := by simp; omega
  have Hs := Lib.hid hs
  clear hs hbt
  refine wp_region_quiet_below (by kernel_rfl) (by kernel_rfl) ?_
  repeat (go_big_quiet_step ((go_at_call 65; exact Calls.regrown_of (HP.out _))))
  refine wpQuiet_nil ?_
  intro _ hw'
  obtain ⟨pq, hw''⟩ := hw'
  subst hw''
  have hb1 := below_regrown W0 pq.d pq.os
  clear r0 r1 r2 r3 r4 r5 r6 r7 r8 r9 r10 r11 r12 r13 r14 r15
  generalize Go.Sort.grow (redrawn W0 pq.d) pq.os = W1 at *
  have HB1 := Lib.hid (And.intro (bnext HR.out.1 hb1) ((hb1.block _ HR.out.2.2).trans HR.out.2.1))
  clear hb1
  obtain ⟨c0, c1, c2, c3, c4, c5, c6, c7, c8, c9, c10, c11, c12, c13, c14, c15, _⟩ := operAt HB1.out.2
  clear hne hpl
  go_upto_region 3 with (fail)
  have h2 := H2.out
  have q2 : ((c.op : Int) == 2) = true := by simp; omega
  have fn : decide (4 < c.op) = false := by simp; omega
  have fi : decide ((4 : Int) < (c.op : Int)) = false := by simp; omega
  have fp : ((4 : Int) < (c.op : Int)) = False := by simp; omega
  have un : decide (c.role < 1) = false := by simp; omega
  have ui : decide ((c.role : Int) < 1) = false := by simp; omega
  have up : ((c.role : Int) < 1) = False := by simp; omega
  have xn : decide (3 < c.role) = false := by simp; omega
  have xi : decide ((3 : Int) < (c.role : Int)) = false := by simp; omega
  have xp : ((3 : Int) < (c.role : Int)) = False := by simp; omega
  have H3 := Lib.hid (And.intro hr1 hr3)
  clear h1 h7 h2 hr1 hr3
  go_upto_region 5 with (fail)
  cases k1
  case false =>
    have EE : Hid (decide (Og.may c) = false) := Lib.hid (decide_eq_false (fun h => by have hm := (Hmay.out.1 h).2.2.2.2.2.1; have e := Ek1.out; rw [decide_eq_true hm] at e; cases e))
    go_wp2_with (go_at_call 66; first | ((with_reducible refine (Hk1.out _).mono ?_); rintro r w1 ⟨rfl, rfl⟩) | ((with_reducible refine (Hk2.out _).mono ?_); rintro r w1 ⟨rfl, rfl⟩) | ((with_reducible refine (Hk3.out _).mono ?_); rintro r w1 ⟨rfl, rfl⟩) | ((with_reducible refine (Hk4.out _).mono ?_); rintro r w1 ⟨rfl, rfl⟩))
    go_ret
    exact ⟨by rw [EE.out]; rfl, HB1.out.1⟩
  cases k2
  case false =>
    have EE : Hid (decide (Og.may c) = false) := Lib.hid (decide_eq_false (fun h => by have hm := (Hmay.out.1 h).2.2.2.2.2.2.1; have e := Ek2.out; rw [decide_eq_true hm] at e; cases e))
    go_wp2_with (go_at_call 66; first | ((with_reducible refine (Hk1.out _).mono ?_); rintro r w1 ⟨rfl, rfl⟩) | ((with_reducible refine (Hk2.out _).mono ?_); rintro r w1 ⟨rfl, rfl⟩) | ((with_reducible refine (Hk3.out _).mono ?_); rintro r w1 ⟨rfl, rfl⟩) | ((with_reducible refine (Hk4.out _).mono ?_); rintro r w1 ⟨rfl, rfl⟩))
    go_ret
    exact ⟨by rw [EE.out]; rfl, HB1.out.1⟩
  cases k3
  case false =>
    have EE : Hid (decide (Og.may c) = false) := Lib.hid (decide_eq_false (fun h => by have hm := (Hmay.out.1 h).2.2.2.2.2.2.2.1; have e := Ek3.out; rw [decide_eq_true hm] at e; cases e))
    go_wp2_with (go_at_call 66; first | ((with_reducible refine (Hk1.out _).mono ?_); rintro r w1 ⟨rfl, rfl⟩) | ((with_reducible refine (Hk2.out _).mono ?_); rintro r w1 ⟨rfl, rfl⟩) | ((with_reducible refine (Hk3.out _).mono ?_); rintro r w1 ⟨rfl, rfl⟩) | ((with_reducible refine (Hk4.out _).mono ?_); rintro r w1 ⟨rfl, rfl⟩))
    go_ret
    exact ⟨by rw [EE.out]; rfl, HB1.out.1⟩
  cases k4
  case false =>
    have EE : Hid (decide (Og.may c) = false) := Lib.hid (decide_eq_false (fun h => by have hm := (Hmay.out.1 h).2.2.2.2.2.2.2.2; have e := Ek4.out; rw [decide_eq_true hm] at e; cases e))
    go_wp2_with (go_at_call 66; first | ((with_reducible refine (Hk1.out _).mono ?_); rintro r w1 ⟨rfl, rfl⟩) | ((with_reducible refine (Hk2.out _).mono ?_); rintro r w1 ⟨rfl, rfl⟩) | ((with_reducible refine (Hk3.out _).mono ?_); rintro r w1 ⟨rfl, rfl⟩) | ((with_reducible refine (Hk4.out _).mono ?_); rintro r w1 ⟨rfl, rfl⟩))
    go_ret
    exact ⟨by rw [EE.out]; rfl, HB1.out.1⟩
  have EE : Hid (decide (Og.may c) = true) := Lib.hid (decide_eq_true (Hmay.out.2 ⟨Hop.out, Hpe.out, Hs.out, fun _ => H3.out, fun h => by have := H2.out; omega, of_decide_eq_true Ek1.out.symm, of_decide_eq_true Ek2.out.symm, of_decide_eq_true Ek3.out.symm, of_decide_eq_true Ek4.out.symm⟩))
  go_wp2_with (go_at_call 66; first | ((with_reducible refine (Hk1.out _).mono ?_); rintro r w1 ⟨rfl, rfl⟩) | ((with_reducible refine (Hk2.out _).mono ?_); rintro r w1 ⟨rfl, rfl⟩) | ((with_reducible refine (Hk3.out _).mono ?_); rintro r w1 ⟨rfl, rfl⟩) | ((with_reducible refine (Hk4.out _).mono ?_); rintro r w1 ⟨rfl, rfl⟩))
  go_ret
  exact ⟨by rw [EE.out]; rfl, HB1.out.1⟩
end Go.Proofs.Ytlcgjlganmblpaa
namespace Go.Proofs.Ytlcgjlganmblpaa
open Go.RowKit
set_option linter.unusedVariables false
set_option maxRecDepth 100000 in
set_option maxHeartbeats 8000000 in
theorem mayOper_g (c : Og.Oper) (w : World) (h1 : 1 ≤ c.op) (h7 : c.op ≤ 7) (Hpe : Hid (c = Og.plain c)) (hs : c.slot ≤ 3) (h2 : ¬ c.op = 2) (h4 : c.op ≤ 4) : Calls Try.prog 41 #[.agg (operC c)] w (RetTr (decide (Og.may c)) w) := by
  have hsz := operC_size c
  obtain ⟨Y, hY⟩ : ∃ Y, Y = operC (Og.plain c) := ⟨_, rfl⟩
  have hp := fun W => plainOper_any c W
  have hne := fun W => oper_neq c (Og.plain c) W
  rw [← hY] at hp hne
  obtain ⟨b, hb⟩ : ∃ b, b = decide (c = Og.plain c) := ⟨_, rfl⟩
  rw [← hb] at hne
  have HB := Lib.hid hb
  have Hmay := Lib.hid (Og.may_iff c)
  unfold operC at hp hne
  have HP := Lib.hid hp
  have Hne := Lib.hid hne
  clear hp hne hb hY
  have hk1 := fun W => bounded_any c.keys W
  obtain ⟨k1, ek1⟩ : ∃ k, k = decide (Og.amt c.keys) := ⟨_, rfl⟩
  rw [← ek1] at hk1
  have Hk1 := Lib.hid hk1
  have Ek1 := Lib.hid ek1
  clear hk1 ek1
  have hk2 := fun W => bounded_any c.bytes W
  obtain ⟨k2, ek2⟩ : ∃ k, k = decide (Og.amt c.bytes) := ⟨_, rfl⟩
  rw [← ek2] at hk2
  have Hk2 := Lib.hid hk2
  have Ek2 := Lib.hid ek2
  clear hk2 ek2
  have hk3 := fun W => bounded_any c.rate W
  obtain ⟨k3, ek3⟩ : ∃ k, k = decide (Og.amt c.rate) := ⟨_, rfl⟩
  rw [← ek3] at hk3
  have Hk3 := Lib.hid hk3
  have Ek3 := Lib.hid ek3
  clear hk3 ek3
  have hk4 := fun W => bounded_any c.burst W
  obtain ⟨k4, ek4⟩ : ∃ k, k = decide (Og.amt c.burst) := ⟨_, rfl⟩
  rw [← ek4] at hk4
  have Hk4 := Lib.hid hk4
  have Ek4 := Lib.hid ek4
  clear hk4 ek4
  obtain ⟨X, hX⟩ : ∃ X, X = operC c := ⟨_, rfl⟩
  rw [← hX] at hsz ⊢
  unfold RetTr
  have HX := Lib.hid hX
  clear hX
  go_enter Try.func41, Try.ntmps41
  go_upto_region 1 with (fail)
  refine forget (fun W => Below w.heap.size w W ∧ W.heap[w.heap.size]? = some (.cells (operC c) 26 (0, 0))) ⟨bnew (Below.refl _ _) _, by rw [← HX.out]; exact heap_alloc_new w _⟩ ?_
  rintro W0 ⟨hb0, hr0⟩
  obtain ⟨g, hg⟩ : ∃ g, g = w.heap.size := ⟨_, rfl⟩
  rw [← hg] at hr0 ⊢
  have hlt := (Array.getElem?_eq_some_iff.1 hr0).1
  have HR := Lib.hid (And.intro hb0 (And.intro hr0 hlt))
  have HG := Lib.hid hg
  obtain ⟨c0, c1, c2, c3, c4, c5, c6, c7, c8, c9, c10, c11, c12, c13, c14, c15, _⟩ := operAt hr0
  have r0 := fun d os => cell_regrown c0 d os
  have r1 := fun d os => cell_regrown c1 d os
  have r2 := fun d os => cell_regrown c2 d os
  have r3 := fun d os => cell_regrown c3 d os
  have r4 := fun d os => cell_regrown c4 d os
  have r5 := fun d os => cell_regrown c5 d os
  have r6 := fun d os => cell_regrown c6 d os
  have r7 := fun d os => cell_regrown c7 d os
  have r8 := fun d os => cell_regrown c8 d os
  have r9 := fun d os => cell_regrown c9 d os
  have r10 := fun d os => cell_regrown c10 d os
  have r11 := fun d os => cell_regrown c11 d os
  have r12 := fun d os => cell_regrown c12 d os
  have r13 := fun d os => cell_regrown c13 d os
  have r14 := fun d os => cell_regrown c14 d os
  have r15 := fun d os => cell_regrown c15 d os
  clear hb0 hr0 hg hsz hlt c0 c1 c2 c3 c4 c5 c6 c7 c8 c9 c10 c11 c12 c13 c14 c15
  have an : decide (c.op < 1) = false := by simp; omega
  have ai : decide ((c.op : Int) < 1) = false := by simp; omega
  have ap : ((c.op : Int) < 1) = False := by simp; omega
  have dn : decide (7 < c.op) = false := by simp; omega
  have di : decide ((7 : Int) < (c.op : Int)) = false := by simp; omega
  have dp : ((7 : Int) < (c.op : Int)) = False := by simp; omega
  have Hop : Hid (1 ≤ c.op ∧ c.op ≤ 7) := Lib.hid ⟨h1, h7⟩
  have hne := Hne.out
  have hpl := HP.out
  have hbt : b = true := by have := HB.out; rw [this]; exact decide_eq_true Hpe.out
  rw [hbt] at hne
  simp only [Bool.not_true] at hne
  have sn : decide (3 < c.slot) = false := by simp; omega
  have si : decide ((3 : Int) < (c.slot : Int)) = false := by simp; omega
  have sp : ((3 : Int) < (c.slot : Int)) = False := by simp; omega
  have Hs := Lib.hid hs
  clear hs hbt
  refine wp_region_quiet_below (by kernel_rfl) (by kernel_rfl) ?_
  repeat (go_big_quiet_step ((go_at_call 65; exact Calls.regrown_of (HP.out _))))
  refine wpQuiet_nil ?_
  intro _ hw'
  obtain ⟨pq, hw''⟩ := hw'
  subst hw''
  have hb1 := below_regrown W0 pq.d pq.os
  clear r0 r1 r2 r3 r4 r5 r6 r7 r8 r9 r10 r11 r12 r13 r14 r15
  generalize Go.Sort.grow (redrawn W0 pq.d) pq.os = W1 at *
  have HB1 := Lib.hid (And.intro (bnext HR.out.1 hb1) ((hb1.block _ HR.out.2.2).trans HR.out.2.1))
  clear hb1
  obtain ⟨c0, c1, c2, c3, c4, c5, c6, c7, c8, c9, c10, c11, c12, c13, c14, c15, _⟩ := operAt HB1.out.2
  clear hne hpl
  go_upto_region 3 with (fail)
  have q2 : ((c.op : Int) == 2) = false := by simp; omega
  have fn : decide (4 < c.op) = false := by simp; omega
  have fi : decide ((4 : Int) < (c.op : Int)) = false := by simp; omega
  have fp : ((4 : Int) < (c.op : Int)) = False := by simp; omega
  have H2 := Lib.hid (And.intro h2 h4)
  clear h1 h7 h2 h4
  go_upto_region 5 with (fail)
  cases k1
  case false =>
    have EE : Hid (decide (Og.may c) = false) := Lib.hid (decide_eq_false (fun h => by have hm := (Hmay.out.1 h).2.2.2.2.2.1; have e := Ek1.out; rw [decide_eq_true hm] at e; cases e))
    go_wp2_with (go_at_call 66; first | ((with_reducible refine (Hk1.out _).mono ?_); rintro r w1 ⟨rfl, rfl⟩) | ((with_reducible refine (Hk2.out _).mono ?_); rintro r w1 ⟨rfl, rfl⟩) | ((with_reducible refine (Hk3.out _).mono ?_); rintro r w1 ⟨rfl, rfl⟩) | ((with_reducible refine (Hk4.out _).mono ?_); rintro r w1 ⟨rfl, rfl⟩))
    go_ret
    exact ⟨by rw [EE.out]; rfl, HB1.out.1⟩
  cases k2
  case false =>
    have EE : Hid (decide (Og.may c) = false) := Lib.hid (decide_eq_false (fun h => by have hm := (Hmay.out.1 h).2.2.2.2.2.2.1; have e := Ek2.out; rw [decide_eq_true hm] at e; cases e))
    go_wp2_with (go_at_call 66; first | ((with_reducible refine (Hk1.out _).mono ?_); rintro r w1 ⟨rfl, rfl⟩) | ((with_reducible refine (Hk2.out _).mono ?_); rintro r w1 ⟨rfl, rfl⟩) | ((with_reducible refine (Hk3.out _).mono ?_); rintro r w1 ⟨rfl, rfl⟩) | ((with_reducible refine (Hk4.out _).mono ?_); rintro r w1 ⟨rfl, rfl⟩))
    go_ret
    exact ⟨by rw [EE.out]; rfl, HB1.out.1⟩
  cases k3
  case false =>
    have EE : Hid (decide (Og.may c) = false) := Lib.hid (decide_eq_false (fun h => by have hm := (Hmay.out.1 h).2.2.2.2.2.2.2.1; have e := Ek3.out; rw [decide_eq_true hm] at e; cases e))
    go_wp2_with (go_at_call 66; first | ((with_reducible refine (Hk1.out _).mono ?_); rintro r w1 ⟨rfl, rfl⟩) | ((with_reducible refine (Hk2.out _).mono ?_); rintro r w1 ⟨rfl, rfl⟩) | ((with_reducible refine (Hk3.out _).mono ?_); rintro r w1 ⟨rfl, rfl⟩) | ((with_reducible refine (Hk4.out _).mono ?_); rintro r w1 ⟨rfl, rfl⟩))
    go_ret
    exact ⟨by rw [EE.out]; rfl, HB1.out.1⟩
  cases k4
  case false =>
    have EE : Hid (decide (Og.may c) = false) := Lib.hid (decide_eq_false (fun h => by have hm := (Hmay.out.1 h).2.2.2.2.2.2.2.2; have e := Ek4.out; rw [decide_eq_true hm] at e; cases e))
    go_wp2_with (go_at_call 66; first | ((with_reducible refine (Hk1.out _).mono ?_); rintro r w1 ⟨rfl, rfl⟩) | ((with_reducible refine (Hk2.out _).mono ?_); rintro r w1 ⟨rfl, rfl⟩) | ((with_reducible refine (Hk3.out _).mono ?_); rintro r w1 ⟨rfl, rfl⟩) | ((with_reducible refine (Hk4.out _).mono ?_); rintro r w1 ⟨rfl, rfl⟩))
    go_ret
    exact ⟨by rw [EE.out]; rfl, HB1.out.1⟩
  have EE : Hid (decide (Og.may c) = true) := Lib.hid (decide_eq_true (Hmay.out.2 ⟨Hop.out, Hpe.out, Hs.out, fun h => absurd h H2.out.1, fun h => by have := H2.out.2; omega, of_decide_eq_true Ek1.out.symm, of_decide_eq_true Ek2.out.symm, of_decide_eq_true Ek3.out.symm, of_decide_eq_true Ek4.out.symm⟩))
  go_wp2_with (go_at_call 66; first | ((with_reducible refine (Hk1.out _).mono ?_); rintro r w1 ⟨rfl, rfl⟩) | ((with_reducible refine (Hk2.out _).mono ?_); rintro r w1 ⟨rfl, rfl⟩) | ((with_reducible refine (Hk3.out _).mono ?_); rintro r w1 ⟨rfl, rfl⟩) | ((with_reducible refine (Hk4.out _).mono ?_); rintro r w1 ⟨rfl, rfl⟩))
  go_ret
  exact ⟨by rw [EE.out]; rfl, HB1.out.1⟩
end Go.Proofs.Ytlcgjlganmblpaa
namespace Go.Proofs.Ytlcgjlganmblpaa
open Go.RowKit
set_option linter.unusedVariables false
set_option maxRecDepth 100000 in
set_option maxHeartbeats 8000000 in
theorem mayOper_h (c : Og.Oper) (w : World) (h1 : 1 ≤ c.op) (h7 : c.op ≤ 7) (Hpe : Hid (c = Og.plain c)) (hs : c.slot ≤ 3) (h4 : ¬ c.op ≤ 4) (hn : ¬ (1 ≤ c.node ∧ c.node ≤ 5)) : Calls Try.prog 41 #[.agg (operC c)] w (RetTr (decide (Og.may c)) w) := by
  have hsz := operC_size c
  obtain ⟨Y, hY⟩ : ∃ Y, Y = operC (Og.plain c) := ⟨_, rfl⟩
  have hp := fun W => plainOper_any c W
  have hne := fun W => oper_neq c (Og.plain c) W
  rw [← hY] at hp hne
  obtain ⟨b, hb⟩ : ∃ b, b = decide (c = Og.plain c) := ⟨_, rfl⟩
  rw [← hb] at hne
  have HB := Lib.hid hb
  have Hmay := Lib.hid (Og.may_iff c)
  unfold operC at hp hne
  have HP := Lib.hid hp
  have Hne := Lib.hid hne
  clear hp hne hb hY
  have hk1 := fun W => bounded_any c.keys W
  obtain ⟨k1, ek1⟩ : ∃ k, k = decide (Og.amt c.keys) := ⟨_, rfl⟩
  rw [← ek1] at hk1
  have Hk1 := Lib.hid hk1
  have Ek1 := Lib.hid ek1
  clear hk1 ek1
  have hk2 := fun W => bounded_any c.bytes W
  obtain ⟨k2, ek2⟩ : ∃ k, k = decide (Og.amt c.bytes) := ⟨_, rfl⟩
  rw [← ek2] at hk2
  have Hk2 := Lib.hid hk2
  have Ek2 := Lib.hid ek2
  clear hk2 ek2
  have hk3 := fun W => bounded_any c.rate W
  obtain ⟨k3, ek3⟩ : ∃ k, k = decide (Og.amt c.rate) := ⟨_, rfl⟩
  rw [← ek3] at hk3
  have Hk3 := Lib.hid hk3
  have Ek3 := Lib.hid ek3
  clear hk3 ek3
  have hk4 := fun W => bounded_any c.burst W
  obtain ⟨k4, ek4⟩ : ∃ k, k = decide (Og.amt c.burst) := ⟨_, rfl⟩
  rw [← ek4] at hk4
  have Hk4 := Lib.hid hk4
  have Ek4 := Lib.hid ek4
  clear hk4 ek4
  obtain ⟨X, hX⟩ : ∃ X, X = operC c := ⟨_, rfl⟩
  rw [← hX] at hsz ⊢
  unfold RetTr
  have HX := Lib.hid hX
  clear hX
  go_enter Try.func41, Try.ntmps41
  go_upto_region 1 with (fail)
  refine forget (fun W => Below w.heap.size w W ∧ W.heap[w.heap.size]? = some (.cells (operC c) 26 (0, 0))) ⟨bnew (Below.refl _ _) _, by rw [← HX.out]; exact heap_alloc_new w _⟩ ?_
  rintro W0 ⟨hb0, hr0⟩
  obtain ⟨g, hg⟩ : ∃ g, g = w.heap.size := ⟨_, rfl⟩
  rw [← hg] at hr0 ⊢
  have hlt := (Array.getElem?_eq_some_iff.1 hr0).1
  have HR := Lib.hid (And.intro hb0 (And.intro hr0 hlt))
  have HG := Lib.hid hg
  obtain ⟨c0, c1, c2, c3, c4, c5, c6, c7, c8, c9, c10, c11, c12, c13, c14, c15, _⟩ := operAt hr0
  have r0 := fun d os => cell_regrown c0 d os
  have r1 := fun d os => cell_regrown c1 d os
  have r2 := fun d os => cell_regrown c2 d os
  have r3 := fun d os => cell_regrown c3 d os
  have r4 := fun d os => cell_regrown c4 d os
  have r5 := fun d os => cell_regrown c5 d os
  have r6 := fun d os => cell_regrown c6 d os
  have r7 := fun d os => cell_regrown c7 d os
  have r8 := fun d os => cell_regrown c8 d os
  have r9 := fun d os => cell_regrown c9 d os
  have r10 := fun d os => cell_regrown c10 d os
  have r11 := fun d os => cell_regrown c11 d os
  have r12 := fun d os => cell_regrown c12 d os
  have r13 := fun d os => cell_regrown c13 d os
  have r14 := fun d os => cell_regrown c14 d os
  have r15 := fun d os => cell_regrown c15 d os
  clear hb0 hr0 hg hsz hlt c0 c1 c2 c3 c4 c5 c6 c7 c8 c9 c10 c11 c12 c13 c14 c15
  have an : decide (c.op < 1) = false := by simp; omega
  have ai : decide ((c.op : Int) < 1) = false := by simp; omega
  have ap : ((c.op : Int) < 1) = False := by simp; omega
  have dn : decide (7 < c.op) = false := by simp; omega
  have di : decide ((7 : Int) < (c.op : Int)) = false := by simp; omega
  have dp : ((7 : Int) < (c.op : Int)) = False := by simp; omega
  have Hop : Hid (1 ≤ c.op ∧ c.op ≤ 7) := Lib.hid ⟨h1, h7⟩
  have hne := Hne.out
  have hpl := HP.out
  have hbt : b = true := by have := HB.out; rw [this]; exact decide_eq_true Hpe.out
  rw [hbt] at hne
  simp only [Bool.not_true] at hne
  have sn : decide (3 < c.slot) = false := by simp; omega
  have si : decide ((3 : Int) < (c.slot : Int)) = false := by simp; omega
  have sp : ((3 : Int) < (c.slot : Int)) = False := by simp; omega
  have Hs := Lib.hid hs
  clear hs hbt
  refine wp_region_quiet_below (by kernel_rfl) (by kernel_rfl) ?_
  repeat (go_big_quiet_step ((go_at_call 65; exact Calls.regrown_of (HP.out _))))
  refine wpQuiet_nil ?_
  intro _ hw'
  obtain ⟨pq, hw''⟩ := hw'
  subst hw''
  have hb1 := below_regrown W0 pq.d pq.os
  clear r0 r1 r2 r3 r4 r5 r6 r7 r8 r9 r10 r11 r12 r13 r14 r15
  generalize Go.Sort.grow (redrawn W0 pq.d) pq.os = W1 at *
  have HB1 := Lib.hid (And.intro (bnext HR.out.1 hb1) ((hb1.block _ HR.out.2.2).trans HR.out.2.1))
  clear hb1
  obtain ⟨c0, c1, c2, c3, c4, c5, c6, c7, c8, c9, c10, c11, c12, c13, c14, c15, _⟩ := operAt HB1.out.2
  clear hne hpl
  go_upto_region 3 with (fail)
  have q2 : ((c.op : Int) == 2) = false := by simp; omega
  have fn : decide (4 < c.op) = true := by simp; omega
  have fi : decide ((4 : Int) < (c.op : Int)) = true := by simp; omega
  have fp : ((4 : Int) < (c.op : Int)) = True := by simp; omega
  by_cases hn1 : 1 ≤ c.node
  case neg =>
    have un : decide (c.node < 1) = true := by simp; omega
    have ui : decide ((c.node : Int) < 1) = true := by simp; omega
    have up : ((c.node : Int) < 1) = True := by simp; omega
    have EE : Hid (decide (Og.may c) = false) := Lib.hid (decide_eq_false (fun h => by have hm := Hmay.out.1 h; omega))
    clear h1 h7 h4 hn1 hn
    go_wp2_with fail
    go_ret
    exact ⟨by rw [EE.out]; rfl, HB1.out.1⟩
  have un : decide (c.node < 1) = false := by simp; omega
  have ui : decide ((c.node : Int) < 1) = false := by simp; omega
  have up : ((c.node : Int) < 1) = False := by simp; omega
  have xn : decide (5 < c.node) = true := by simp; omega
  have xi : decide ((5 : Int) < (c.node : Int)) = true := by simp; omega
  have xp : ((5 : Int) < (c.node : Int)) = True := by simp; omega
  have EE : Hid (decide (Og.may c) = false) := Lib.hid (decide_eq_false (fun h => by have hm := Hmay.out.1 h; omega))
  clear h1 h7 h4 hn1 hn
  go_wp2_with fail
  go_ret
  exact ⟨by rw [EE.out]; rfl, HB1.out.1⟩
end Go.Proofs.Ytlcgjlganmblpaa
namespace Go.Proofs.Ytlcgjlganmblpaa
open Go.RowKit
set_option linter.unusedVariables false
set_option maxRecDepth 100000 in
set_option maxHeartbeats 8000000 in
theorem mayOper_i (c : Og.Oper) (w : World) (h1 : 1 ≤ c.op) (h7 : c.op ≤ 7) (Hpe : Hid (c = Og.plain c)) (hs : c.slot ≤ 3) (h4 : ¬ c.op ≤ 4) (hn1 : 1 ≤ c.node) (hn5 : c.node ≤ 5) : Calls Try.prog 41 #[.agg (operC c)] w (RetTr (decide (Og.may c)) w) := by
  have hsz := operC_size c
  obtain ⟨Y, hY⟩ : ∃ Y, Y = operC (Og.plain c) := ⟨_, rfl⟩
  have hp := fun W => plainOper_any c W
  have hne := fun W => oper_neq c (Og.plain c) W
  rw [← hY] at hp hne
  obtain ⟨b, hb⟩ : ∃ b, b = decide (c = Og.plain c) := ⟨_, rfl⟩
  rw [← hb] at hne
  have HB := Lib.hid hb
  have Hmay := Lib.hid (Og.may_iff c)
  unfold operC at hp hne
  have HP := Lib.hid hp
  have Hne := Lib.hid hne
  clear hp hne hb hY
  have hk1 := fun W => bounded_any c.keys W
  obtain ⟨k1, ek1⟩ : ∃ k, k = decide (Og.amt c.keys) := ⟨_, rfl⟩
  rw [← ek1] at hk1
  have Hk1 := Lib.hid hk1
  have Ek1 := Lib.hid ek1
  clear hk1 ek1
  have hk2 := fun W => bounded_any c.bytes W
  obtain ⟨k2, ek2⟩ : ∃ k, k = decide (Og.amt c.bytes) := ⟨_, rfl⟩
  rw [← ek2] at hk2
  have Hk2 := Lib.hid hk2
  have Ek2 := Lib.hid ek2
  clear hk2 ek2
  have hk3 := fun W => bounded_any c.rate W
  obtain ⟨k3, ek3⟩ : ∃ k, k = decide (Og.amt c.rate) := ⟨_, rfl⟩
  rw [← ek3] at hk3
  have Hk3 := Lib.hid hk3
  have Ek3 := Lib.hid ek3
  clear hk3 ek3
  have hk4 := fun W => bounded_any c.burst W
  obtain ⟨k4, ek4⟩ : ∃ k, k = decide (Og.amt c.burst) := ⟨_, rfl⟩
  rw [← ek4] at hk4
  have Hk4 := Lib.hid hk4
  have Ek4 := Lib.hid ek4
  clear hk4 ek4
  obtain ⟨X, hX⟩ : ∃ X, X = operC c := ⟨_, rfl⟩
  rw [← hX] at hsz ⊢
  unfold RetTr
  have HX := Lib.hid hX
  clear hX
  go_enter Try.func41, Try.ntmps41
  go_upto_region 1 with (fail)
  refine forget (fun W => Below w.heap.size w W ∧ W.heap[w.heap.size]? = some (.cells (operC c) 26 (0, 0))) ⟨bnew (Below.refl _ _) _, by rw [← HX.out]; exact heap_alloc_new w _⟩ ?_
  rintro W0 ⟨hb0, hr0⟩
  obtain ⟨g, hg⟩ : ∃ g, g = w.heap.size := ⟨_, rfl⟩
  rw [← hg] at hr0 ⊢
  have hlt := (Array.getElem?_eq_some_iff.1 hr0).1
  have HR := Lib.hid (And.intro hb0 (And.intro hr0 hlt))
  have HG := Lib.hid hg
  obtain ⟨c0, c1, c2, c3, c4, c5, c6, c7, c8, c9, c10, c11, c12, c13, c14, c15, _⟩ := operAt hr0
  have r0 := fun d os => cell_regrown c0 d os
  have r1 := fun d os => cell_regrown c1 d os
  have r2 := fun d os => cell_regrown c2 d os
  have r3 := fun d os => cell_regrown c3 d os
  have r4 := fun d os => cell_regrown c4 d os
  have r5 := fun d os => cell_regrown c5 d os
  have r6 := fun d os => cell_regrown c6 d os
  have r7 := fun d os => cell_regrown c7 d os
  have r8 := fun d os => cell_regrown c8 d os
  have r9 := fun d os => cell_regrown c9 d os
  have r10 := fun d os => cell_regrown c10 d os
  have r11 := fun d os => cell_regrown c11 d os
  have r12 := fun d os => cell_regrown c12 d os
  have r13 := fun d os => cell_regrown c13 d os
  have r14 := fun d os => cell_regrown c14 d os
  have r15 := fun d os => cell_regrown c15 d os
  clear hb0 hr0 hg hsz hlt c0 c1 c2 c3 c4 c5 c6 c7 c8 c9 c10 c11 c12 c13 c14 c15
  have an : decide (c.op < 1) = false := by simp; omega
  have ai : decide ((c.op : Int) < 1) = false := by simp; omega
  have ap : ((c.op : Int) < 1) = False := by simp; omega
  have dn : decide (7 < c.op) = false := by simp; omega
  have di : decide ((7 : Int) < (c.op : Int)) = false := by simp; omega
  have dp : ((7 : Int) < (c.op : Int)) = False := by simp; omega
  have Hop : Hid (1 ≤ c.op ∧ c.op ≤ 7) := Lib.hid ⟨h1, h7⟩
  have hne := Hne.out
  have hpl := HP.out
  have hbt : b = true := by have := HB.out; rw [this]; exact decide_eq_true Hpe.out
  rw [hbt] at hne
  simp only [Bool.not_true] at hne
  have sn : decide (3 < c.slot) = false := by simp; omega
  have si : decide ((3 : Int) < (c.slot : Int)) = false := by simp; omega
  have sp : ((3 : Int) < (c.slot : Int)) = False := by simp; omega
  have Hs := Lib.hid hs
  clear hs hbt
  refine wp_region_quiet_below (by kernel_rfl) (by kernel_rfl) ?_
  repeat (go_big_quiet_step ((go_at_call 65; exact Calls.regrown_of (HP.out _))))
  refine wpQuiet_nil ?_
  intro _ hw'
  obtain ⟨pq, hw''⟩ := hw'
  subst hw''
  have hb1 := below_regrown W0 pq.d pq.os
  clear r0 r1 r2 r3 r4 r5 r6 r7 r8 r9 r10 r11 r12 r13 r14 r15
  generalize Go.Sort.grow (redrawn W0 pq.d) pq.os = W1 at *
  have HB1 := Lib.hid (And.intro (bnext HR.out.1 hb1) ((hb1.block _ HR.out.2.2).trans HR.out.2.1))
  clear hb1
  obtain ⟨c0, c1, c2, c3, c4, c5, c6, c7, c8, c9, c10, c11, c12, c13, c14, c15, _⟩ := operAt HB1.out.2
  clear hne hpl
  go_upto_region 3 with (fail)
  have q2 : ((c.op : Int) == 2) = false := by simp; omega
  have fn : decide (4 < c.op) = true := by simp; omega
  have fi : decide ((4 : Int) < (c.op : Int)) = true := by simp; omega
  have fp : ((4 : Int) < (c.op : Int)) = True := by simp; omega
  have un : decide (c.node < 1) = false := by simp; omega
  have ui : decide ((c.node : Int) < 1) = false := by simp; omega
  have up : ((c.node : Int) < 1) = False := by simp; omega
  have xn : decide (5 < c.node) = false := by simp; omega
  have xi : decide ((5 : Int) < (c.node : Int)) = false := by simp; omega
  have xp : ((5 : Int) < (c.node : Int)) = False := by simp; omega
  have H2 := Lib.hid (And.intro (show c.op ≠ 2 by omega) (And.intro hn1 hn5))
  clear h1 h7 h4 hn1 hn5
  go_upto_region 5 with (fail)
  cases k1
  case false =>
    have EE : Hid (decide (Og.may c) = false) := Lib.hid (decide_eq_false (fun h => by have hm := (Hmay.out.1 h).2.2.2.2.2.1; have e := Ek1.out; rw [decide_eq_true hm] at e; cases e))
    go_wp2_with (go_at_call 66; first | ((with_reducible refine (Hk1.out _).mono ?_); rintro r w1 ⟨rfl, rfl⟩) | ((with_reducible refine (Hk2.out _).mono ?_); rintro r w1 ⟨rfl, rfl⟩) | ((with_reducible refine (Hk3.out _).mono ?_); rintro r w1 ⟨rfl, rfl⟩) | ((with_reducible refine (Hk4.out _).mono ?_); rintro r w1 ⟨rfl, rfl⟩))
    go_ret
    exact ⟨by rw [EE.out]; rfl, HB1.out.1⟩
  cases k2
  case false =>
    have EE : Hid (decide (Og.may c) = false) := Lib.hid (decide_eq_false (fun h => by have hm := (Hmay.out.1 h).2.2.2.2.2.2.1; have e := Ek2.out; rw [decide_eq_true hm] at e; cases e))
    go_wp2_with (go_at_call 66; first | ((with_reducible refine (Hk1.out _).mono ?_); rintro r w1 ⟨rfl, rfl⟩) | ((with_reducible refine (Hk2.out _).mono ?_); rintro r w1 ⟨rfl, rfl⟩) | ((with_reducible refine (Hk3.out _).mono ?_); rintro r w1 ⟨rfl, rfl⟩) | ((with_reducible refine (Hk4.out _).mono ?_); rintro r w1 ⟨rfl, rfl⟩))
    go_ret
    exact ⟨by rw [EE.out]; rfl, HB1.out.1⟩
  cases k3
  case false =>
    have EE : Hid (decide (Og.may c) = false) := Lib.hid (decide_eq_false (fun h => by have hm := (Hmay.out.1 h).2.2.2.2.2.2.2.1; have e := Ek3.out; rw [decide_eq_true hm] at e; cases e))
    go_wp2_with (go_at_call 66; first | ((with_reducible refine (Hk1.out _).mono ?_); rintro r w1 ⟨rfl, rfl⟩) | ((with_reducible refine (Hk2.out _).mono ?_); rintro r w1 ⟨rfl, rfl⟩) | ((with_reducible refine (Hk3.out _).mono ?_); rintro r w1 ⟨rfl, rfl⟩) | ((with_reducible refine (Hk4.out _).mono ?_); rintro r w1 ⟨rfl, rfl⟩))
    go_ret
    exact ⟨by rw [EE.out]; rfl, HB1.out.1⟩
  cases k4
  case false =>
    have EE : Hid (decide (Og.may c) = false) := Lib.hid (decide_eq_false (fun h => by have hm := (Hmay.out.1 h).2.2.2.2.2.2.2.2; have e := Ek4.out; rw [decide_eq_true hm] at e; cases e))
    go_wp2_with (go_at_call 66; first | ((with_reducible refine (Hk1.out _).mono ?_); rintro r w1 ⟨rfl, rfl⟩) | ((with_reducible refine (Hk2.out _).mono ?_); rintro r w1 ⟨rfl, rfl⟩) | ((with_reducible refine (Hk3.out _).mono ?_); rintro r w1 ⟨rfl, rfl⟩) | ((with_reducible refine (Hk4.out _).mono ?_); rintro r w1 ⟨rfl, rfl⟩))
    go_ret
    exact ⟨by rw [EE.out]; rfl, HB1.out.1⟩
  have EE : Hid (decide (Og.may c) = true) := Lib.hid (decide_eq_true (Hmay.out.2 ⟨Hop.out, Hpe.out, Hs.out, fun h => absurd h H2.out.1, fun _ => H2.out.2, of_decide_eq_true Ek1.out.symm, of_decide_eq_true Ek2.out.symm, of_decide_eq_true Ek3.out.symm, of_decide_eq_true Ek4.out.symm⟩))
  go_wp2_with (go_at_call 66; first | ((with_reducible refine (Hk1.out _).mono ?_); rintro r w1 ⟨rfl, rfl⟩) | ((with_reducible refine (Hk2.out _).mono ?_); rintro r w1 ⟨rfl, rfl⟩) | ((with_reducible refine (Hk3.out _).mono ?_); rintro r w1 ⟨rfl, rfl⟩) | ((with_reducible refine (Hk4.out _).mono ?_); rintro r w1 ⟨rfl, rfl⟩))
  go_ret
  exact ⟨by rw [EE.out]; rfl, HB1.out.1⟩
end Go.Proofs.Ytlcgjlganmblpaa
namespace Go.Proofs.Ytlcgjlganmblpaa
open Go.RowKit
set_option linter.unusedVariables false
theorem mayOper_any (c : Og.Oper) (w : World) : Calls Try.prog 41 #[.agg (operC c)] w (RetTr (decide (Og.may c)) w) := by
  by_cases h1 : 1 ≤ c.op
  case neg => exact mayOper_a c w h1
  by_cases h7 : c.op ≤ 7
  case neg => exact mayOper_b c w h1 h7
  by_cases hpe : c = Og.plain c
  case neg => exact mayOper_c c w h1 h7 (Lib.hid hpe)
  by_cases hs : c.slot ≤ 3
  case neg => exact mayOper_d c w h1 h7 (Lib.hid hpe) hs
  by_cases h2 : c.op = 2
  · by_cases hr : 1 ≤ c.role ∧ c.role ≤ 3
    · exact mayOper_f c w h1 h7 (Lib.hid hpe) hs (Lib.hid h2) hr.1 hr.2
    · exact mayOper_e c w h1 h7 (Lib.hid hpe) hs (Lib.hid h2) hr
  by_cases h4 : c.op ≤ 4
  · exact mayOper_g c w h1 h7 (Lib.hid hpe) hs h2 h4
  · by_cases hn : 1 ≤ c.node ∧ c.node ≤ 5
    · exact mayOper_i c w h1 h7 (Lib.hid hpe) hs h4 hn.1 hn.2
    · exact mayOper_h c w h1 h7 (Lib.hid hpe) hs h4 hn
end Go.Proofs.Ytlcgjlganmblpaa
