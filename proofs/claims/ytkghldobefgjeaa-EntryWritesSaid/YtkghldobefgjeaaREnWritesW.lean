/-
  EntryWrites walked.
-/
import Derived.Test.YtkghldobefgjeaaREnAwake
import Derived.Test.YtkghldobefgjeaaREnRef
set_option linter.unusedSimpArgs false
set_option linter.unusedVariables false
namespace Go.Proofs.Ytkghldobefgjeaa
open Go.RowKit
set_option maxRecDepth 100000 in
set_option maxHeartbeats 4000000 in
theorem entryWrites_walk (e : En.E) (hf : En.Fits e) (_z : e.body.size ≤ maxLen) (w : World) :
    Calls Try.prog 11 #[.agg (entC e)] w fun r w' => r = .returned (.bool true) ∧ Below w.heap.size w w' := by
  have HA := Lib.hid entAwake_any
  have F := entF e
  obtain ⟨X, hX⟩ : ∃ X, X = entC e := ⟨_, rfl⟩
  by_cases hk : 4000 < e.body.size
  · rw [← hX] at F ⊢
    obtain ⟨hx, _, x0, x1, x2, x3, x4, x5, x6, x7, x8, x9, x10, x11, x12⟩ := F
    have d1 : decide ((4000 : Int) < (e.body.size : Int)) = true := by simp; omega
    clear hX hk
    go_enter Try.func11, Try.ntmps11
    go_wp2_with fail
    refine (HA.out _).mono ?_
    rintro r w1 ⟨rfl, hb1⟩
    go_wp2_with fail
    go_ret
    exact ⟨rfl, bnext (bnew (Below.refl _ _) _) hb1⟩
  have HR := Lib.hid (fun W => right_any e W)
  have HRr := Lib.hid (fun W => refRight_any e W)
  have HW := Lib.hid (fun W => write_any e hf (by omega) W)
  have HWr := Lib.hid (fun W => refWrite_any e hf (by omega) W)
  unfold RetTr entC at HR HRr
  unfold RetS entC at HW HWr
  obtain ⟨b, hb⟩ : ∃ b, b = En.may e := ⟨_, rfl⟩
  obtain ⟨t, ht⟩ : ∃ t : ByteArray, t = ⟨(En.write e).toArray⟩ := ⟨_, rfl⟩
  rw [← hb] at HR HRr
  rw [← ht] at HW HWr
  have htt : (t.toList == t.toList) = true := by simp
  rw [← hX] at F ⊢
  obtain ⟨hx, _, x0, x1, x2, x3, x4, x5, x6, x7, x8, x9, x10, x11, x12⟩ := F
  have d1 : decide ((4000 : Int) < (e.body.size : Int)) = false := by simp; omega
  have HX := Lib.hid hX
  clear hX hk hb ht hf
  go_enter Try.func11, Try.ntmps11
  go_upto_region 3 with (fail)
  refine forget (fun W => Below w.heap.size w W ∧ W.heap[w.heap.size]? = some (.cells X 62 (0, 0))) ⟨bnew (Below.refl _ _) _, heap_alloc_new w _⟩ ?_
  rintro W5 ⟨hb5, hp5⟩
  rw [HX.out] at hp5
  obtain ⟨q0, q1, q2, q3, q4, q5, q6, q7, q8, q9, q10, q11, q12, _⟩ := entAt hp5
  have k0 := fun d os => cell_regrown q0 d os
  have k1 := fun d os => cell_regrown q1 d os
  have k2 := fun d os => cell_regrown q2 d os
  have k3 := fun d os => cell_regrown q3 d os
  have k4 := fun d os => cell_regrown q4 d os
  have k5 := fun d os => cell_regrown q5 d os
  have k6 := fun d os => cell_regrown q6 d os
  have k7 := fun d os => cell_regrown q7 d os
  have k8 := fun d os => cell_regrown q8 d os
  have k9 := fun d os => cell_regrown q9 d os
  have k10 := fun d os => cell_regrown q10 d os
  have k11 := fun d os => cell_regrown q11 d os
  have k12 := fun d os => cell_regrown q12 d os
  have HB5 := Lib.hid hb5
  clear q0 q1 q2 q3 q4 q5 q6 q7 q8 q9 q10 q11 q12 hb5 hp5 d1 x0 x1 x2 x3 x4 x5 x6 x7 x8 x9 x10 x11 x12
  refine wp_region_quiet_below (by kernel_rfl) (by kernel_rfl) ?_
  repeat (go_big_quiet_step ((first | (go_at_call 38; exact Calls.regrown_of (HR.out _)) | (go_at_call 43; exact Calls.regrown_of (HRr.out _)) | (go_at_call 37; exact Calls.regrown_of (HW.out _)) | (go_at_call 44; exact Calls.regrown_of (HWr.out _)) | (go_at_call 42; exact Calls.regrown_of (HA.out _)))))
  refine wpQuiet_nil ?_
  intro _ hw'
  obtain ⟨pq, hw''⟩ := hw'
  subst hw''
  have hb1 := below_regrown W5 pq.d pq.os
  go_wp2_with fail
  go_ret
  exact ⟨rfl, bnext HB5.out hb1⟩
end Go.Proofs.Ytkghldobefgjeaa
