/-
  The statements' own 'some' and 'awake' of layer 4 walked.
-/
import Derived.Test.YtkghldobefgjeaaREnW
import Derived.Test.YtkghldobefgjeaaREnR
import Derived.Test.YtkghldobefgjeaaREnMem
import Derived.Lib.QuietBelow
set_option linter.unusedSimpArgs false
set_option linter.unusedVariables false
namespace Go.Proofs.Ytkghldobefgjeaa
open Go.RowKit
def someE : En.E := ⟨3, 1, 3, 2, ⟨49, 50, 51, 52, 53, 54, 55, 56⟩, ⟨#[120, 121]⟩⟩
def someL : List UInt8 := [3, 3, 1, 2, 49, 50, 51, 52, 53, 54, 55, 56, 2, 120, 121]
theorem top_pos4 {n : Nat} (h : n ≤ 1000) : n < Nm.top := by unfold Nm.top; omega
theorem some_fits : En.Fits someE := ⟨top_pos4 (by decide), top_pos4 (by decide), by decide, by decide⟩
theorem some_may : En.may someE = true := by decide +kernel
theorem some_enc : En.enc someE = someL := by decide +kernel
theorem some_write : En.write someE = someL := by unfold En.write; rw [some_may, if_pos rfl, some_enc]
theorem some_read : En.read someL = some someE := (En.read_iff _ _).2 ⟨⟨some_fits, top_pos4 (by decide)⟩, some_may, some_enc.symm⟩
set_option maxRecDepth 100000 in
theorem some_any (w : World) : Calls Try.prog 82 #[] w fun e w' => e = .returned (.agg (entC someE)) ∧ Below w.heap.size w w' := by
  go_enter Try.func82, Try.ntmps82
  go_wp2_with fail
  refine bodyPost_ret (results_cell_row (P := Try.prog) (fn := Try.f82) rfl _ _ w.heap.size 62 (entC someE) (0, 0) _ rfl (heap_alloc_new w _) Try.underlying62 rfl sizeEnt) rfl ⟨rfl, bnew (Below.refl _ _) _⟩
theorem eawW (W : World) : Calls Try.prog 37 #[.agg (entC someE)] W fun e w' => e = .returned (.string ⟨#[3, 3, 1, 2, 49, 50, 51, 52, 53, 54, 55, 56, 2, 120, 121]⟩) ∧ Below W.heap.size W w' := by
  have := write_any someE some_fits (by decide) W
  unfold RetS at this
  rw [some_write] at this
  exact this
theorem eawR (W : World) : Calls Try.prog 39 #[.string ⟨#[3, 3, 1, 2, 49, 50, 51, 52, 53, 54, 55, 56, 2, 120, 121]⟩] W fun e w' => e = .returned (.tuple #[.agg (entC someE), .bool true]) ∧ Below W.heap.size W w' := by
  have := enRead_any ⟨#[3, 3, 1, 2, 49, 50, 51, 52, 53, 54, 55, 56, 2, 120, 121]⟩ W (by decide)
  rw [show (⟨#[3, 3, 1, 2, 49, 50, 51, 52, 53, 54, 55, 56, 2, 120, 121]⟩ : ByteArray).data.toList = someL from rfl, some_read] at this
  exact this
theorem mem13 : En.mem5 13 = [1, 3, 4] := by decide +kernel
theorem maj13 : En.maj 13 = 2 := by decide +kernel
theorem eawM (W : World) : Calls Try.prog 41 #[.int .u8 13] W fun e w' => ∃ b off cap, e = .returned (.slice (some ⟨b, off, none⟩) 3 cap) ∧ w'.cell? ⟨b, off + 2, none⟩ = some (.int .u8 4) ∧ Below W.heap.size W w' := by
  have := members_any 13 (by decide) W
  unfold RetM at this
  rw [mem13] at this
  refine this.mono ?_
  rintro e w' ⟨A, cap, rfl, hl, hb⟩
  rcases hl with h | ⟨b, off, rfl, _, hc⟩
  · exact absurd h (List.cons_ne_nil _ _)
  · exact ⟨b, off, cap, rfl, hc 2 _ rfl, hb⟩
theorem eawJ (W : World) : Calls Try.prog 40 #[.int .u8 13] W fun e w' => e = .returned (.int .i64 2) ∧ Below W.heap.size W w' := by
  have := majority_any 13 (by decide) W
  rw [maj13] at this
  exact this
set_option maxRecDepth 100000 in
set_option maxHeartbeats 4000000 in
theorem entAwake_any (w : World) : Calls Try.prog 42 #[] w fun e w' => e = .returned (.bool true) ∧ Below w.heap.size w w' := by
  have HP := Lib.hid some_any
  have HW := Lib.hid eawW
  have HR := Lib.hid eawR
  have HM := Lib.hid eawM
  have HJ := Lib.hid eawJ
  have hre := ent_eql someE someE
  rw [decide_eq_true rfl] at hre
  have F := entF someE
  have hrow : ∀ W : World, W.heap.size ≤ W.heap.size → True := fun _ _ => trivial
  clear hrow
  have hEA : ∀ (W : World) (q : Nat), W.heap[q]? = some (.cells (entC someE) 62 (0, 0)) → EntAt W q someE := fun W q h => entAt h
  obtain ⟨C, hC⟩ : ∃ C, C = entC someE := ⟨_, rfl⟩
  rw [← hC] at HP HW HR F hEA
  have hre2 : ∀ W, (binOp .eql 62 (.agg (entC someE)) (.agg C)).run Try.prog W = .ok (.bool true) W := fun W => by rw [hC]; exact hre W
  unfold entC at hre2
  have hst := storeEnt C F.size F.one
  have hps := F.size
  have HEA := Lib.hid hEA
  clear hC hre F hEA
  go_enter Try.func42, Try.ntmps42
  go_wp2_with fail
  refine (HP.out _).mono ?_
  rintro e w1 ⟨rfl, hb1⟩
  have HB1 := Lib.hid hb1
  clear hb1
  go_wp2_with fail
  refine (HW.out _).mono ?_
  rintro e w2 ⟨rfl, hb2⟩
  have HB2 := Lib.hid (bnext HB1.out hb2)
  clear hb2 HB1
  go_wp2_with fail
  refine (HR.out _).mono ?_
  rintro e w3 ⟨rfl, hb3⟩
  have HB3 := Lib.hid (bnext HB2.out hb3)
  clear hb3 HB2
  go_wp2_with fail
  refine (HM.out _).mono ?_
  rintro e w4 ⟨b, off, cap, rfl, hc, hb4⟩
  have HB4 := Lib.hid hb4
  have HC := Lib.hid hc
  clear hb4 hc
  go_upto_region 3 with (fail)
  refine forget (fun W => Below w.heap.size w W ∧ W.heap[w3.heap.size]? = some (.cells C 62 (0, 0)) ∧ W.cell? ⟨b, off + 2, none⟩ = some (.int .u8 4)) ?_ ?_
  · exact ⟨bnext (bnew HB3.out _) HB4.out, (HB4.out.block _ (by simp)).trans (heap_alloc_new w3 _), HC.out⟩
  rintro W5 ⟨hb5, hp5, hm5⟩
  obtain ⟨q0, q1, q2, q3, q4, q5, q6, q7, q8, q9, q10, q11, q12, _⟩ := HEA.out _ _ hp5
  have k0 := fun d os => cell_regrown q0 d os
  have k1 := fun d os => cell_regrown q1 d os
  have k2 := fun d os => cell_regrown q2 d os
  have k3 := fun d os => cell_regrown q3 d os
  have k4 := fun d os => cell_regrown q4 d os
  have k5 := fun d os => cell_regrown q5 d os
  have k6 := fun d os => cell_regrown q6 d os
  have k7 := fun d os => cell_regrown q7 d os
  have k8 := fun d os => cell_regrown q8 d os
  have k9 := fun d os => cell_regrown q9 d os
  have k10 := fun d os => cell_regrown q10 d os
  have k11 := fun d os => cell_regrown q11 d os
  have k12 := fun d os => cell_regrown q12 d os
  have m2 := fun d os => cell_regrown hm5 d os
  have HB5 := Lib.hid hb5
  clear q0 q1 q2 q3 q4 q5 q6 q7 q8 q9 q10 q11 q12 hb5 hp5 hm5 HR HM HB3 HB4 HC hst hps
  refine wp_region_quiet_below (by kernel_rfl) (by kernel_rfl) ?_
  repeat (go_big_quiet_step ((first | (go_at_call 82; exact Calls.regrown_of (HP.out _)) | (go_at_call 37; exact Calls.regrown_of (HW.out _)) | (go_at_call 40; exact Calls.regrown_of (HJ.out _)))))
  refine wpQuiet_nil ?_
  intro _ hw'
  obtain ⟨pq, hw''⟩ := hw'
  subst hw''
  have hb1 := below_regrown W5 pq.d pq.os
  go_wp2_with fail
  go_ret
  exact ⟨rfl, bnext HB5.out hb1⟩
end Go.Proofs.Ytkghldobefgjeaa
