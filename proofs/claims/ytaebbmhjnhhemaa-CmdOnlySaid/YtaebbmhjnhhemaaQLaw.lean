/-
  The statements' own 'put' and 'awake' of layer 3 walked.
-/
import Derived.Test.YtaebbmhjnhhemaaQCall
import Derived.Lib.QuietBelow
set_option linter.unusedSimpArgs false
set_option linter.unusedVariables false
namespace Go.Proofs.Ytaebbmhjnhhemaa
open Go.RowKit
def bk : ByteArray := ⟨#[107]⟩
def bv : ByteArray := ⟨#[118]⟩
def putC : Cm.Cmd := ⟨2, 1, 2, bk, bv, Cm.e0, Cm.e0, Cm.e0, 0, 3, 0, []⟩
def putL : List UInt8 := [2, 1, 2, 1, 107, 1, 118, 3]
theorem put_fits : Cm.Fits putC := ⟨by decide, by simp [putC, Nm.top], by simp [putC, Nm.top], by decide, by simp [putC, Nm.top], by simp [putC, Nm.top], fun p hp => by cases hp⟩
theorem put_short : Short putC := ⟨by decide, by decide, by decide, by decide, by decide, by decide, fun p hp => by cases hp⟩
theorem put_may : Cm.may putC = true := by decide +kernel
theorem put_bytes : Cm.bytes putC = putL := by decide +kernel
theorem put_write : Cm.write putC = putL := by unfold Cm.write; rw [put_may, if_pos rfl, put_bytes]
theorem top_pos {n : Nat} (h : n ≤ 100) : n < Nm.top := by unfold Nm.top; omega
theorem put_shape : Cm.Shape putC := Cm.shape_of put_fits put_may (top_pos (by decide)) (top_pos (by decide)) (top_pos (by decide)) (top_pos (by decide)) (top_pos (by decide)) (fun p hp => by cases hp)
theorem put_read : Cm.read putL = some putC := (Cm.read_iff _ _).2 ⟨put_shape, put_may, put_bytes.symm⟩
theorem put_over : Cm.oversize putC = false := by decide +kernel
def awR : Rs.Res := ⟨0, 5, Cm.e0, [⟨bk, bv, 7⟩]⟩
def awL : List UInt8 := [0, 5, 0, 1, 1, 107, 1, 118, 7]
theorem aw_read : Rs.read awL = some awR := (Rs.read_iff _ _).2 ⟨⟨by decide, top_pos (by decide), top_pos (by decide), top_pos (by decide), fun x hx => by
  simp [awR] at hx; subst hx; exact ⟨top_pos (by decide), top_pos (by decide), top_pos (by decide)⟩⟩, by decide +kernel⟩
set_option maxRecDepth 100000 in
theorem put_any (w : World) : Calls Try.prog 40 #[] w fun e w' => e = .returned (.agg (cmdC putC none 0)) ∧ Below w.heap.size w w' := by
  go_enter Try.func40, Try.ntmps40
  go_wp2_with fail
  refine bodyPost_ret (results_cell_row (P := Try.prog) (fn := Try.f40) rfl _ _ w.heap.size 27 (cmdC putC none 0) (0, 0) _ rfl (heap_alloc_new w _) Try.underlying27 rfl sizeCmd) rfl ⟨rfl, bnew (Below.refl _ _) _⟩
theorem awW (W : World) : Calls Try.prog 10 #[.agg (cmdC putC none 0)] W fun e w' => e = .returned (.string ⟨#[2, 1, 2, 1, 107, 1, 118, 3]⟩) ∧ Below W.heap.size W w' := by
  have := cmdWrite_any putC put_fits put_short none 0 W (.inl rfl)
  rw [put_write] at this
  exact this
theorem awRd (W : World) : Calls Try.prog 19 #[.string ⟨#[2, 1, 2, 1, 107, 1, 118, 3]⟩] W fun e w' => ∃ A cap, e = .returned (.tuple #[.agg (cmdC putC A cap), .bool true]) ∧ Below W.heap.size W w' := by
  have := cmdRead_any ⟨#[2, 1, 2, 1, 107, 1, 118, 3]⟩ W (by decide)
  rw [show (⟨#[2, 1, 2, 1, 107, 1, 118, 3]⟩ : ByteArray).data.toList = putL from rfl, put_read] at this
  refine this.mono ?_
  rintro e w' ⟨A, cap, rfl, _, hb⟩
  exact ⟨A, cap, rfl, hb⟩
theorem awRr (W : World) : Calls Try.prog 23 #[.string ⟨#[0, 5, 0, 1, 1, 107, 1, 118, 7]⟩] W fun e w' => ∃ A cap, e = .returned (.tuple #[.agg #[.int .u8 0, .int .u64 5, .string ⟨#[]⟩, .slice A 1 cap], .bool true]) ∧ Lies w' A (rc awR.rows) ∧ Below W.heap.size W w' := by
  have := cmdReadRes_any ⟨#[0, 5, 0, 1, 1, 107, 1, 118, 7]⟩ W (by decide)
  rw [show (⟨#[0, 5, 0, 1, 1, 107, 1, 118, 7]⟩ : ByteArray).data.toList = awL from rfl, aw_read] at this
  refine this.mono ?_
  rintro e w' ⟨A, cap, rfl, hl, hb⟩
  exact ⟨A, cap, rfl, hl, hb⟩
theorem awS (A : Option Addr) (cap : Nat) (W : World) : Calls Try.prog 25 #[.agg (cmdC putC A cap), .agg (cmdC putC none 0)] W fun e w' => e = .returned (.bool true) ∧ Below W.heap.size W w' := by
  have := same_any putC putC A none cap 0 W (.inl rfl) (.inl rfl) (by decide)
  rw [Cm.same_refl] at this
  exact this
theorem awO (W : World) : Calls Try.prog 12 #[.agg (cmdC putC none 0)] W fun e w' => e = .returned (.bool false) ∧ Below W.heap.size W w' := by
  have := cmdOver_any putC none 0 W (.inl rfl) (by decide)
  rw [put_over] at this
  exact this
set_option maxRecDepth 100000 in
set_option maxHeartbeats 4000000 in
theorem cmdAwake_any (w : World) : Calls Try.prog 15 #[] w fun e w' => e = .returned (.bool true) ∧ Below w.heap.size w w' := by
  have HP := Lib.hid put_any
  have HW := Lib.hid awW
  have HR := Lib.hid awRd
  have HRr := Lib.hid awRr
  have HS := Lib.hid awS
  have HO := Lib.hid awO
  go_enter Try.func15, Try.ntmps15
  go_wp2_with fail
  refine (HP.out _).mono ?_
  rintro e w1 ⟨rfl, hb1⟩
  have HB1 := Lib.hid hb1
  clear hb1
  generalize hC : cmdC putC none 0 = C at *
  have HC := Lib.hid hC
  clear hC
  go_wp2_with fail
  refine (HW.out _).mono ?_
  rintro e w2 ⟨rfl, hb2⟩
  have HB2 := Lib.hid (HB1.out.trans (hb2.mono HB1.out.size))
  clear hb2 HB1
  go_wp2_with fail
  refine (HR.out _).mono ?_
  rintro e w3 ⟨A, cap, rfl, hb3⟩
  have HB3 := Lib.hid (HB2.out.trans (hb3.mono HB2.out.size))
  clear hb3 HB2
  have FP := cmdF putC A cap
  obtain ⟨P, hP⟩ : ∃ P, P = cmdC putC A cap := ⟨_, rfl⟩
  rw [← hP] at FP ⊢
  have hst := storeCmd P FP.size FP.one
  have hps := FP.size
  have HPP := Lib.hid hP
  clear hP FP
  go_wp2_with fail
  refine (HRr.out _).mono ?_
  rintro e w4 ⟨R, rcap, rfl, hL, hb4⟩
  have HL := Lib.hid hL
  have HB4 := Lib.hid hb4
  have HRW : Hid (∀ x, ((w4.alloc (.cells x 42)).heap[w4.heap.size]? = some (.cells x 42 (0, 0)))) := Lib.hid (fun x => heap_alloc_new w4 _)
  clear hL hb4
  go_upto_region 3 with (fail)
  refine forget (fun W => Below w.heap.size w W ∧ W.heap[w3.heap.size]? = some (.cells P 27 (0, 0)) ∧ W.heap[w4.heap.size]? = some (.cells (resC awR R rcap) 42 (0, 0)) ∧ Lies W R (rc awR.rows)) ?_ ?_
  · have h3 := HB3.out
    have h4 := HB4.out
    have hs4 := h4.size
    simp only [World.size_alloc] at hs4
    exact ⟨bnew ((bnew h3 _).trans (h4.mono (by have := h3.size; simp; omega))) _, (Below.heap_alloc _ _ _ (by omega)).trans ((h4.block _ (by simp)).trans (heap_alloc_new w3 _)), HRW.out _, HL.out.below (bnew (Below.refl _ _) _)⟩
  rintro W5 ⟨hb5, hp5, hr5, hl5⟩
  rw [HPP.out] at hp5
  obtain ⟨q0, q1, q2, q3, q4, q5, q6, q7, q8, q9, q10, q11, _⟩ := cmdAt hp5
  have k0 := fun d os => cell_regrown q0 d os
  have k1 := fun d os => cell_regrown q1 d os
  have k2 := fun d os => cell_regrown q2 d os
  have k3 := fun d os => cell_regrown q3 d os
  have k4 := fun d os => cell_regrown q4 d os
  have k5 := fun d os => cell_regrown q5 d os
  have k6 := fun d os => cell_regrown q6 d os
  have k7 := fun d os => cell_regrown q7 d os
  have k8 := fun d os => cell_regrown q8 d os
  have k9 := fun d os => cell_regrown q9 d os
  have k10 := fun d os => cell_regrown q10 d os
  have k11 := fun d os => cell_regrown q11 d os
  have r1 : W5.cell? ⟨w4.heap.size, 1, none⟩ = some (.int .u64 5) := cell_of_row W5 _ 1 _ _ _ hr5
  have r3 : W5.cell? ⟨w4.heap.size, 3, none⟩ = some (.slice R 1 rcap) := cell_of_row W5 _ 3 _ _ _ hr5
  have m1 := fun d os => cell_regrown r1 d os
  have m3 := fun d os => cell_regrown r3 d os
  obtain ⟨b, off, rfl, _, s0, s1, s2⟩ := hl5.row 0 (by decide)
  have s0 : W5.cell? ⟨b, off, none⟩ = some (.string ⟨#[107]⟩) := s0
  have s1 : W5.cell? ⟨b, off + 1, none⟩ = some (.string ⟨#[118]⟩) := s1
  have s2 : W5.cell? ⟨b, off + 2, none⟩ = some (.int .u64 7) := s2
  have n0 := fun d os => cell_regrown s0 d os
  have n1 := fun d os => cell_regrown s1 d os
  have n2 := fun d os => cell_regrown s2 d os
  have hre : ∀ W, (binOp .eql 74 (.agg #[.string ⟨#[107]⟩, .string ⟨#[118]⟩, .int .u64 7]) (.agg #[.string ⟨#[107]⟩, .string ⟨#[118]⟩, .int .u64 7])).run Try.prog W = .ok (.bool true) W := fun W => by
    have := row_eql ⟨bk, bv, 7⟩ ⟨bk, bv, 7⟩ W
    rw [show Rs.sameR ⟨bk, bv, 7⟩ ⟨bk, bv, 7⟩ = true from (Rs.sameR_iff _ _).2 rfl] at this
    exact this
  have HB5 := Lib.hid hb5
  clear q0 q1 q2 q3 q4 q5 q6 q7 q8 q9 q10 q11 r1 r3 s0 s1 s2 hb5 hp5 hr5 hl5 HR HRr HB3 HB4 HL HRW hst hps
  refine wp_region_quiet_below (by kernel_rfl) (by kernel_rfl) ?_
  repeat (go_big_quiet_step ((first | (go_at_call 40; exact Calls.regrown_of (HP.out _)) | (go_at_call 10; exact Calls.regrown_of (HW.out _)) | (go_at_call 25; exact Calls.regrown_of (HS.out A cap _)) | (go_at_call 12; exact Calls.regrown_of (HO.out _)))))
  refine wpQuiet_nil ?_
  intro _ hw'
  obtain ⟨pq, hw''⟩ := hw'
  subst hw''
  have hb1 := below_regrown W5 pq.d pq.os
  go_wp2_with fail
  go_ret
  exact ⟨rfl, HB5.out.trans (hb1.mono HB5.out.size)⟩
end Go.Proofs.Ytaebbmhjnhhemaa
