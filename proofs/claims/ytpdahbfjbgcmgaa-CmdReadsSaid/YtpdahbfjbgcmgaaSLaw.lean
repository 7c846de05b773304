/-
  The statements' own 'put' and 'awake' of layer 3 walked.
  The statements' own 'Great' of layer 3 walked.
-/
import Derived.Test.YtpdahbfjbgcmgaaSCall
import Derived.Test.YtpdahbfjbgcmgaaSCmdOver
import Derived.Test.YtpdahbfjbgcmgaaSWkCmd
import Derived.Lib.QuietBelow
set_option linter.unusedSimpArgs false
set_option linter.unusedVariables false
namespace Go.Proofs.Ytpdahbfjbgcmgaa
open Go.RowKit
def bk : ByteArray := ⟨#[107]⟩
def bv : ByteArray := ⟨#[118]⟩
def putC : Cm.Cmd := ⟨2, 1, 2, bk, bv, Cm.e0, Cm.e0, Cm.e0, 0, 3, 0, []⟩
def putL : List UInt8 := [2, 1, 2, 1, 107, 1, 118, 3]
theorem put_fits : Cm.Fits putC := ⟨by decide, by simp [putC, Nm.top], by simp [putC, Nm.top], by decide, by simp [putC, Nm.top], by simp [putC, Nm.top], fun p hp => by cases hp⟩
theorem put_short : Short putC := ⟨by decide, by decide, by decide, by decide, by decide, by decide, fun p hp => by cases hp⟩
theorem put_may : Cm.may putC = true := by decide +kernel
theorem put_bytes : Cm.bytes putC = putL := by decide +kernel
theorem put_write : Cm.write putC = putL := by unfold Cm.write; rw [put_may, if_pos rfl, put_bytes]
theorem top_pos {n : Nat} (h : n ≤ 100) : n < Nm.top := by unfold Nm.top; omega
theorem put_shape : Cm.Shape putC := Cm.shape_of put_fits put_may (top_pos (by decide)) (top_pos (by decide)) (top_pos (by decide)) (top_pos (by decide)) (top_pos (by decide)) (fun p hp => by cases hp)
theorem put_read : Cm.read putL = some putC := (Cm.read_iff _ _).2 ⟨put_shape, put_may, put_bytes.symm⟩
theorem put_over : Cm.oversize putC = false := by decide +kernel
def awR : Rs.Res := ⟨0, 5, Cm.e0, [⟨bk, bv, 7⟩]⟩
def awL : List UInt8 := [0, 5, 0, 1, 1, 107, 1, 118, 7]
theorem aw_read : Rs.read awL = some awR := (Rs.read_iff _ _).2 ⟨⟨by decide, top_pos (by decide), top_pos (by decide), top_pos (by decide), fun x hx => by
  simp [awR] at hx; subst hx; exact ⟨top_pos (by decide), top_pos (by decide), top_pos (by decide)⟩⟩, by decide +kernel⟩
set_option maxRecDepth 100000 in
theorem put_any (w : World) : Calls Try.prog 58 #[] w fun e w' => e = .returned (.agg (cmdC putC none 0)) ∧ Below w.heap.size w w' := by
  go_enter Try.func58, Try.ntmps58
  go_wp2_with fail
  refine bodyPost_ret (results_cell_row (P := Try.prog) (fn := Try.f58) rfl _ _ w.heap.size 27 (cmdC putC none 0) (0, 0) _ rfl (heap_alloc_new w _) Try.underlying27 rfl sizeCmd) rfl ⟨rfl, bnew (Below.refl _ _) _⟩
theorem awW (W : World) : Calls Try.prog 16 #[.agg (cmdC putC none 0)] W fun e w' => e = .returned (.string ⟨#[2, 1, 2, 1, 107, 1, 118, 3]⟩) ∧ Below W.heap.size W w' := by
  have := cmdWrite_any putC put_fits put_short none 0 W (.inl rfl)
  rw [put_write] at this
  exact this
theorem awRd (W : World) : Calls Try.prog 25 #[.string ⟨#[2, 1, 2, 1, 107, 1, 118, 3]⟩] W fun e w' => ∃ A cap, e = .returned (.tuple #[.agg (cmdC putC A cap), .bool true]) ∧ Below W.heap.size W w' := by
  have := cmdRead_any ⟨#[2, 1, 2, 1, 107, 1, 118, 3]⟩ W (by decide)
  rw [show (⟨#[2, 1, 2, 1, 107, 1, 118, 3]⟩ : ByteArray).data.toList = putL from rfl, put_read] at this
  refine this.mono ?_
  rintro e w' ⟨A, cap, rfl, _, hb⟩
  exact ⟨A, cap, rfl, hb⟩
theorem awRr (W : World) : Calls Try.prog 29 #[.string ⟨#[0, 5, 0, 1, 1, 107, 1, 118, 7]⟩] W fun e w' => ∃ A cap, e = .returned (.tuple #[.agg #[.int .u8 0, .int .u64 5, .string ⟨#[]⟩, .slice A 1 cap], .bool true]) ∧ Lies w' A (rc awR.rows) ∧ Below W.heap.size W w' := by
  have := cmdReadRes_any ⟨#[0, 5, 0, 1, 1, 107, 1, 118, 7]⟩ W (by decide)
  rw [show (⟨#[0, 5, 0, 1, 1, 107, 1, 118, 7]⟩ : ByteArray).data.toList = awL from rfl, aw_read] at this
  refine this.mono ?_
  rintro e w' ⟨A, cap, rfl, hl, hb⟩
  exact ⟨A, cap, rfl, hl, hb⟩
theorem awS (A : Option Addr) (cap : Nat) (W : World) : Calls Try.prog 31 #[.agg (cmdC putC A cap), .agg (cmdC putC none 0)] W fun e w' => e = .returned (.bool true) ∧ Below W.heap.size W w' := by
  have := same_any putC putC A none cap 0 W (.inl rfl) (.inl rfl) (by decide)
  rw [Cm.same_refl] at this
  exact this
theorem awO (W : World) : Calls Try.prog 18 #[.agg (cmdC putC none 0)] W fun e w' => e = .returned (.bool false) ∧ Below W.heap.size W w' := by
  have := cmdOver_any putC none 0 W (.inl rfl) (by decide)
  rw [put_over] at this
  exact this
set_option maxRecDepth 100000 in
set_option maxHeartbeats 4000000 in
theorem cmdAwake_any (w : World) : Calls Try.prog 21 #[] w fun e w' => e = .returned (.bool true) ∧ Below w.heap.size w w' := by
  have HP := Lib.hid put_any
  have HW := Lib.hid awW
  have HR := Lib.hid awRd
  have HRr := Lib.hid awRr
  have HS := Lib.hid awS
  have HO := Lib.hid awO
  go_enter Try.func21, Try.ntmps21
  go_wp2_with fail
  refine (HP.out _).mono ?_
  rintro e w1 ⟨rfl, hb1⟩
  have HB1 := Lib.hid hb1
  clear hb1
  generalize hC : cmdC putC none 0 = C at *
  have HC := Lib.hid hC
  clear hC
  go_wp2_with fail
  refine (HW.out _).mono ?_
  rintro e w2 ⟨rfl, hb2⟩
  have HB2 := Lib.hid (HB1.out.trans (hb2.mono HB1.out.size))
  clear hb2 HB1
  go_wp2_with fail
  refine (HR.out _).mono ?_
  rintro e w3 ⟨A, cap, rfl, hb3⟩
  have HB3 := Lib.hid (HB2.out.trans (hb3.mono HB2.out.size))
  clear hb3 HB2
  have FP := cmdF putC A cap
  obtain ⟨P, hP⟩ : ∃ P, P = cmdC putC A cap := ⟨_, rfl⟩
  rw [← hP] at FP ⊢
  have hst := storeCmd P FP.size FP.one
  have hps := FP.size
  have HPP := Lib.hid hP
  clear hP FP
  go_wp2_with fail
  refine (HRr.out _).mono ?_
  rintro e w4 ⟨R, rcap, rfl, hL, hb4⟩
  have HL := Lib.hid hL
  have HB4 := Lib.hid hb4
  have HRW : Hid (∀ x, ((w4.alloc (.cells x 42)).heap[w4.heap.size]? = some (.cells x 42 (0, 0)))) := Lib.hid (fun x => heap_alloc_new w4 _)
  clear hL hb4
  go_upto_region 3 with (fail)
  refine forget (fun W => Below w.heap.size w W ∧ W.heap[w3.heap.size]? = some (.cells P 27 (0, 0)) ∧ W.heap[w4.heap.size]? = some (.cells (resC awR R rcap) 42 (0, 0)) ∧ Lies W R (rc awR.rows)) ?_ ?_
  · have h3 := HB3.out
    have h4 := HB4.out
    have hs4 := h4.size
    simp only [World.size_alloc] at hs4
    exact ⟨bnew ((bnew h3 _).trans (h4.mono (by have := h3.size; simp; omega))) _, (Below.heap_alloc _ _ _ (by omega)).trans ((h4.block _ (by simp)).trans (heap_alloc_new w3 _)), HRW.out _, HL.out.below (bnew (Below.refl _ _) _)⟩
  rintro W5 ⟨hb5, hp5, hr5, hl5⟩
  rw [HPP.out] at hp5
  obtain ⟨q0, q1, q2, q3, q4, q5, q6, q7, q8, q9, q10, q11, _⟩ := cmdAt hp5
  have k0 := fun d os => cell_regrown q0 d os
  have k1 := fun d os => cell_regrown q1 d os
  have k2 := fun d os => cell_regrown q2 d os
  have k3 := fun d os => cell_regrown q3 d os
  have k4 := fun d os => cell_regrown q4 d os
  have k5 := fun d os => cell_regrown q5 d os
  have k6 := fun d os => cell_regrown q6 d os
  have k7 := fun d os => cell_regrown q7 d os
  have k8 := fun d os => cell_regrown q8 d os
  have k9 := fun d os => cell_regrown q9 d os
  have k10 := fun d os => cell_regrown q10 d os
  have k11 := fun d os => cell_regrown q11 d os
  have r1 : W5.cell? ⟨w4.heap.size, 1, none⟩ = some (.int .u64 5) := cell_of_row W5 _ 1 _ _ _ hr5
  have r3 : W5.cell? ⟨w4.heap.size, 3, none⟩ = some (.slice R 1 rcap) := cell_of_row W5 _ 3 _ _ _ hr5
  have m1 := fun d os => cell_regrown r1 d os
  have m3 := fun d os => cell_regrown r3 d os
  obtain ⟨b, off, rfl, _, s0, s1, s2⟩ := hl5.row 0 (by decide)
  have s0 : W5.cell? ⟨b, off, none⟩ = some (.string ⟨#[107]⟩) := s0
  have s1 : W5.cell? ⟨b, off + 1, none⟩ = some (.string ⟨#[118]⟩) := s1
  have s2 : W5.cell? ⟨b, off + 2, none⟩ = some (.int .u64 7) := s2
  have n0 := fun d os => cell_regrown s0 d os
  have n1 := fun d os => cell_regrown s1 d os
  have n2 := fun d os => cell_regrown s2 d os
  have hre : ∀ W, (binOp .eql 89 (.agg #[.string ⟨#[107]⟩, .string ⟨#[118]⟩, .int .u64 7]) (.agg #[.string ⟨#[107]⟩, .string ⟨#[118]⟩, .int .u64 7])).run Try.prog W = .ok (.bool true) W := fun W => by
    have := row_eql ⟨bk, bv, 7⟩ ⟨bk, bv, 7⟩ W
    rw [show Rs.sameR ⟨bk, bv, 7⟩ ⟨bk, bv, 7⟩ = true from (Rs.sameR_iff _ _).2 rfl] at this
    exact this
  have HB5 := Lib.hid hb5
  clear q0 q1 q2 q3 q4 q5 q6 q7 q8 q9 q10 q11 r1 r3 s0 s1 s2 hb5 hp5 hr5 hl5 HR HRr HB3 HB4 HL HRW hst hps
  refine wp_region_quiet_below (by kernel_rfl) (by kernel_rfl) ?_
  repeat (go_big_quiet_step ((first | (go_at_call 58; exact Calls.regrown_of (HP.out _)) | (go_at_call 16; exact Calls.regrown_of (HW.out _)) | (go_at_call 31; exact Calls.regrown_of (HS.out A cap _)) | (go_at_call 18; exact Calls.regrown_of (HO.out _)))))
  refine wpQuiet_nil ?_
  intro _ hw'
  obtain ⟨pq, hw''⟩ := hw'
  subst hw''
  have hb1 := below_regrown W5 pq.d pq.os
  go_wp2_with fail
  go_ret
  exact ⟨rfl, HB5.out.trans (hb1.mono HB5.out.size)⟩
end Go.Proofs.Ytpdahbfjbgcmgaa
namespace Go.Proofs.Ytpdahbfjbgcmgaa
open Go.RowKit
namespace Cm
def greatP (p : Part) : Bool := decide (3000 < p.key.size) || decide (3000 < p.val.size)
def great0 (c : Cmd) : Bool := decide (3000 < c.key.size) || (decide (3000 < c.val.size) || (decide (3000 < c.exp.size) || (decide (3000 < c.frm.size) || (decide (3000 < c.tto.size) || decide (40 < c.parts.length)))))
def great (c : Cmd) : Bool := great0 c || c.parts.any greatP
/-- A command that isn't great. -/
structure Small (c : Cmd) : Prop where
  key : c.key.size ≤ 3000
  val : c.val.size ≤ 3000
  exp : c.exp.size ≤ 3000
  frm : c.frm.size ≤ 3000
  tto : c.tto.size ≤ 3000
  len : c.parts.length ≤ 40
  parts : ∀ p ∈ c.parts, p.key.size ≤ 3000 ∧ p.val.size ≤ 3000
theorem small_of {c : Cmd} (h : great c = false) : Small c := by
  unfold great great0 at h
  simp only [Bool.or_eq_false_iff, decide_eq_false_iff_not] at h
  obtain ⟨⟨h1, h2, h3, h4, h5, h6⟩, h7⟩ := h
  refine ⟨by omega, by omega, by omega, by omega, by omega, by omega, fun p hp => ?_⟩
  have := (List.any_eq_false.1 h7) p hp
  simp only [greatP, Bool.or_eq_true, decide_eq_true_eq, not_or] at this
  exact ⟨by omega, by omega⟩
end Cm
theorem Cm.Small.short {c : Cm.Cmd} (h : Cm.Small c) (hf : Cm.Fits c) : Short c :=
  ⟨by have := h.key; omega, by have := h.val; omega, by have := h.exp; omega, by have := h.frm; omega, by have := h.tto; omega, by have := h.len; omega, fun p hp => ⟨hf.parts p hp, by have := (h.parts p hp).1; omega, by have := (h.parts p hp).2; omega⟩⟩
theorem great_take (ps : List Cm.Part) (k : Nat) (hk : k < ps.length) : (ps.take (k + 1)).any Cm.greatP = ((ps.take k).any Cm.greatP || Cm.greatP ps[k]) := by
  rw [List.take_succ_eq_append_getElem hk, List.any_append]; simp
set_option maxRecDepth 100000 in
set_option maxHeartbeats 4000000 in
theorem great_any (c : Cm.Cmd) (A : Option Addr) (cap : Nat) (w : World) (hA : Lies w A (pc c.parts)) :
    Calls Try.prog 22 #[.agg (cmdC c A cap)] w fun e w' => e = .returned (.bool (Cm.great c)) ∧ Below w.heap.size w w' := by
  have FX := cmdF c A cap
  generalize cmdC c A cap = X at FX ⊢
  obtain ⟨hx, _, _, _, _, x3, x4, x5, x6, x7, _, _, _, x11⟩ := FX
  have HA := Lib.hid hA
  clear hA
  by_cases h1 : 3000 < c.key.size
  · have E : Hid (Cm.great c = true) := Lib.hid (by unfold Cm.great Cm.great0; simp [h1])
    have d1 : decide ((3000 : Int) < (c.key.size : Int)) = true := dec_t h1
    clear h1
    go_enter Try.func22, Try.ntmps22
    go_wp2_with fail
    go_ret
    rw [E.out]
    exact ⟨rfl, bnew (Below.refl _ _) _⟩
  by_cases h2 : 3000 < c.val.size
  · have E : Hid (Cm.great c = true) := Lib.hid (by unfold Cm.great Cm.great0; simp [h1, h2])
    have d1 : decide ((3000 : Int) < (c.key.size : Int)) = false := dec_f h1
    have d2 : decide ((3000 : Int) < (c.val.size : Int)) = true := dec_t h2
    clear h1 h2
    go_enter Try.func22, Try.ntmps22
    go_wp2_with fail
    go_ret
    rw [E.out]
    exact ⟨rfl, bnew (Below.refl _ _) _⟩
  by_cases h3 : 3000 < c.exp.size
  · have E : Hid (Cm.great c = true) := Lib.hid (by unfold Cm.great Cm.great0; simp [h1, h2, h3])
    have d1 : decide ((3000 : Int) < (c.key.size : Int)) = false := dec_f h1
    have d2 : decide ((3000 : Int) < (c.val.size : Int)) = false := dec_f h2
    have d3 : decide ((3000 : Int) < (c.exp.size : Int)) = true := dec_t h3
    clear h1 h2 h3
    go_enter Try.func22, Try.ntmps22
    go_wp2_with fail
    go_ret
    rw [E.out]
    exact ⟨rfl, bnew (Below.refl _ _) _⟩
  by_cases h4 : 3000 < c.frm.size
  · have E : Hid (Cm.great c = true) := Lib.hid (by unfold Cm.great Cm.great0; simp [h1, h2, h3, h4])
    have d1 : decide ((3000 : Int) < (c.key.size : Int)) = false := dec_f h1
    have d2 : decide ((3000 : Int) < (c.val.size : Int)) = false := dec_f h2
    have d3 : decide ((3000 : Int) < (c.exp.size : Int)) = false := dec_f h3
    have d4 : decide ((3000 : Int) < (c.frm.size : Int)) = true := dec_t h4
    clear h1 h2 h3 h4
    go_enter Try.func22, Try.ntmps22
    go_wp2_with fail
    go_ret
    rw [E.out]
    exact ⟨rfl, bnew (Below.refl _ _) _⟩
  by_cases h5 : 3000 < c.tto.size
  · have E : Hid (Cm.great c = true) := Lib.hid (by unfold Cm.great Cm.great0; simp [h1, h2, h3, h4, h5])
    have d1 : decide ((3000 : Int) < (c.key.size : Int)) = false := dec_f h1
    have d2 : decide ((3000 : Int) < (c.val.size : Int)) = false := dec_f h2
    have d3 : decide ((3000 : Int) < (c.exp.size : Int)) = false := dec_f h3
    have d4 : decide ((3000 : Int) < (c.frm.size : Int)) = false := dec_f h4
    have d5 : decide ((3000 : Int) < (c.tto.size : Int)) = true := dec_t h5
    clear h1 h2 h3 h4 h5
    go_enter Try.func22, Try.ntmps22
    go_wp2_with fail
    go_ret
    rw [E.out]
    exact ⟨rfl, bnew (Below.refl _ _) _⟩
  by_cases h6 : 40 < c.parts.length
  · have E : Hid (Cm.great c = true) := Lib.hid (by unfold Cm.great Cm.great0; simp [h1, h2, h3, h4, h5, h6])
    have d1 : decide ((3000 : Int) < (c.key.size : Int)) = false := dec_f h1
    have d2 : decide ((3000 : Int) < (c.val.size : Int)) = false := dec_f h2
    have d3 : decide ((3000 : Int) < (c.exp.size : Int)) = false := dec_f h3
    have d4 : decide ((3000 : Int) < (c.frm.size : Int)) = false := dec_f h4
    have d5 : decide ((3000 : Int) < (c.tto.size : Int)) = false := dec_f h5
    have d6 : decide ((40 : Int) < (c.parts.length : Int)) = true := dec_t h6
    clear h1 h2 h3 h4 h5 h6
    go_enter Try.func22, Try.ntmps22
    go_wp2_with fail
    go_ret
    rw [E.out]
    exact ⟨rfl, bnew (Below.refl _ _) _⟩
  have hlen : c.parts.length ≤ 40 := by omega
  have hgr : Cm.great c = c.parts.any Cm.greatP := by unfold Cm.great Cm.great0; simp [h1, h2, h3, h4, h5, h6]
  have d1 : decide ((3000 : Int) < (c.key.size : Int)) = false := dec_f h1
  have d2 : decide ((3000 : Int) < (c.val.size : Int)) = false := dec_f h2
  have d3 : decide ((3000 : Int) < (c.exp.size : Int)) = false := dec_f h3
  have d4 : decide ((3000 : Int) < (c.frm.size : Int)) = false := dec_f h4
  have d5 : decide ((3000 : Int) < (c.tto.size : Int)) = false := dec_f h5
  have d6 : decide ((40 : Int) < (c.parts.length : Int)) = false := dec_f h6
  have Hgr := Lib.hid hgr
  clear h1 h2 h3 h4 h5 h6 hgr
  go_enter Try.func22, Try.ntmps22
  go_wp2_with fail
  clear d1 d2 d3 d4 d5 d6
  have hrow : (w.alloc (.cells X 27)).heap[w.heap.size]? = some (.cells X 27 (0, 0)) := heap_alloc_new w _
  have hbw : Below w.heap.size w (w.alloc (.cells X 27)) := bnew (Below.refl _ _) _
  generalize w.alloc (.cells X 27) = W1 at *
  have c11 := cell_of_row W1 w.heap.size 11 X _ _ hrow
  rw [Array.getElem?_eq_getElem (by omega), x11] at c11
  have Hb := Lib.hid hbw
  clear hrow hbw x3 x4 x5 x6 x7 x11
  go_loop [3] (fun i => ∃ k : Nat, k ≤ c.parts.length ∧ i = .int .i64 (k : Int) ∧ (c.parts.take k).any Cm.greatP = false) (fun i => c.parts.length - (intOf i).toNat)
  case atStart => exact ⟨0, Nat.zero_le _, rfl, by simp⟩
  case round =>
    obtain ⟨k, hk, rfl, hall⟩ := hrel
    have Hall := Lib.hid hall
    clear hall
    by_cases hlt : k < c.parts.length
    · obtain ⟨ba, oa, rfl, hba, p0, p1, p2⟩ := HA.out.part k hlt
      have r1 : W1.cell? ⟨ba, oa + k * 3 + 1, none⟩ = _ := (Hb.out.cell (p := ⟨ba, oa + k * 3 + 1, none⟩) hba).trans p1
      have r2 : W1.cell? ⟨ba, oa + k * 3 + 2, none⟩ = _ := (Hb.out.cell (p := ⟨ba, oa + k * 3 + 2, none⟩) hba).trans p2
      obtain ⟨p, hp⟩ : ∃ p, p = c.parts[k] := ⟨_, rfl⟩
      have hstep := great_take c.parts k hlt
      rw [← hp] at r1 r2 hstep
      rw [Hall.out, Bool.false_or] at hstep
      have Hst := Lib.hid hstep
      have Hmem : Hid (p ∈ c.parts) := Lib.hid (by rw [hp]; exact List.getElem_mem hlt)
      clear hstep hp p0 p1 p2
      by_cases g1 : 3000 < p.key.size
      · have Hfin : Hid (c.parts.any Cm.greatP = true) := Lib.hid (List.any_eq_true.2 ⟨p, Hmem.out, by simp [Cm.greatP, g1]⟩)
        have e1 : decide ((3000 : Int) < (p.key.size : Int)) = true := dec_t g1
        clear g1
        go_wp2_with fail
        go_ret
        exact ⟨by rw [Hgr.out, Hfin.out]; rfl, Hb.out⟩
      · have e1 : decide ((3000 : Int) < (p.key.size : Int)) = false := dec_f g1
        by_cases g2 : 3000 < p.val.size
        · have Hfin : Hid (c.parts.any Cm.greatP = true) := Lib.hid (List.any_eq_true.2 ⟨p, Hmem.out, by simp [Cm.greatP, g2]⟩)
          have e2 : decide ((3000 : Int) < (p.val.size : Int)) = true := dec_t g2
          clear g1 g2
          go_wp2_with fail
          go_ret
          exact ⟨by rw [Hgr.out, Hfin.out]; rfl, Hb.out⟩
        · have e2 : decide ((3000 : Int) < (p.val.size : Int)) = false := dec_f g2
          have Hgp : Hid (Cm.greatP p = false) := Lib.hid (by simp [Cm.greatP]; omega)
          clear g1 g2
          go_wp2_with fail
          go_round
          case rel => exact ⟨k + 1, by omega, by go_num, by rw [Hst.out, Hgp.out]⟩
          case measure => simp [intOf]; omega
    · obtain rfl : k = c.parts.length := by omega
      go_wp2_with fail
      go_ret
      refine ⟨?_, Hb.out⟩
      have := Hall.out
      rw [List.take_length] at this
      rw [Hgr.out, this]; rfl
end Go.Proofs.Ytpdahbfjbgcmgaa
