/-
  The statements' own 'Great' of layer 3 walked.
-/
import Derived.Test.YtlcgjlganmblpaaRCmdMay
import Derived.Test.YtlcgjlganmblpaaRFrA
import Derived.Test.YtlcgjlganmblpaaRWkCmd
set_option linter.unusedSimpArgs false
set_option linter.unusedVariables false
namespace Go.Proofs.Ytlcgjlganmblpaa
open Go.RowKit
namespace Cm
def greatP (p : Part) : Bool := decide (3000 < p.key.size) || decide (3000 < p.val.size)
def great0 (c : Cmd) : Bool := decide (3000 < c.key.size) || (decide (3000 < c.val.size) || (decide (3000 < c.exp.size) || (decide (3000 < c.frm.size) || (decide (3000 < c.tto.size) || decide (40 < c.parts.length)))))
def great (c : Cmd) : Bool := great0 c || c.parts.any greatP
/-- A command that isn't great. -/
structure Small (c : Cmd) : Prop where
  key : c.key.size ≤ 3000
  val : c.val.size ≤ 3000
  exp : c.exp.size ≤ 3000
  frm : c.frm.size ≤ 3000
  tto : c.tto.size ≤ 3000
  len : c.parts.length ≤ 40
  parts : ∀ p ∈ c.parts, p.key.size ≤ 3000 ∧ p.val.size ≤ 3000
theorem small_of {c : Cmd} (h : great c = false) : Small c := by
  unfold great great0 at h
  simp only [Bool.or_eq_false_iff, decide_eq_false_iff_not] at h
  obtain ⟨⟨h1, h2, h3, h4, h5, h6⟩, h7⟩ := h
  refine ⟨by omega, by omega, by omega, by omega, by omega, by omega, fun p hp => ?_⟩
  have := (List.any_eq_false.1 h7) p hp
  simp only [greatP, Bool.or_eq_true, decide_eq_true_eq, not_or] at this
  exact ⟨by omega, by omega⟩
end Cm
theorem Cm.Small.short {c : Cm.Cmd} (h : Cm.Small c) (hf : Cm.Fits c) : Short c :=
  ⟨by have := h.key; omega, by have := h.val; omega, by have := h.exp; omega, by have := h.frm; omega, by have := h.tto; omega, by have := h.len; omega, fun p hp => ⟨hf.parts p hp, by have := (h.parts p hp).1; omega, by have := (h.parts p hp).2; omega⟩⟩
theorem great_take (ps : List Cm.Part) (k : Nat) (hk : k < ps.length) : (ps.take (k + 1)).any Cm.greatP = ((ps.take k).any Cm.greatP || Cm.greatP ps[k]) := by
  rw [List.take_succ_eq_append_getElem hk, List.any_append]; simp
set_option maxRecDepth 100000 in
set_option maxHeartbeats 4000000 in
theorem great_any (c : Cm.Cmd) (A : Option Addr) (cap : Nat) (w : World) (hA : Lies w A (pc c.parts)) :
    Calls Try.prog 37 #[.agg (cmdC c A cap)] w fun e w' => e = .returned (.bool (Cm.great c)) ∧ Below w.heap.size w w' := by
  have FX := cmdF c A cap
  generalize cmdC c A cap = X at FX ⊢
  obtain ⟨hx, _, _, _, _, x3, x4, x5, x6, x7, _, _, _, x11⟩ := FX
  have HA := Lib.hid hA
  clear hA
  by_cases h1 : 3000 < c.key.size
  · have E : Hid (Cm.great c = true) := Lib.hid (by unfold Cm.great Cm.great0; simp [h1])
    have d1 : decide ((3000 : Int) < (c.key.size : Int)) = true := dec_t h1
    clear h1
    go_enter Try.func37, Try.ntmps37
    go_wp2_with fail
    go_ret
    rw [E.out]
    exact ⟨rfl, bnew (Below.refl _ _) _⟩
  by_cases h2 : 3000 < c.val.size
  · have E : Hid (Cm.great c = true) := Lib.hid (by unfold Cm.great Cm.great0; simp [h1, h2])
    have d1 : decide ((3000 : Int) < (c.key.size : Int)) = false := dec_f h1
    have d2 : decide ((3000 : Int) < (c.val.size : Int)) = true := dec_t h2
    clear h1 h2
    go_enter Try.func37, Try.ntmps37
    go_wp2_with fail
    go_ret
    rw [E.out]
    exact ⟨rfl, bnew (Below.refl _ _) _⟩
  by_cases h3 : 3000 < c.exp.size
  · have E : Hid (Cm.great c = true) := Lib.hid (by unfold Cm.great Cm.great0; simp [h1, h2, h3])
    have d1 : decide ((3000 : Int) < (c.key.size : Int)) = false := dec_f h1
    have d2 : decide ((3000 : Int) < (c.val.size : Int)) = false := dec_f h2
    have d3 : decide ((3000 : Int) < (c.exp.size : Int)) = true := dec_t h3
    clear h1 h2 h3
    go_enter Try.func37, Try.ntmps37
    go_wp2_with fail
    go_ret
    rw [E.out]
    exact ⟨rfl, bnew (Below.refl _ _) _⟩
  by_cases h4 : 3000 < c.frm.size
  · have E : Hid (Cm.great c = true) := Lib.hid (by unfold Cm.great Cm.great0; simp [h1, h2, h3, h4])
    have d1 : decide ((3000 : Int) < (c.key.size : Int)) = false := dec_f h1
    have d2 : decide ((3000 : Int) < (c.val.size : Int)) = false := dec_f h2
    have d3 : decide ((3000 : Int) < (c.exp.size : Int)) = false := dec_f h3
    have d4 : decide ((3000 : Int) < (c.frm.size : Int)) = true := dec_t h4
    clear h1 h2 h3 h4
    go_enter Try.func37, Try.ntmps37
    go_wp2_with fail
    go_ret
    rw [E.out]
    exact ⟨rfl, bnew (Below.refl _ _) _⟩
  by_cases h5 : 3000 < c.tto.size
  · have E : Hid (Cm.great c = true) := Lib.hid (by unfold Cm.great Cm.great0; simp [h1, h2, h3, h4, h5])
    have d1 : decide ((3000 : Int) < (c.key.size : Int)) = false := dec_f h1
    have d2 : decide ((3000 : Int) < (c.val.size : Int)) = false := dec_f h2
    have d3 : decide ((3000 : Int) < (c.exp.size : Int)) = false := dec_f h3
    have d4 : decide ((3000 : Int) < (c.frm.size : Int)) = false := dec_f h4
    have d5 : decide ((3000 : Int) < (c.tto.size : Int)) = true := dec_t h5
    clear h1 h2 h3 h4 h5
    go_enter Try.func37, Try.ntmps37
    go_wp2_with fail
    go_ret
    rw [E.out]
    exact ⟨rfl, bnew (Below.refl _ _) _⟩
  by_cases h6 : 40 < c.parts.length
  · have E : Hid (Cm.great c = true) := Lib.hid (by unfold Cm.great Cm.great0; simp [h1, h2, h3, h4, h5, h6])
    have d1 : decide ((3000 : Int) < (c.key.size : Int)) = false := dec_f h1
    have d2 : decide ((3000 : Int) < (c.val.size : Int)) = false := dec_f h2
    have d3 : decide ((3000 : Int) < (c.exp.size : Int)) = false := dec_f h3
    have d4 : decide ((3000 : Int) < (c.frm.size : Int)) = false := dec_f h4
    have d5 : decide ((3000 : Int) < (c.tto.size : Int)) = false := dec_f h5
    have d6 : decide ((40 : Int) < (c.parts.length : Int)) = true := dec_t h6
    clear h1 h2 h3 h4 h5 h6
    go_enter Try.func37, Try.ntmps37
    go_wp2_with fail
    go_ret
    rw [E.out]
    exact ⟨rfl, bnew (Below.refl _ _) _⟩
  have hlen : c.parts.length ≤ 40 := by omega
  have hgr : Cm.great c = c.parts.any Cm.greatP := by unfold Cm.great Cm.great0; simp [h1, h2, h3, h4, h5, h6]
  have d1 : decide ((3000 : Int) < (c.key.size : Int)) = false := dec_f h1
  have d2 : decide ((3000 : Int) < (c.val.size : Int)) = false := dec_f h2
  have d3 : decide ((3000 : Int) < (c.exp.size : Int)) = false := dec_f h3
  have d4 : decide ((3000 : Int) < (c.frm.size : Int)) = false := dec_f h4
  have d5 : decide ((3000 : Int) < (c.tto.size : Int)) = false := dec_f h5
  have d6 : decide ((40 : Int) < (c.parts.length : Int)) = false := dec_f h6
  have Hgr := Lib.hid hgr
  clear h1 h2 h3 h4 h5 h6 hgr
  go_enter Try.func37, Try.ntmps37
  go_wp2_with fail
  clear d1 d2 d3 d4 d5 d6
  have hrow : (w.alloc (.cells X 30)).heap[w.heap.size]? = some (.cells X 30 (0, 0)) := heap_alloc_new w _
  have hbw : Below w.heap.size w (w.alloc (.cells X 30)) := bnew (Below.refl _ _) _
  generalize w.alloc (.cells X 30) = W1 at *
  have c11 := cell_of_row W1 w.heap.size 11 X _ _ hrow
  rw [Array.getElem?_eq_getElem (by omega), x11] at c11
  have Hb := Lib.hid hbw
  clear hrow hbw x3 x4 x5 x6 x7 x11
  go_loop [3] (fun i => ∃ k : Nat, k ≤ c.parts.length ∧ i = .int .i64 (k : Int) ∧ (c.parts.take k).any Cm.greatP = false) (fun i => c.parts.length - (intOf i).toNat)
  case atStart => exact ⟨0, Nat.zero_le _, rfl, by simp⟩
  case round =>
    obtain ⟨k, hk, rfl, hall⟩ := hrel
    have Hall := Lib.hid hall
    clear hall
    by_cases hlt : k < c.parts.length
    · obtain ⟨ba, oa, rfl, hba, p0, p1, p2⟩ := HA.out.part k hlt
      have r1 : W1.cell? ⟨ba, oa + k * 3 + 1, none⟩ = _ := (Hb.out.cell (p := ⟨ba, oa + k * 3 + 1, none⟩) hba).trans p1
      have r2 : W1.cell? ⟨ba, oa + k * 3 + 2, none⟩ = _ := (Hb.out.cell (p := ⟨ba, oa + k * 3 + 2, none⟩) hba).trans p2
      obtain ⟨p, hp⟩ : ∃ p, p = c.parts[k] := ⟨_, rfl⟩
      have hstep := great_take c.parts k hlt
      rw [← hp] at r1 r2 hstep
      rw [Hall.out, Bool.false_or] at hstep
      have Hst := Lib.hid hstep
      have Hmem : Hid (p ∈ c.parts) := Lib.hid (by rw [hp]; exact List.getElem_mem hlt)
      clear hstep hp p0 p1 p2
      by_cases g1 : 3000 < p.key.size
      · have Hfin : Hid (c.parts.any Cm.greatP = true) := Lib.hid (List.any_eq_true.2 ⟨p, Hmem.out, by simp [Cm.greatP, g1]⟩)
        have e1 : decide ((3000 : Int) < (p.key.size : Int)) = true := dec_t g1
        clear g1
        go_wp2_with fail
        go_ret
        exact ⟨by rw [Hgr.out, Hfin.out]; rfl, Hb.out⟩
      · have e1 : decide ((3000 : Int) < (p.key.size : Int)) = false := dec_f g1
        by_cases g2 : 3000 < p.val.size
        · have Hfin : Hid (c.parts.any Cm.greatP = true) := Lib.hid (List.any_eq_true.2 ⟨p, Hmem.out, by simp [Cm.greatP, g2]⟩)
          have e2 : decide ((3000 : Int) < (p.val.size : Int)) = true := dec_t g2
          clear g1 g2
          go_wp2_with fail
          go_ret
          exact ⟨by rw [Hgr.out, Hfin.out]; rfl, Hb.out⟩
        · have e2 : decide ((3000 : Int) < (p.val.size : Int)) = false := dec_f g2
          have Hgp : Hid (Cm.greatP p = false) := Lib.hid (by simp [Cm.greatP]; omega)
          clear g1 g2
          go_wp2_with fail
          go_round
          case rel => exact ⟨k + 1, by omega, by go_num, by rw [Hst.out, Hgp.out]⟩
          case measure => simp [intOf]; omega
    · obtain rfl : k = c.parts.length := by omega
      go_wp2_with fail
      go_ret
      refine ⟨?_, Hb.out⟩
      have := Hall.out
      rw [List.take_length] at this
      rw [Hgr.out, this]; rfl
end Go.Proofs.Ytlcgjlganmblpaa
