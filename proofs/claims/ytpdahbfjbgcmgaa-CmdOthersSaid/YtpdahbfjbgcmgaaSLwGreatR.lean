/-
  The statements' own 'GreatResult' of layer 3 walked.
-/
import Derived.Test.YtpdahbfjbgcmgaaSRes
import Derived.Test.YtpdahbfjbgcmgaaSRows
import Derived.Test.YtpdahbfjbgcmgaaSLaw
set_option linter.unusedSimpArgs false
set_option linter.unusedVariables false
namespace Go.Proofs.Ytpdahbfjbgcmgaa
open Go.RowKit
namespace Rs
def greatP (p : Row) : Bool := decide (3000 < p.key.size) || decide (3000 < p.val.size)
def great0 (r : Res) : Bool := decide (3000 < r.val.size) || decide (40 < r.rows.length)
def great (r : Res) : Bool := great0 r || r.rows.any greatP
/-- A result that isn't great. -/
structure Small (r : Res) : Prop where
  val : r.val.size ≤ 3000
  len : r.rows.length ≤ 40
  rows : ∀ p ∈ r.rows, p.key.size ≤ 3000 ∧ p.val.size ≤ 3000
theorem small_of {r : Res} (h : great r = false) : Small r := by
  unfold great great0 at h
  simp only [Bool.or_eq_false_iff, decide_eq_false_iff_not] at h
  obtain ⟨⟨h1, h6⟩, h7⟩ := h
  refine ⟨by omega, by omega, fun p hp => ?_⟩
  have := (List.any_eq_false.1 h7) p hp
  simp only [greatP, Bool.or_eq_true, decide_eq_true_eq, not_or] at this
  exact ⟨by omega, by omega⟩
end Rs
theorem greatR_take (ps : List Rs.Row) (k : Nat) (hk : k < ps.length) : (ps.take (k + 1)).any Rs.greatP = ((ps.take k).any Rs.greatP || Rs.greatP ps[k]) := by
  rw [List.take_succ_eq_append_getElem hk, List.any_append]; simp
set_option maxRecDepth 100000 in
set_option maxHeartbeats 4000000 in
theorem greatR_any (r : Rs.Res) (A : Option Addr) (cap : Nat) (w : World) (hA : Lies w A (rc r.rows)) :
    Calls Try.prog 33 #[.agg (resC r A cap)] w fun e w' => e = .returned (.bool (Rs.great r)) ∧ Below w.heap.size w w' := by
  have hx : (resC r A cap).size = 4 := rfl
  have x2 : ∀ h, (resC r A cap)[2]'h = .string r.val := fun _ => rfl
  have x3 : ∀ h, (resC r A cap)[3]'h = .slice A r.rows.length cap := fun _ => rfl
  generalize resC r A cap = X at hx x2 x3 ⊢
  have HA := Lib.hid hA
  clear hA
  by_cases h1 : 3000 < r.val.size
  · have E : Hid (Rs.great r = true) := Lib.hid (by unfold Rs.great Rs.great0; simp [h1])
    have d1 : decide ((3000 : Int) < (r.val.size : Int)) = true := dec_t h1
    clear h1
    go_enter Try.func33, Try.ntmps33
    go_wp2_with fail
    go_ret
    rw [E.out]
    exact ⟨rfl, bnew (Below.refl _ _) _⟩
  by_cases h6 : 40 < r.rows.length
  · have E : Hid (Rs.great r = true) := Lib.hid (by unfold Rs.great Rs.great0; simp [h1, h6])
    have d1 : decide ((3000 : Int) < (r.val.size : Int)) = false := dec_f h1
    have d6 : decide ((40 : Int) < (r.rows.length : Int)) = true := dec_t h6
    clear h1 h6
    go_enter Try.func33, Try.ntmps33
    go_wp2_with fail
    go_ret
    rw [E.out]
    exact ⟨rfl, bnew (Below.refl _ _) _⟩
  have hlen : r.rows.length ≤ 40 := by omega
  have hgr : Rs.great r = r.rows.any Rs.greatP := by unfold Rs.great Rs.great0; simp [h1, h6]
  have d1 : decide ((3000 : Int) < (r.val.size : Int)) = false := dec_f h1
  have d6 : decide ((40 : Int) < (r.rows.length : Int)) = false := dec_f h6
  have Hgr := Lib.hid hgr
  clear h1 h6 hgr
  go_enter Try.func33, Try.ntmps33
  go_wp2_with fail
  clear d1 d6
  have hrow : (w.alloc (.cells X 42)).heap[w.heap.size]? = some (.cells X 42 (0, 0)) := heap_alloc_new w _
  have hbw : Below w.heap.size w (w.alloc (.cells X 42)) := bnew (Below.refl _ _) _
  generalize w.alloc (.cells X 42) = W1 at *
  have c11 := cell_of_row W1 w.heap.size 3 X _ _ hrow
  rw [Array.getElem?_eq_getElem (by omega), x3] at c11
  have Hb := Lib.hid hbw
  clear hrow hbw x2 x3
  go_loop [3] (fun i => ∃ k : Nat, k ≤ r.rows.length ∧ i = .int .i64 (k : Int) ∧ (r.rows.take k).any Rs.greatP = false) (fun i => r.rows.length - (intOf i).toNat)
  case atStart => exact ⟨0, Nat.zero_le _, rfl, by simp⟩
  case round =>
    obtain ⟨k, hk, rfl, hall⟩ := hrel
    have Hall := Lib.hid hall
    clear hall
    by_cases hlt : k < r.rows.length
    · obtain ⟨ba, oa, rfl, hba, p0, p1, p2⟩ := HA.out.row k hlt
      have r1 : W1.cell? ⟨ba, oa + k * 3, none⟩ = _ := (Hb.out.cell (p := ⟨ba, oa + k * 3, none⟩) hba).trans p0
      have r2 : W1.cell? ⟨ba, oa + k * 3 + 1, none⟩ = _ := (Hb.out.cell (p := ⟨ba, oa + k * 3 + 1, none⟩) hba).trans p1
      obtain ⟨p, hp⟩ : ∃ p, p = r.rows[k] := ⟨_, rfl⟩
      have hstep := greatR_take r.rows k hlt
      rw [← hp] at r1 r2 hstep
      rw [Hall.out, Bool.false_or] at hstep
      have Hst := Lib.hid hstep
      have Hmem : Hid (p ∈ r.rows) := Lib.hid (by rw [hp]; exact List.getElem_mem hlt)
      clear hstep hp p0 p1 p2
      by_cases g1 : 3000 < p.key.size
      · have Hfin : Hid (r.rows.any Rs.greatP = true) := Lib.hid (List.any_eq_true.2 ⟨p, Hmem.out, by simp [Rs.greatP, g1]⟩)
        have e1 : decide ((3000 : Int) < (p.key.size : Int)) = true := dec_t g1
        clear g1
        go_wp2_with fail
        go_ret
        exact ⟨by rw [Hgr.out, Hfin.out]; rfl, Hb.out⟩
      · have e1 : decide ((3000 : Int) < (p.key.size : Int)) = false := dec_f g1
        by_cases g2 : 3000 < p.val.size
        · have Hfin : Hid (r.rows.any Rs.greatP = true) := Lib.hid (List.any_eq_true.2 ⟨p, Hmem.out, by simp [Rs.greatP, g2]⟩)
          have e2 : decide ((3000 : Int) < (p.val.size : Int)) = true := dec_t g2
          clear g1 g2
          go_wp2_with fail
          go_ret
          exact ⟨by rw [Hgr.out, Hfin.out]; rfl, Hb.out⟩
        · have e2 : decide ((3000 : Int) < (p.val.size : Int)) = false := dec_f g2
          have Hgp : Hid (Rs.greatP p = false) := Lib.hid (by simp [Rs.greatP]; omega)
          clear g1 g2
          go_wp2_with fail
          go_round
          case rel => exact ⟨k + 1, by omega, by go_num, by rw [Hst.out, Hgp.out]⟩
          case measure => simp [intOf]; omega
    · obtain rfl : k = r.rows.length := by omega
      go_wp2_with fail
      go_ret
      refine ⟨?_, Hb.out⟩
      have := Hall.out
      rw [List.take_length] at this
      rw [Hgr.out, this]; rfl
end Go.Proofs.Ytpdahbfjbgcmgaa
