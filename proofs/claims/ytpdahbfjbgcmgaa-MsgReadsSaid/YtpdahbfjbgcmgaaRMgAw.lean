/-
  The statements' own 'some' and 'awake' of layer 5 walked.
  The statements' own 'Great' of layer 5 walked.
-/
import Derived.Test.YtpdahbfjbgcmgaaRMgAwakeR
import Derived.Test.YtpdahbfjbgcmgaaRMgWrite
import Derived.Test.YtpdahbfjbgcmgaaRMgRead
import Derived.Test.YtpdahbfjbgcmgaaRMgSame
import Derived.Test.YtpdahbfjbgcmgaaRMgRef
import Derived.Test.YtpdahbfjbgcmgaaRMgA
import Derived.Deep.DeepCutAuto
import Derived.Deep.CutBlock
set_option linter.unusedSimpArgs false
set_option linter.unusedVariables false
namespace Go.Proofs.Ytpdahbfjbgcmgaa
open Go.RowKit
def someML : List UInt8 := [3, 1, 3, 2, 0, 0, 1, 129, 0, 0, 0, 0, 1, 3, 1, 1, 2, 0]
theorem top_pos5 {n : Nat} (h : n ≤ 1000) : n < Nm.top := by unfold Nm.top; omega
theorem someM_fits : Mg.Fits someM := ⟨by decide, by decide, by decide, top_pos5 (by decide), top_pos5 (by decide), top_pos5 (by decide), top_pos5 (by decide), top_pos5 (by decide), by decide, by decide, fun e he => by
  simp [someM] at he; subst he
  exact ⟨top_pos5 (by decide), top_pos5 (by decide), by decide, by decide⟩⟩
theorem someM_may : Mg.may someM = true := by decide +kernel
theorem someM_enc : Mg.enc someM = someML := by decide +kernel
theorem someM_write : Mg.write someM = someML := by unfold Mg.write; rw [someM_may, if_pos rfl, someM_enc]
theorem someM_shape : Mg.Shape someM := Mg.shape_of someM_fits someM_may (by decide) (by decide)
theorem someM_read : Mg.read someML = some someM := (Mg.read_iff _ _).2 ⟨someM_shape, someM_may, someM_enc.symm⟩
set_option maxRecDepth 100000 in
set_option maxHeartbeats 2000000 in
theorem someM_any (w : World) : Calls Try.prog 41 #[] w fun e w' => ∃ q, e = .returned (.agg (msgC someM (some ⟨q, 0, none⟩) 1)) ∧ Lies w' (some ⟨q, 0, none⟩) (ec someM.ents) ∧ Below w.heap.size w w' := by
  go_enter Try.func41, Try.ntmps41
  go_upto_region 1 with (fail)
  refine forget (fun W => Below w.heap.size w W ∧ W.heap[w.heap.size]? = some (.cells (msgC Mg.zero none 0) 63 (0, 0))) ⟨bnew (Below.refl _ _) _, heap_alloc_new w _⟩ ?_
  rintro W1 ⟨hb1, hr1⟩
  obtain ⟨g, hg⟩ : ∃ g, g = w.heap.size := ⟨_, rfl⟩
  rw [← hg] at hr1 ⊢
  have hlt := (Array.getElem?_eq_some_iff.1 hr1).1
  have hA := fun o => msgAt ((Below.heap_alloc W1 o _ hlt).trans hr1)
  have HA := Lib.hid hA
  have p0 := fun o => (hA o).c0
  have z0 := fun o => (hA o).fz 0
  have p1 := fun o => (hA o).c1
  have z1 := fun o => (hA o).fz 1
  have p2 := fun o => (hA o).c2
  have z2 := fun o => (hA o).fz 2
  have p3 := fun o => (hA o).c3
  have z3 := fun o => (hA o).fz 3
  have p4 := fun o => (hA o).c4
  have z4 := fun o => (hA o).fz 4
  have p5 := fun o => (hA o).c5
  have z5 := fun o => (hA o).fz 5
  have p6 := fun o => (hA o).c6
  have z6 := fun o => (hA o).fz 6
  have p7 := fun o => (hA o).c7
  have z7 := fun o => (hA o).fz 7
  have p8 := fun o => (hA o).c8
  have z8 := fun o => (hA o).fz 8
  have p9 := fun o => (hA o).c9
  have z9 := fun o => (hA o).fz 9
  have p10 := fun o => (hA o).c10
  have z10 := fun o => (hA o).fz 10
  have p11 := fun o => (hA o).c11
  have z11 := fun o => (hA o).fz 11
  have p12 := fun o => (hA o).c12
  have z12 := fun o => (hA o).fz 12
  have HB := Lib.hid (And.intro hb1 (And.intro hr1 (And.intro hlt hg)))
  clear hA hb1 hr1 hlt hg
  go_wp2_with fail
  obtain ⟨hb1, hr1, hlt, hg⟩ := HB.out
  have hz : (W1.alloc (.cells (ec someM.ents).toArray 65)).heap[g]? = some (.cells (msgC Mg.zero none 0) 63 (0, 0)) := (Below.heap_alloc _ _ _ hlt).trans hr1
  have he : (W1.alloc (.cells (ec someM.ents).toArray 65)).heap[W1.heap.size]? = some (.cells (ec someM.ents).toArray 65 (0, 0)) := heap_alloc_new W1 _
  have hb : Below w.heap.size w (W1.alloc (.cells (ec someM.ents).toArray 65)) := bnew hb1 _
  refine bodyPost_ret (results_cell_row (P := Try.prog) (fn := Try.f41) rfl _ _ g 63 (msgC someM (some ⟨W1.heap.size, 0, none⟩) 1) (0, 0) _ rfl (msgPut (m := someM) (A := some ⟨W1.heap.size, 0, none⟩) (cap := 1) hz) Try.underlying63 rfl sizeMsg) rfl ?_
  exact ⟨W1.heap.size, rfl, lies_row ((msgOther (m := someM) (A := some ⟨W1.heap.size, 0, none⟩) (cap := 1) (by omega)).trans he), msgBelow (m := someM) (A := some ⟨W1.heap.size, 0, none⟩) (cap := 1) hb (by omega)⟩
theorem mawW (W : World) (q : Nat) (h : Lies W (some ⟨q, 0, none⟩) (ec someM.ents)) : Calls Try.prog 37 #[.agg (msgC someM (some ⟨q, 0, none⟩) 1)] W fun e w' => e = .returned (.string ⟨#[3, 1, 3, 2, 0, 0, 1, 129, 0, 0, 0, 0, 1, 3, 1, 1, 2, 0]⟩) ∧ Below W.heap.size W w' := by
  have := mWrite_any someM someM_fits (by decide) (by decide) (by decide) (some ⟨q, 0, none⟩) 1 W h
  unfold RetS at this
  rw [someM_write] at this
  exact this
theorem mawR (W : World) : Calls Try.prog 39 #[.string ⟨#[3, 1, 3, 2, 0, 0, 1, 129, 0, 0, 0, 0, 1, 3, 1, 1, 2, 0]⟩] W fun e w' => ∃ A cap, e = .returned (.tuple #[.agg (msgC someM A cap), .bool true]) ∧ Lies w' A (ec someM.ents) ∧ Below W.heap.size W w' := by
  have := mRead_any ⟨#[3, 1, 3, 2, 0, 0, 1, 129, 0, 0, 0, 0, 1, 3, 1, 1, 2, 0]⟩ W (by decide)
  rw [show (⟨#[3, 1, 3, 2, 0, 0, 1, 129, 0, 0, 0, 0, 1, 3, 1, 1, 2, 0]⟩ : ByteArray).data.toList = someML from rfl, someM_read] at this
  exact this
set_option maxRecDepth 100000 in
set_option maxHeartbeats 4000000 in
theorem mAwake_any (w : World) : Calls Try.prog 42 #[] w fun e w' => e = .returned (.bool true) ∧ Below w.heap.size w w' := by
  have HP := Lib.hid someM_any
  have HW := Lib.hid mawW
  have HR := Lib.hid mawR
  go_enter Try.func42, Try.ntmps42
  go_wp2_with fail
  refine (HP.out _).mono ?_
  rintro e w1 ⟨q, rfl, hl1, hb1⟩
  have HW1 := Lib.hid (HW.out w1 q hl1)
  have HB1 := Lib.hid hb1
  clear hl1 hb1
  go_wp2_with fail
  refine HW1.out.mono ?_
  rintro e w2 ⟨rfl, hb2⟩
  have HB2 := Lib.hid (bnext HB1.out hb2)
  clear hb2 HW1 HB1
  go_wp2_with fail
  refine (HR.out _).mono ?_
  rintro e w3 ⟨A, cap, rfl, hl3, hb3⟩
  have HB3 := Lib.hid (And.intro hl3 (bnext HB2.out hb3))
  clear hl3 hb3 HB2
  have FP := msgF someM A cap
  obtain ⟨P, hP⟩ : ∃ P, P = msgC someM A cap := ⟨_, rfl⟩
  rw [← hP] at FP ⊢
  have hst := storeMsg P FP.size FP.one
  have hps := FP.size
  have HPP := Lib.hid hP
  clear hP FP
  go_upto_region 2 with (fail)
  refine forget (fun W => Below w.heap.size w W ∧ W.heap[w3.heap.size]? = some (.cells P 63 (0, 0)) ∧ Lies W A (ec someM.ents)) ⟨bnew HB3.out.2 _, heap_alloc_new w3 _, HB3.out.1.below (bnew (Below.refl _ _) _)⟩ ?_
  rintro W5 ⟨hb5, hp5, hl5⟩
  rw [HPP.out] at hp5
  refine maw2 w3.heap.size A cap W5 HP.out HW.out (fun W q hl hb => ?_) (fun W q hl hb => ?_) (fun W hb => msgL ((hb.block _ (Array.getElem?_eq_some_iff.1 hp5).1).trans hp5)) _ ?_
  · have := refSame_any5 someM someM A (some ⟨q, 0, none⟩) cap 1 W (hl5.below hb) hl (by decide) (by decide)
    rw [decide_eq_true rfl] at this
    exact this
  · have := same_any5 someM someM A (some ⟨q, 0, none⟩) cap 1 W (hl5.below hb) hl (by decide) (by decide)
    rw [decide_eq_true rfl] at this
    exact this
  intro u1 u2 u3 w6 hb6
  go_wp2_with fail
  go_ret
  exact ⟨rfl, bnext hb5 hb6⟩
end Go.Proofs.Ytpdahbfjbgcmgaa
namespace Go.Proofs.Ytpdahbfjbgcmgaa
open Go.RowKit
namespace Mg
def great (m : M) : Bool := decide (40 < m.ents.length) || (decide (6000 < m.body.size) || (m.ents.any (fun e => decide (6000 < e.body.size)) || decide (6000 < m.body.size + big m.ents)))
/-- A message that isn't great. -/
structure Small (m : M) : Prop where
  len : m.ents.length ≤ 40
  sum : m.body.size + big m.ents ≤ 6000
theorem small_of {m : M} (h : great m = false) : Small m := by
  unfold great at h
  simp only [Bool.or_eq_false_iff, decide_eq_false_iff_not] at h
  obtain ⟨h1, h2, h3, h4⟩ := h
  exact ⟨by omega, by omega⟩
theorem big_append : ∀ (a b : List En.E), big (a ++ b) = big a + big b
  | [], b => by simp [big]
  | e :: a, b => by
    have := big_append a b
    simp only [List.cons_append, big]
    omega
theorem big_take (es : List En.E) (k : Nat) (hk : k < es.length) : big (es.take (k + 1)) = big (es.take k) + es[k].body.size := by
  rw [List.take_succ_eq_append_getElem hk, big_append]; simp [big]
end Mg
theorem lt_t {m n : Nat} (h : m < n) : decide ((m : Int) < (n : Int)) = true := by simp; omega
theorem lt_f {m n : Nat} (h : ¬ m < n) : decide ((m : Int) < (n : Int)) = false := by simp; omega
set_option maxRecDepth 100000 in
set_option maxHeartbeats 4000000 in
theorem great_any5 (m : Mg.M) (A : Option Addr) (cap : Nat) (w : World) (hA : Lies w A (ec m.ents)) (hz : m.body.size ≤ maxLen) (_hl : m.ents.length ≤ maxLen) :
    Calls Try.prog 43 #[.agg (msgC m A cap)] w fun e w' => e = .returned (.bool (Mg.great m)) ∧ Below w.heap.size w w' := by
  have FX := msgF m A cap
  generalize msgC m A cap = X at FX ⊢
  obtain ⟨hx, _, _, _, _, _, _, _, _, _, _, _, _, x11, x12⟩ := FX
  have HA := Lib.hid hA
  clear hA
  by_cases h1 : 40 < m.ents.length
  · have E : Hid (Mg.great m = true) := Lib.hid (by unfold Mg.great; simp [h1])
    have d1 : decide ((40 : Int) < (m.ents.length : Int)) = true := lt_t h1
    clear h1 hz
    go_enter Try.func43, Try.ntmps43
    go_wp2_with fail
    go_ret
    exact ⟨by rw [E.out]; rfl, bnew (Below.refl _ _) _⟩
  have d1 : decide ((40 : Int) < (m.ents.length : Int)) = false := lt_f h1
  by_cases h2 : 6000 < m.body.size
  · have E : Hid (Mg.great m = true) := Lib.hid (by unfold Mg.great; simp [h1, h2])
    have d2 : decide ((6000 : Int) < (m.body.size : Int)) = true := lt_t h2
    clear h1 h2 hz
    go_enter Try.func43, Try.ntmps43
    go_wp2_with fail
    go_ret
    exact ⟨by rw [E.out]; rfl, bnew (Below.refl _ _) _⟩
  have d2 : decide ((6000 : Int) < (m.body.size : Int)) = false := lt_f h2
  have Hg : Hid (Mg.great m = (m.ents.any (fun e => decide (6000 < e.body.size)) || decide (6000 < m.body.size + Mg.big m.ents))) := Lib.hid (by unfold Mg.great; simp [h1, h2])
  have hl40 : m.ents.length ≤ 40 := by omega
  have hb6 : m.body.size ≤ 6000 := by omega
  have HB := Lib.hid (And.intro hl40 hb6)
  clear h1 h2 hz
  go_enter Try.func43, Try.ntmps43
  go_wp2_with fail
  clear d1 d2
  have hrow : (w.alloc (.cells X 63)).heap[w.heap.size]? = some (.cells X 63 (0, 0)) := heap_alloc_new w _
  have hbw : Below w.heap.size w (w.alloc (.cells X 63)) := bnew (Below.refl _ _) _
  generalize w.alloc (.cells X 63) = W1 at *
  have c11 := cell_of_row W1 w.heap.size 11 X _ _ hrow
  rw [Array.getElem?_eq_getElem (by omega), x11] at c11
  have Hb := Lib.hid hbw
  clear hrow hbw x11 x12 hl40 hb6
  go_loop [3, 4] (fun v i => ∃ k n : Nat, k ≤ m.ents.length ∧ i = .int .i64 (k : Int) ∧ v = .int .i64 (n : Int) ∧ n = m.body.size + Mg.big (m.ents.take k) ∧ Mg.big (m.ents.take k) ≤ 6000 * k ∧ (m.ents.take k).any (fun e => decide (6000 < e.body.size)) = false) (fun _ i => m.ents.length - (intOf i).toNat)
  case atStart => exact ⟨0, m.body.size, Nat.zero_le _, rfl, rfl, by simp [Mg.big], by simp [Mg.big], by simp⟩
  case round =>
    obtain ⟨k, n, hk, rfl, rfl, hn, hbk, hall⟩ := hrel
    have hl40 := HB.out.1
    have hn2 : n ≤ 6000 + 6000 * 40 := by rw [hn]; have := HB.out.2; omega
    have Hall := Lib.hid (And.intro hn (And.intro hbk hall))
    clear hall hn hbk
    by_cases hlt : k < m.ents.length
    · obtain ⟨b, off, rfl, hE⟩ := HA.out.ent k hlt
      have hE := hE.bel Hb.out
      obtain ⟨e, he⟩ : ∃ e, e = m.ents[k] := ⟨_, rfl⟩
      have hst := Mg.big_take m.ents k hlt
      have hat : m.ents.take (k + 1) = m.ents.take k ++ [m.ents[k]] := List.take_succ_eq_append_getElem hlt
      rw [← he] at hE hst hat
      have Hm : Hid (e ∈ m.ents) := Lib.hid (by rw [he]; exact List.getElem_mem hlt)
      have q12 := hE.c12
      have Hst := Lib.hid (And.intro hst hat)
      clear hE hst hat he
      by_cases g : 6000 < e.body.size
      · have d3 : decide ((6000 : Int) < (e.body.size : Int)) = true := lt_t g
        have E : Hid (Mg.great m = true) := Lib.hid (by rw [Hg.out, Bool.or_eq_true]; left; exact List.any_eq_true.2 ⟨e, Hm.out, by simpa using g⟩)
        clear g
        go_wp2_with fail
        go_ret
        exact ⟨by rw [E.out]; rfl, Hb.out⟩
      · have d3 : decide ((6000 : Int) < (e.body.size : Int)) = false := lt_f g
        have hez : e.body.size ≤ 6000 := by omega
        have Hez := Lib.hid hez
        clear g
        go_wp2_with fail
        go_round
        case rel => exact ⟨k + 1, n + e.body.size, by omega, by go_num, by go_num, by rw [Hst.out.1, Hall.out.1]; omega, by rw [Hst.out.1]; have := Hall.out.2.1; have := Hez.out; omega, by rw [Hst.out.2, List.any_append, Hall.out.2.2]; have := Hez.out; simp; omega⟩
        case measure => simp [intOf]; omega
    · obtain rfl : k = m.ents.length := by omega
      obtain ⟨a1, a2, a3⟩ := Hall.out
      rw [List.take_length] at a1 a3
      by_cases g : 6000 < n
      · have d4 : decide ((6000 : Int) < (n : Int)) = true := lt_t g
        have E : Hid (Mg.great m = true) := Lib.hid (by rw [Hg.out, a3, ← a1]; simpa using g)
        clear g a1 a2 a3
        go_wp2_with fail
        go_ret
        exact ⟨by rw [E.out]; rfl, Hb.out⟩
      · have d4 : decide ((6000 : Int) < (n : Int)) = false := lt_f g
        have E : Hid (Mg.great m = false) := Lib.hid (by rw [Hg.out, a3, ← a1]; simpa using g)
        clear g a1 a2 a3
        go_wp2_with fail
        go_ret
        exact ⟨by rw [E.out]; rfl, Hb.out⟩
end Go.Proofs.Ytpdahbfjbgcmgaa
