/-
  wapentakeref08's Same walked: the same records?
  The statements' own begins of layer 8 walked: is a list of records a beginning of another one?
-/
import Derived.Test.YtdcjhpnakbejkaaGreatDoorRWlBase
import Derived.BigQuiet
set_option linter.unusedSimpArgs false
set_option linter.unusedVariables false
namespace Go.Proofs.YtdcjhpnakbejkaaGreatDoor
open Go.RowKit
theorem recs_ne {l m : List Wl.R} (h : l.length ≠ m.length) : decide (l = m) = false := by
  rw [decide_eq_false_iff_not]; intro e; exact h (by rw [e])
theorem weqi_t {a b : Nat} (h : a = b) : ((a : Int) != (b : Int)) = false := by simp [h]
theorem weqi_f {a b : Nat} (h : a ≠ b) : ((a : Int) != (b : Int)) = true := by simp; omega
theorem weqp_t {a b : Nat} (h : a = b) : ((a : Int) = (b : Int)) = True := by simp [h]
theorem weqp_f {a b : Nat} (h : a ≠ b) : ((a : Int) = (b : Int)) = False := by simp; omega
set_option maxRecDepth 100000 in
set_option maxHeartbeats 4000000 in
theorem refSame_any (ps qs : List Wl.R) (A B : Option Addr) (ca cb : Nat) (w : World) (hA : Lies w A (wrs ps)) (hB : Lies w B (wrs qs)) (hn : ps.length ≤ 1000000) (hm : qs.length ≤ 1000000) :
    Calls Tryz.prog 71 #[.slice A ps.length ca, .slice B qs.length cb] w fun e w' => e = .returned (.bool (decide (ps = qs))) ∧ Below w.heap.size w w' := by
  have HA := Lib.hid hA
  have HB := Lib.hid hB
  clear hA hB
  by_cases hl : ps.length = qs.length
  · have l1 := weqi_t hl
    have l2 := weqp_t hl
    have Hl := Lib.hid hl
    clear hl
    go_enter Tryz.func71, Tryz.ntmps71
    go_wp2
    clear l1 l2
    go_loopw [5] (fun i wr => ∃ k : Nat, k ≤ ps.length ∧ i = .int .i64 (k : Int) ∧ (∀ j, j < k → ps[j]? = qs[j]?) ∧ Below w.heap.size w wr) (fun i _ => ps.length - (intOf i).toNat)
    case atStart => exact ⟨0, Nat.zero_le _, rfl, fun j hj => absurd hj (by omega), Below.refl _ _⟩
    case round =>
      obtain ⟨k, hk, rfl, hall, hb⟩ := hrel
      have Hall := Lib.hid hall
      have Hb := Lib.hid hb
      clear hall hb
      by_cases hlt : k < ps.length
      · have hlt2 : k < qs.length := by rw [← Hl.out]; exact hlt
        obtain ⟨ba, oa, rfl, hP⟩ := HA.out.recd k hlt
        obtain ⟨bb, ob, rfl, hQ⟩ := HB.out.recd k hlt2
        replace hP := hP.bel Hb.out
        replace hQ := hQ.bel Hb.out
        obtain ⟨p, hp⟩ : ∃ p, p = ps[k] := ⟨_, rfl⟩
        obtain ⟨q, hq⟩ : ∃ q, q = qs[k] := ⟨_, rfl⟩
        have hgp : ps[k]? = some p := by rw [hp, List.getElem?_eq_getElem]
        have hgq : qs[k]? = some q := by rw [hq, List.getElem?_eq_getElem]
        rw [← hp] at hP
        rw [← hq] at hQ
        have HG := Lib.hid (And.intro hgp hgq)
        obtain ⟨_, r0, r1, r2, r3, r4, r5, r6, r7, r8, r9, r10, r11, r12, r13, r14, r15⟩ := hP
        obtain ⟨_, s0, s1, s2, s3, s4, s5, s6, s7, s8, s9, s10, s11, s12, s13, s14, s15⟩ := hQ
        clear hp hq hgp hgq
        have hne := rec_neq p q
        unfold recC at hne
        cases hs : decide (p = q)
        · rw [hs] at hne
          have Hfin : Hid (decide (ps = qs) = false) := Lib.hid (by
            rw [decide_eq_false_iff_not] at hs ⊢
            intro e
            apply hs
            have h1 := HG.out.1
            rw [e, HG.out.2] at h1
            injection h1 with h1; exact h1.symm)
          clear hs
          go_wp2
          go_quiet (fail)
          go_wp2
          go_ret
          exact ⟨by rw [Hfin.out]; rfl, below_drewN Hb.out _⟩
        · rw [hs] at hne
          have Hs : Hid (p = q) := Lib.hid (of_decide_eq_true hs)
          clear hs
          go_wp2
          go_quiet (fail)
          go_wp2
          go_roundw
          case rel => exact ⟨k + 1, by omega, by go_num, fun j hj => (by
            by_cases e : j = k
            · subst e; rw [HG.out.1, HG.out.2, Hs.out]
            · exact Hall.out j (by omega)), below_drewN Hb.out _⟩
          case measure => simp [intOf]; omega
      · obtain rfl : k = ps.length := by omega
        have Hfin : Hid (decide (ps = qs) = true) := Lib.hid (by
          rw [decide_eq_true_iff]
          apply List.ext_getElem?
          intro j
          by_cases hj : j < ps.length
          · exact Hall.out j hj
          · rw [List.getElem?_eq_none (by omega), List.getElem?_eq_none (by rw [← Hl.out]; omega)])
        go_wp2
        go_ret
        exact ⟨by rw [Hfin.out]; rfl, Hb.out⟩
  · have l1 := weqi_f hl
    have l2 := weqp_f hl
    have Hfin := Lib.hid (recs_ne hl)
    clear hl
    go_enter Tryz.func71, Tryz.ntmps71
    go_wp2
    go_ret
    exact ⟨by rw [Hfin.out]; rfl, Below.refl _ _⟩
end Go.Proofs.YtdcjhpnakbejkaaGreatDoor
namespace Go.Proofs.YtdcjhpnakbejkaaGreatDoor
open Go.RowKit
theorem wrs_take (l : List Wl.R) (k : Nat) : wrs (l.take k) <+: wrs l := by
  unfold wrs
  refine ⟨((l.drop k).map wr1).flatten, ?_⟩
  rw [← List.flatten_append, ← List.map_append, List.take_append_drop]
set_option maxRecDepth 100000 in
set_option maxHeartbeats 4000000 in
theorem begins_any (ps qs : List Wl.R) (A B : Option Addr) (ca cb : Nat) (w : World) (hA : Lies w A (wrs ps)) (hB : Lies w B (wrs qs)) (hn : ps.length ≤ 1000000) (hm : qs.length ≤ 1000000) (hc : qs.length ≤ cb) (hT : ps.length ≤ qs.length → Lies w B (wrs (qs.take ps.length))) :
    Calls Tryz.prog 39 #[.slice A ps.length ca, .slice B qs.length cb] w fun e w' => e = .returned (.bool (decide (ps <+: qs))) ∧ Below w.heap.size w w' := by
  by_cases hl : ps.length ≤ qs.length
  · have hlen : (qs.take ps.length).length = ps.length := by rw [List.length_take]; omega
    have hS : ∀ cb', Calls Tryz.prog 71 #[.slice A ps.length ca, .slice B ps.length cb'] w fun e w' => e = .returned (.bool (decide (ps <+: qs))) ∧ Below w.heap.size w w' := fun cb' => by
      have h := refSame_any ps (qs.take ps.length) A B ca cb' w hA (hT hl) hn (by omega)
      rw [hlen] at h
      have e : decide (ps = qs.take ps.length) = decide (ps <+: qs) := by
        rw [decide_eq_decide]
        exact ⟨fun e => by rw [e]; exact List.take_prefix _ _, fun h => (List.prefix_iff_eq_take.1 h)⟩
      rw [e] at h
      exact h
    have HS := Lib.hid hS
    clear hS hT hA hB hlen
    go_enter Tryz.func39, Tryz.ntmps39
    go_wp2_with (go_at_call 71; refine (HS.out _).mono ?_; rintro e w1 ⟨rfl, hb1⟩)
    go_ret
    exact ⟨rfl, hb1⟩
  · have E : Hid (decide (ps <+: qs) = false) := Lib.hid (decide_eq_false fun h => hl h.length_le)
    clear hT hA hB
    go_enter Tryz.func39, Tryz.ntmps39
    go_wp2
    go_ret
    exact ⟨by rw [E.out]; rfl, Below.refl _ _⟩
end Go.Proofs.YtdcjhpnakbejkaaGreatDoor
