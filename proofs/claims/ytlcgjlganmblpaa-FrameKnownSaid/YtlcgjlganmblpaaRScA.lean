/-
  slices.Equal of parts walked. WRITTEN BY wip/tools/gen_scmd.py.
  cmd.sameCmd walked: a field that differs. WRITTEN BY wip/tools/gen_scmd.py.
-/
import Derived.Test.YtlcgjlganmblpaaRSame
import Derived.Test.YtlcgjlganmblpaaRCmd
set_option linter.unusedSimpArgs false
set_option linter.unusedVariables false
namespace Go.Proofs.Ytlcgjlganmblpaa
open Go.RowKit
theorem sameL_len : ∀ (l m : List Cm.Part), l.length ≠ m.length → Cm.sameL l m = false := fun l m h => by
  rw [Bool.eq_false_iff]; intro e; rw [(Cm.sameL_iff _ _).1 e] at h; exact h rfl
set_option maxRecDepth 100000 in
set_option maxHeartbeats 4000000 in
theorem seq_any (ps qs : List Cm.Part) (A B : Option Addr) (ca cb : Nat) (w : World) (hA : Lies w A (pc ps)) (hB : Lies w B (pc qs)) (hn : ps.length ≤ 1000000) (hm : qs.length ≤ 1000000) :
    Calls Try.prog 85 #[.slice A ps.length ca, .slice B qs.length cb] w fun e w' => e = .returned (.bool (Cm.sameL ps qs)) ∧ Below w.heap.size w w' := by
  have HA := Lib.hid hA
  have HB := Lib.hid hB
  clear hA hB
  by_cases hl : ps.length = qs.length
  · have l1 := eq_int hl
    have l2 := eq_int' hl
    have Hl := Lib.hid hl
    clear hl
    go_enter Try.func85, Try.ntmps85
    go_wp2
    clear l1 l2
    go_loopw [13] (fun i wr => ∃ k : Nat, k ≤ ps.length ∧ i = .int .i64 (k : Int) ∧ (∀ j, j < k → ps[j]? = qs[j]?) ∧ Below w.heap.size w wr) (fun i _ => ps.length - (intOf i).toNat)
    case atStart => exact ⟨0, Nat.zero_le _, rfl, fun j hj => absurd hj (by omega), Below.refl _ _⟩
    case round =>
      obtain ⟨k, hk, rfl, hall, hb⟩ := hrel
      have Hall := Lib.hid hall
      have Hb := Lib.hid hb
      clear hall hb
      by_cases hlt : k < ps.length
      · have hlt2 : k < qs.length := by rw [← Hl.out]; exact hlt
        obtain ⟨ba, oa, rfl, hba, p0, p1, p2⟩ := HA.out.part k hlt
        obtain ⟨bb, ob, rfl, hbb, q0, q1, q2⟩ := HB.out.part k hlt2
        have r0 : wr.cell? ⟨ba, oa + k * 3, none⟩ = _ := (Hb.out.cell (p := ⟨ba, oa + k * 3, none⟩) hba).trans p0
        have r1 : wr.cell? ⟨ba, oa + k * 3 + 1, none⟩ = _ := (Hb.out.cell (p := ⟨ba, oa + k * 3 + 1, none⟩) hba).trans p1
        have r2 : wr.cell? ⟨ba, oa + k * 3 + 2, none⟩ = _ := (Hb.out.cell (p := ⟨ba, oa + k * 3 + 2, none⟩) hba).trans p2
        have s0 : wr.cell? ⟨bb, ob + k * 3, none⟩ = _ := (Hb.out.cell (p := ⟨bb, ob + k * 3, none⟩) hbb).trans q0
        have s1 : wr.cell? ⟨bb, ob + k * 3 + 1, none⟩ = _ := (Hb.out.cell (p := ⟨bb, ob + k * 3 + 1, none⟩) hbb).trans q1
        have s2 : wr.cell? ⟨bb, ob + k * 3 + 2, none⟩ = _ := (Hb.out.cell (p := ⟨bb, ob + k * 3 + 2, none⟩) hbb).trans q2
        obtain ⟨p, hp⟩ : ∃ p, p = ps[k] := ⟨_, rfl⟩
        obtain ⟨q, hq⟩ : ∃ q, q = qs[k] := ⟨_, rfl⟩
        have hgp : ps[k]? = some p := by rw [hp, List.getElem?_eq_getElem]
        have hgq : qs[k]? = some q := by rw [hq, List.getElem?_eq_getElem]
        rw [← hp] at r0 r1 r2
        rw [← hq] at s0 s1 s2
        have HG := Lib.hid (And.intro hgp hgq)
        clear hp hq hgp hgq p0 p1 p2 q0 q1 q2
        have hne := part_neq p q
        cases hs : Cm.sameP p q
        · rw [hs] at hne
          have Hfin : Hid (Cm.sameL ps qs = false) := Lib.hid (by
            rw [Bool.eq_false_iff]; intro e
            have e2 := (Cm.sameL_iff _ _).1 e
            have := HG.out
            rw [e2] at this
            have e3 : p = q := by simpa using this.1.symm.trans this.2
            rw [(Cm.sameP_iff p q).2 e3] at hs; cases hs)
          clear hs
          go_wp2
          go_quiet (fail)
          go_wp2
          go_ret
          exact ⟨by rw [Hfin.out]; rfl, below_drewN Hb.out _⟩
        · rw [hs] at hne
          have Hs := Lib.hid ((Cm.sameP_iff p q).1 hs)
          clear hs
          go_wp2
          go_quiet (fail)
          go_wp2
          go_roundw
          case rel => exact ⟨k + 1, by omega, by go_num, fun j hj => (by
            by_cases e : j = k
            · subst e; rw [HG.out.1, HG.out.2, Hs.out]
            · exact Hall.out j (by omega)), below_drewN Hb.out _⟩
          case measure => simp [intOf]; omega
      · obtain rfl : k = ps.length := by omega
        have Hfin : Hid (Cm.sameL ps qs = true) := Lib.hid (by
          rw [Cm.sameL_iff]
          apply List.ext_getElem?
          intro j
          by_cases hj : j < ps.length
          · exact Hall.out j hj
          · rw [List.getElem?_eq_none (by omega), List.getElem?_eq_none (by rw [← Hl.out]; omega)])
        go_wp2
        go_ret
        exact ⟨by rw [Hfin.out]; rfl, Hb.out⟩
  · have l1 := ne_int hl
    have l2 := ne_int' hl
    have Hfin := Lib.hid (sameL_len ps qs hl)
    clear hl
    go_enter Try.func85, Try.ntmps85
    go_wp2
    go_ret
    exact ⟨by rw [Hfin.out]; rfl, Below.refl _ _⟩
end Go.Proofs.Ytlcgjlganmblpaa
namespace Go.Proofs.Ytlcgjlganmblpaa
open Go.RowKit

set_option maxRecDepth 100000 in
set_option maxHeartbeats 8000000 in
theorem sc_op (a b : Cm.Cmd) (A B : Option Addr) (ca cb : Nat) (w : World)  (b0 : ((a.op : Int) == (b.op : Int)) = false) (d0 : (a.op : Int) ≠ (b.op : Int)) :
    Calls Try.prog 76 #[.agg (cmdC a A ca), .agg (cmdC b B cb)] w fun e w' => e = .returned (.bool false) ∧ Below w.heap.size w w' := by
  have FX := cmdF a A ca
  have FY := cmdF b B cb
  generalize cmdC a A ca = X at FX ⊢
  generalize cmdC b B cb = Y at FY ⊢
  obtain ⟨hx, _, x0, _, _, _, _, _, _, _, _, _, _, _⟩ := FX
  obtain ⟨hy, _, y0, _, _, _, _, _, _, _, _, _, _, _⟩ := FY
  go_enter Try.func76, Try.ntmps76
  go_wp2
  go_ret
  exact ⟨rfl, bnew (bnew (Below.refl _ _) _) _⟩

set_option maxRecDepth 100000 in
set_option maxHeartbeats 8000000 in
theorem sc_ses (a b : Cm.Cmd) (A B : Option Addr) (ca cb : Nat) (w : World) (d0 : ((a.op : Int) = (b.op : Int)) = True) (b0 : ((a.op : Int) == (b.op : Int)) = true) (b1 : ((a.ses : Int) == (b.ses : Int)) = false) (d1 : (a.ses : Int) ≠ (b.ses : Int)) :
    Calls Try.prog 76 #[.agg (cmdC a A ca), .agg (cmdC b B cb)] w fun e w' => e = .returned (.bool false) ∧ Below w.heap.size w w' := by
  have FX := cmdF a A ca
  have FY := cmdF b B cb
  generalize cmdC a A ca = X at FX ⊢
  generalize cmdC b B cb = Y at FY ⊢
  obtain ⟨hx, _, x0, x1, _, _, _, _, _, _, _, _, _, _⟩ := FX
  obtain ⟨hy, _, y0, y1, _, _, _, _, _, _, _, _, _, _⟩ := FY
  go_enter Try.func76, Try.ntmps76
  go_wp2
  go_ret
  exact ⟨rfl, bnew (bnew (Below.refl _ _) _) _⟩

set_option maxRecDepth 100000 in
set_option maxHeartbeats 8000000 in
theorem sc_seq (a b : Cm.Cmd) (A B : Option Addr) (ca cb : Nat) (w : World) (d0 : ((a.op : Int) = (b.op : Int)) = True) (b0 : ((a.op : Int) == (b.op : Int)) = true) (d1 : ((a.ses : Int) = (b.ses : Int)) = True) (b1 : ((a.ses : Int) == (b.ses : Int)) = true) (b2 : ((a.seq : Int) == (b.seq : Int)) = false) (d2 : (a.seq : Int) ≠ (b.seq : Int)) :
    Calls Try.prog 76 #[.agg (cmdC a A ca), .agg (cmdC b B cb)] w fun e w' => e = .returned (.bool false) ∧ Below w.heap.size w w' := by
  have FX := cmdF a A ca
  have FY := cmdF b B cb
  generalize cmdC a A ca = X at FX ⊢
  generalize cmdC b B cb = Y at FY ⊢
  obtain ⟨hx, _, x0, x1, x2, _, _, _, _, _, _, _, _, _⟩ := FX
  obtain ⟨hy, _, y0, y1, y2, _, _, _, _, _, _, _, _, _⟩ := FY
  go_enter Try.func76, Try.ntmps76
  go_wp2
  go_ret
  exact ⟨rfl, bnew (bnew (Below.refl _ _) _) _⟩

end Go.Proofs.Ytlcgjlganmblpaa
