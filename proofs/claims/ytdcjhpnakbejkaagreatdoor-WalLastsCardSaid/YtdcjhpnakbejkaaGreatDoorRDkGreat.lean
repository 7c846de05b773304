/-
  wapentakelaw07.GreatCrash and Great walked.
-/
import Derived.Test.YtdcjhpnakbejkaaGreatDoorRDkP
import Derived.StillTailTactics
import Derived.IntWalk
set_option linter.unusedSimpArgs false
set_option linter.unusedVariables false
namespace Go.Proofs.YtdcjhpnakbejkaaGreatDoor
open Go.RowKit
/-- More choices than are gone through. -/
def Dk.bigC (ks ts : List Int) : Bool := decide (60 < ks.length) || decide (60 < ts.length)
def Dk.bigA (x : Dk.Act) : Bool := decide (20000 < x.a.size) || (decide (20000 < x.b.size) || Dk.bigC x.keep x.torn)
def Dk.texts (l : List Dk.Act) : Nat := (l.map fun x => x.a.size + x.b.size).sum
def Dk.great (l : List Dk.Act) : Bool := decide (100 < l.length) || (l.any Dk.bigA || decide (20000 < Dk.texts l))
theorem Dk.texts_take (l : List Dk.Act) (k : Nat) (h : k < l.length) : Dk.texts (l.take (k + 1)) = Dk.texts (l.take k) + (l[k].a.size + l[k].b.size) := by
  unfold Dk.texts
  rw [List.take_succ_eq_append_getElem h, List.map_append, List.sum_append]; simp
theorem Dk.bigA_take (l : List Dk.Act) (k : Nat) (h : k < l.length) : (l.take (k + 1)).any Dk.bigA = ((l.take k).any Dk.bigA || Dk.bigA l[k]) := by
  rw [List.take_succ_eq_append_getElem h, List.any_append]; simp
theorem Dk.load_small {l : List Dk.Act} (h : Dk.great l = false) : l.length ≤ 100 ∧ Dk.actsLoad l ≤ 20200 := by
  unfold Dk.great at h
  simp only [Bool.or_eq_false_iff, decide_eq_false_iff_not] at h
  obtain ⟨h1, h2, h3⟩ := h
  have : Dk.actsLoad l = 2 * l.length + Dk.texts l := by
    clear h1 h2 h3
    induction l with
    | nil => rfl
    | cons x l ih =>
      simp only [Dk.actsLoad, Dk.texts, List.map_cons, List.sum_cons, List.length_cons, Dk.actLoad] at ih ⊢
      omega
  omega
set_option maxRecDepth 100000 in
theorem greatC_any (ks ts : List Int) (K T : Option Addr) (kc tc : Nat) (W : World) :
    Calls Tryz.prog 34 #[.agg #[.slice K ks.length kc, .slice T ts.length tc]] W fun e w' => e = .returned (.bool (Dk.bigC ks ts)) ∧ Below W.heap.size W w' := by
  have HB : Hid (∀ o, Below W.heap.size W (W.alloc o)) := Lib.hid fun o => bnew (Below.refl _ _) o
  obtain ⟨B, hB⟩ : ∃ B, B = Dk.bigC ks ts := ⟨_, rfl⟩
  by_cases h1 : 60 < ks.length
  · have d1 : decide ((60 : Int) < (ks.length : Int)) = true := by simp; omega
    have E : Hid (B = true) := Lib.hid (by rw [hB]; unfold Dk.bigC; rw [decide_eq_true h1]; rfl)
    rw [← hB]
    clear h1 hB
    go_enter Tryz.func34, Tryz.ntmps34
    go_wp2_with fail
    go_ret
    exact ⟨by rw [E.out]; rfl, HB.out _⟩
  · have d1 : decide ((60 : Int) < (ks.length : Int)) = false := by simp; omega
    by_cases h2 : 60 < ts.length
    · have d2 : decide ((60 : Int) < (ts.length : Int)) = true := by simp; omega
      have E : Hid (B = true) := Lib.hid (by rw [hB]; unfold Dk.bigC; rw [decide_eq_true h2, Bool.or_true])
      rw [← hB]
      clear h1 h2 hB
      go_enter Tryz.func34, Tryz.ntmps34
      go_wp2_with fail
      go_ret
      exact ⟨by rw [E.out]; rfl, HB.out _⟩
    · have d2 : decide ((60 : Int) < (ts.length : Int)) = false := by simp; omega
      have E : Hid (B = false) := Lib.hid (by rw [hB]; unfold Dk.bigC; rw [decide_eq_false h1, decide_eq_false h2]; rfl)
      rw [← hB]
      clear h1 h2 hB
      go_enter Tryz.func34, Tryz.ntmps34
      go_wp2_with fail
      go_ret
      exact ⟨by rw [E.out]; rfl, HB.out _⟩
theorem ActL.rngC {W : World} {b o : Nat} {g : Ga} (h : ActL W b o g) : W.rangeAt b (o + 4) (#[.slice g.ka g.x.keep.length g.kc, .slice g.ta g.x.torn.length g.tc] : Array Value).toList := fun j v hv => by
  have hj : j < 2 := (List.getElem?_eq_some_iff.1 hv).1
  have : j = 0 ∨ j = 1 := by omega
  rcases this with rfl | rfl
  · injection hv with hv; subst hv; exact h.c4
  · injection hv with hv; subst hv; exact h.c5
theorem ActL.below {W W' : World} {b o : Nat} {g : Ga} (h : ActL W b o g) (hb : Below W.heap.size W W') : ActL W' b o g :=
  ⟨Nat.lt_of_lt_of_le h.lt hb.size, (hb.cell (p := ⟨b, o, none⟩) h.lt).trans h.c0, (hb.cell (p := ⟨b, o + 1, none⟩) h.lt).trans h.c1, (hb.cell (p := ⟨b, o + 2, none⟩) h.lt).trans h.c2, (hb.cell (p := ⟨b, o + 3, none⟩) h.lt).trans h.c3, (hb.cell (p := ⟨b, o + 4, none⟩) h.lt).trans h.c4, (hb.cell (p := ⟨b, o + 5, none⟩) h.lt).trans h.c5⟩
set_option maxRecDepth 100000 in
set_option maxHeartbeats 4000000 in
theorem great_any (w : World) (gs : List Ga) (A : Option Addr) (cap : Nat) (ga : Acts w A gs) :
    Calls Tryz.prog 66 #[.slice A gs.length cap] w fun e w' => e = .returned (.bool (Dk.great (xs gs))) ∧ Below w.heap.size w w' := by
  obtain ⟨B, hB⟩ : ∃ B, B = Dk.great (xs gs) := ⟨_, rfl⟩
  by_cases h1 : 100 < gs.length
  · have d1 : decide ((100 : Int) < (gs.length : Int)) = true := by simp; omega
    have E : Hid (B = true) := Lib.hid (by rw [hB]; unfold Dk.great; rw [decide_eq_true (by rw [xs_length]; exact h1)]; rfl)
    rw [← hB]
    clear h1 hB ga
    go_enter Tryz.func66, Tryz.ntmps66
    go_wp2_with fail
    go_ret
    exact ⟨by rw [E.out]; rfl, Below.refl _ _⟩
  have d1 : decide ((100 : Int) < (gs.length : Int)) = false := by simp; omega
  have E0 : Hid (B = ((xs gs).any Dk.bigA || decide (20000 < Dk.texts (xs gs)))) := Lib.hid (by rw [hB]; unfold Dk.great; rw [decide_eq_false (by rw [xs_length]; exact h1)]; rfl)
  rw [← hB]
  have HA := Lib.hid ga
  have HL : Hid (gs.length ≤ 100) := Lib.hid (by omega)
  clear h1 hB ga
  go_enter Tryz.func66, Tryz.ntmps66
  go_wp2_with fail
  clear d1
  go_loopw [3, 4] (fun n i wr => ∃ k : Nat, k ≤ gs.length ∧ i = .int .i64 (k : Int) ∧ n = .int .i64 ((Dk.texts ((xs gs).take k) : Nat) : Int) ∧ ((xs gs).take k).any Dk.bigA = false ∧ Dk.texts ((xs gs).take k) ≤ 40000 * k ∧ Below w.heap.size w wr) (fun _ i _ => gs.length - (intOf i).toNat)
  case atStart => exact ⟨0, Nat.zero_le _, rfl, rfl, rfl, Nat.zero_le _, Below.refl _ _⟩
  case round =>
    obtain ⟨k, hk, rfl, rfl, hall, hn, hb⟩ := hrel
    have Hall := Lib.hid hall
    have Hb := Lib.hid hb
    have HLk := HL.out
    clear hall hb
    by_cases hlt : k < gs.length
    · obtain ⟨b, off, hAe, hE⟩ := (HA.out.lies.below Hb.out).act k hlt
      have hxl : k < (xs gs).length := by rw [xs_length]; exact hlt
      have hT := Dk.texts_take (xs gs) k hxl
      have hG := Dk.bigA_take (xs gs) k hxl
      have hM : (xs gs)[k] ∈ xs gs := List.getElem_mem hxl
      rw [xs_at gs k hlt] at hT hG hM
      obtain ⟨g, hgk⟩ : ∃ g, g = gs[k] := ⟨_, rfl⟩
      rw [← hgk] at hE hT hG hM
      obtain ⟨t, ht⟩ : ∃ t, t = Dk.texts ((xs gs).take k) := ⟨_, rfl⟩
      rw [← ht] at hT hn ⊢
      have HT := Lib.hid hT
      have HG := Lib.hid hG
      have HE := Lib.hid hE
      have HC := Lib.hid (fun W => greatC_any g.x.keep g.x.torn g.ka g.ta g.kc g.tc W)
      have HY : Hid (Dk.bigA g.x = true → B = true) := Lib.hid fun h => by
        rw [E0.out, List.any_eq_true.2 ⟨_, hM, h⟩]; rfl
      obtain ⟨hlb, _, c1, c2, _, _, _⟩ := hE
      subst hAe
      clear hT hG hgk ht hxl hM
      by_cases ha : 20000 < g.x.a.size
      · have p1 : decide ((20000 : Int) < (g.x.a.size : Int)) = true := by simp; omega
        have E : Hid (B = true) := Lib.hid (HY.out (by unfold Dk.bigA; rw [decide_eq_true ha]; rfl))
        clear ha
        go_wp2_with fail
        go_ret
        exact ⟨by rw [E.out]; rfl, Hb.out⟩
      have p1 : decide ((20000 : Int) < (g.x.a.size : Int)) = false := by simp; omega
      by_cases hbb : 20000 < g.x.b.size
      · have p2 : decide ((20000 : Int) < (g.x.b.size : Int)) = true := by simp; omega
        have E : Hid (B = true) := Lib.hid (HY.out (by unfold Dk.bigA; rw [decide_eq_true hbb]; simp))
        clear ha hbb
        go_wp2_with fail
        go_ret
        exact ⟨by rw [E.out]; rfl, Hb.out⟩
      have p2 : decide ((20000 : Int) < (g.x.b.size : Int)) = false := by simp; omega
      have HRc := Lib.hid HE.out.rngC
      rcases hbc : Dk.bigC g.x.keep g.x.torn with _ | _
      · rw [hbc] at HC
        have E : Hid (Dk.bigA g.x = false) := Lib.hid (by unfold Dk.bigA; rw [decide_eq_false ha, decide_eq_false hbb, hbc]; rfl)
        have hE2 : Hid (∀ w1, Below wr.heap.size wr w1 → w1.cell? ⟨b, off + k * 6 + 1, none⟩ = some (.string g.x.a) ∧ w1.cell? ⟨b, off + k * 6 + 2, none⟩ = some (.string g.x.b)) := Lib.hid fun w1 h1 => ⟨(HE.out.below h1).c1, (HE.out.below h1).c2⟩
        clear hbc
        go_wp2_with (refine wpList_load_rng rfl 45 _ rfl b (off + k * 6 + 4) rfl #[.slice g.ka g.x.keep.length g.kc, .slice g.ta g.x.torn.length g.tc] _ HRc.out Tryz.underlying45 rfl sizeCrash ?_)
        refine (HC.out _).mono ?_
        rintro e w1 ⟨rfl, hb1⟩
        obtain ⟨q1, q2⟩ := hE2.out w1 hb1
        have Hb1 := Lib.hid (bnext Hb.out hb1)
        have w1s : IntKind.i64.wrap ((t : Int) + (g.x.a.size : Int)) = (t : Int) + (g.x.a.size : Int) := IntWalk.i64_in _ (by omega)
        have w2s : IntKind.i64.wrap ((t : Int) + (g.x.a.size : Int) + (g.x.b.size : Int)) = (t : Int) + (g.x.a.size : Int) + (g.x.b.size : Int) := IntWalk.i64_in _ (by omega)
        clear c1 c2 hb1
        go_wp2_with fail
        go_quiet (fail)
        clear w1s w2s
        go_wp2_with fail
        go_roundw
        case rel => exact ⟨k + 1, by omega, by go_num, by rw [HT.out]; simp; omega, by rw [HG.out, Hall.out, E.out]; rfl, by rw [HT.out]; omega, below_drewN Hb1.out _⟩
        case measure => simp [intOf]; omega
      · rw [hbc] at HC
        have E : Hid (B = true) := Lib.hid (HY.out (by unfold Dk.bigA; rw [hbc]; simp))
        clear hbc
        go_wp2_with (refine wpList_load_rng rfl 45 _ rfl b (off + k * 6 + 4) rfl #[.slice g.ka g.x.keep.length g.kc, .slice g.ta g.x.torn.length g.tc] _ HRc.out Tryz.underlying45 rfl sizeCrash ?_)
        refine (HC.out _).mono ?_
        rintro e w1 ⟨rfl, hb1⟩
        go_wp2_with fail
        go_ret
        exact ⟨by rw [E.out]; rfl, bnext Hb.out hb1⟩
    · obtain rfl : k = gs.length := by omega
      have ht : (xs gs).take gs.length = xs gs := List.take_of_length_le (by rw [xs_length]; exact Nat.le_refl _)
      have Hal := Hall.out
      rw [ht] at Hal hn ⊢
      obtain ⟨t, ht2⟩ : ∃ t, t = Dk.texts (xs gs) := ⟨_, rfl⟩
      rw [← ht2] at hn ⊢
      have E1 : Hid (B = decide (20000 < t)) := Lib.hid (by rw [E0.out, Hal, ← ht2]; rfl)
      clear Hal ht ht2
      by_cases h2 : 20000 < t
      · have p1 : decide ((20000 : Int) < (t : Int)) = true := by simp; omega
        have E : Hid (B = true) := Lib.hid (by rw [E1.out, decide_eq_true h2])
        clear h2
        go_wp2_with fail
        go_ret
        exact ⟨by rw [E.out]; rfl, Hb.out⟩
      · have p1 : decide ((20000 : Int) < (t : Int)) = false := by simp; omega
        have E : Hid (B = false) := Lib.hid (by rw [E1.out, decide_eq_false h2])
        clear h2
        go_wp2_with fail
        go_ret
        exact ⟨by rw [E.out]; rfl, Hb.out⟩
end Go.Proofs.YtdcjhpnakbejkaaGreatDoor
