/-
  The document's Right walked; the statements' GreatSnap.
  How arguments are opened: slices of numbers and of strings, as cells that lie in memory.
-/
import Derived.Test.YtjhbpcecdhdnoaaGreatDoorRStOneW
import Derived.Test.YtjhbpcecdhdnoaaGreatDoorRWrBZ
import Derived.Test.YtjhbpcecdhdnoaaGreatDoorRows
import Derived.Test.YtjhbpcecdhdnoaaGreatDoorRWords
import Derived.ProofKit
import Derived.OpenShut
import Derived.ShutString
import Derived.SliceStrings
import Derived.Carry
set_option linter.unusedSimpArgs false
set_option linter.unusedVariables false
namespace Go.Proofs.YtjhbpcecdhdnoaaGreatDoor
open Go.RowKit
def gsn (s : St.Sn) : Bool := (List.range 5).any (fun i => decide (200 < (St.sx s i).size)) || decide (4611686018427387904 < s.idx)
theorem gsn_no {s : St.Sn} (h : gsn s = false) : (∀ i, i < 5 → (St.sx s i).size ≤ 200) ∧ s.idx ≤ 4611686018427387904 := by
  unfold gsn at h
  rw [Bool.or_eq_false_iff, decide_eq_false_iff_not, List.any_eq_false] at h
  exact ⟨fun i hi => by have := h.1 i (List.mem_range.2 hi); simpa using this, by omega⟩
theorem gsn_sec {s : St.Sn} {i : Nat} (hi : i < 5) (h : 200 < (St.sx s i).size) : gsn s = true := by
  unfold gsn
  rw [Bool.or_eq_true, List.any_eq_true]
  exact .inl ⟨i, List.mem_range.2 hi, by simpa using h⟩
theorem gsn_idx {s : St.Sn} (h : ∀ i, i < 5 → ¬ 200 < (St.sx s i).size) : gsn s = decide (4611686018427387904 < s.idx) := by
  unfold gsn
  have : (List.range 5).any (fun i => decide (200 < (St.sx s i).size)) = false := by
    rw [List.any_eq_false]
    intro i hi
    simpa using h i (List.mem_range.1 hi)
  rw [this, Bool.false_or]
theorem snC_sx (s : St.Sn) (i : Nat) (hi : i < 5) : (snC s)[3 + i]? = some (.string (St.sx s i)) := by
  rcases (show i = 0 ∨ i = 1 ∨ i = 2 ∨ i = 3 ∨ i = 4 by omega) with rfl | rfl | rfl | rfl | rfl <;> rfl
set_option maxRecDepth 100000 in
set_option maxHeartbeats 4000000 in
theorem greatSnap_any (s : St.Sn) (hs : s.idx < Nm.top) (hz : ∀ i, i < 5 → (St.sx s i).size ≤ maxLen) (w : World) : Calls Tryz.prog 18 #[.agg (snC s)] w (RetTr (gsn s) w) := by
  unfold Nm.top at hs
  have HG1 := Lib.hid (fun i (hi : i < 5) => gsn_sec (s := s) hi)
  have HG2 := Lib.hid (gsn_idx (s := s))
  have HZ := Lib.hid hz
  clear hz
  go_enter Tryz.func18, Tryz.ntmps18
  go_upto_region 1 with (fail)
  refine forget (fun W1 => Rw W1 w.heap.size (snC s) 55 ∧ Bl w W1) ⟨Rw.new w _ _, (Bl.refl w).alloc _⟩ ?_
  intro W1 H1
  generalize w.heap.size = g at H1 ⊢
  have HI := Lib.hid H1
  clear H1
  go_wp2_with fail
  go_loopw [3] (fun i wr => ∃ k : Nat, k ≤ 5 ∧ i = .int .i64 (k : Int) ∧ (∀ j, j < k → ¬ 200 < (St.sx s j).size) ∧ W1 = wr) (fun i _ => 5 - (intOf i).toNat)
  case atStart => exact ⟨0, by omega, rfl, fun j hj => by omega, rfl⟩
  case round =>
    obtain ⟨k, hk, rfl, hall, rfl⟩ := hrel
    by_cases hlt : k < 5
    · have hc : W1.cell? ⟨g, 3 + k, none⟩ = some (.string (St.sx s k)) := HI.out.1.cell _ (snC_sx s k hlt)
      have hzk := HZ.out k hlt
      obtain ⟨x, hx⟩ : ∃ x, x = St.sx s k := ⟨_, rfl⟩
      rw [← hx] at hc hzk
      by_cases hbig : 200 < x.size
      · have E : Hid (gsn s = true) := Lib.hid (HG1.out k hlt (by rw [← hx]; exact hbig))
        have b1 : decide ((200 : Int) < (x.size : Int)) = true := by simp; omega
        have b2 : ((200 : Int) < (x.size : Int)) = True := by simp; omega
        clear hall hx hbig
        go_wp2_with fail
        go_ret
        exact ⟨by rw [E.out]; rfl, HI.out.2⟩
      · have b1 : decide ((200 : Int) < (x.size : Int)) = false := by simp; omega
        have b2 : ((200 : Int) < (x.size : Int)) = False := by simp; omega
        have HA := Lib.hid (fun j (hj : j < k + 1) => show ¬ 200 < (St.sx s j).size from by
          by_cases e : j = k
          · subst e; rw [← hx]; exact hbig
          · exact hall j (by omega))
        clear hall hx hbig
        go_wp2_with fail
        go_roundw
        case rel => exact ⟨k + 1, by omega, by go_num, HA.out, by trivial⟩
        case measure => simp [intOf]; omega
    · obtain rfl : k = 5 := by omega
      have E := Lib.hid (HG2.out hall)
      obtain ⟨z0, z1, z2, z3, z4, z5, z6, z7⟩ := (show W1.cell? ⟨g, 0, none⟩ = some (.int .u64 (s.idx : Int)) ∧ True ∧ True ∧ True ∧ True ∧ True ∧ True ∧ True from ⟨HI.out.1.cell 0 rfl, trivial, trivial, trivial, trivial, trivial, trivial, trivial⟩)
      clear hall z1 z2 z3 z4 z5 z6 z7
      by_cases hb : 4611686018427387904 < s.idx
      · have b1 : decide (4611686018427387904 < s.idx) = true := decide_eq_true hb
        have b2 : ((4611686018427387904 : Int) < (s.idx : Int)) = True := by simp; omega
        have E2 : Hid (gsn s = true) := Lib.hid (by rw [E.out, b1])
        clear hb E
        go_wp2_with fail
        go_ret
        exact ⟨by rw [E2.out]; rfl, HI.out.2⟩
      · have b1 : decide (4611686018427387904 < s.idx) = false := decide_eq_false hb
        have b2 : ((4611686018427387904 : Int) < (s.idx : Int)) = False := by simp; omega
        have E2 : Hid (gsn s = false) := Lib.hid (by rw [E.out, b1])
        clear hb E
        go_wp2_with fail
        go_ret
        exact ⟨by rw [E2.out]; rfl, HI.out.2⟩
theorem right_ent (e : En.E) : Wl.right ⟨3, 0, 0, e⟩ = En.may e := by unfold Wl.right; simp
set_option maxRecDepth 100000 in
set_option maxHeartbeats 8000000 in
theorem rright9_any (k : St.K) (A : Option Addr) (c : Nat) (w : World) (hA : Lies w A (ec k.ents)) (hk : k.snap.idx < Nm.top) (hkt : k.snap.trm < Nm.top) (hn : k.ents.length ≤ 1000000) (hfi : ∀ e ∈ k.ents, e.idx < Nm.top ∧ e.trm < Nm.top) :
    Calls Tryz.prog 19 #[.agg (kC k (.slice A k.ents.length c))] w fun e w' => (∃ b, e = .returned (.bool b) ∧ (b = true → St.Fit k)) ∧ Below w.heap.size w w' := by
  have HA := Lib.hid hA
  have HFi := Lib.hid hfi
  unfold Nm.top at hk hkt
  clear hA hfi
  go_enter Tryz.func19, Tryz.ntmps19
  go_upto_region 1 with (fail)
  refine forget (fun W1 => Rw W1 w.heap.size (kC k (.slice A k.ents.length c)) 62 ∧ Bl w W1) ⟨Rw.new w _ _, (Bl.refl w).alloc _⟩ ?_
  intro W1 H1
  generalize w.heap.size = g at H1 ⊢
  have HI := Lib.hid H1
  clear H1
  go_wp2_with fail
  go_loopw [3] (fun i wr => ∃ j : Nat, j ≤ k.ents.length ∧ i = .int .i64 (j : Int) ∧ (∀ x (h : x < k.ents.length), x < j → En.may k.ents[x] = true) ∧ Below W1.heap.size W1 wr) (fun i _ => k.ents.length - (intOf i).toNat)
  case atStart => exact ⟨0, by omega, rfl, fun x _ hx => by omega, Below.refl _ _⟩
  case round =>
    obtain ⟨j, hj, rfl, hall, hb⟩ := hrel
    have Hb := Lib.hid hb
    obtain ⟨x0, x1, x2, x3, x4, x5, x6, x7, x8, x9, x10⟩ := rk_cells (HI.out.1.bel hb)
    clear hb x0 x1 x4 x5 x6 x7 x8 x9
    by_cases hlt : j < k.ents.length
    · obtain ⟨be, oe, rfl, hP⟩ := HA.out.ent j hlt
      replace hP := (hP.bel HI.out.2.bel).bel Hb.out
      have Hall := Lib.hid hall
      obtain ⟨e, he⟩ : ∃ e, e = k.ents[j] := ⟨_, rfl⟩
      have He := Lib.hid he
      rw [← he] at hP
      obtain ⟨_, c0, c1, c2, c3, c4, c5, c6, c7, c8, c9, c10, c11, c12⟩ := hP
      have HR := Lib.hid (fun W => refRight8_any ⟨3, 0, 0, e⟩ W)
      rw [right_ent] at HR
      unfold recC at HR
      clear he hall x2 x3
      cases hm : En.may e with
      | false =>
        rw [hm] at HR
        clear hm
        go_wp2_with fail
        refine (HR.out _).mono ?_
        rintro r w2 ⟨rfl, hb2⟩
        have HB2 := Lib.hid (HI.out.2.bel.trans ((bnext Hb.out hb2).mono HI.out.2.le))
        clear hb2
        go_wp2_with fail
        go_ret
        exact ⟨⟨false, rfl, fun h => by cases h⟩, HB2.out⟩
      | true =>
        rw [hm] at HR
        have Hm := Lib.hid hm
        clear hm
        go_wp2_with fail
        refine (HR.out _).mono ?_
        rintro r w2 ⟨rfl, hb2⟩
        have HB2 := Lib.hid (bnext Hb.out hb2)
        clear hb2
        go_wp2_with fail
        go_roundw
        case rel => exact ⟨j + 1, by omega, by go_num, fun x h hx => (by
          by_cases ex : x = j
          · subst ex; rw [← He.out]; exact Hm.out
          · exact Hall.out x h (by omega)), HB2.out⟩
        case measure => simp [intOf]; omega
    · have HMay : Hid (∀ x (h : x < k.ents.length), En.may k.ents[x] = true) := Lib.hid fun x h => hall x h (by omega)
      clear hall
      go_wp2_with fail
      clear x2 x3 x10
      go_loopw [4, 5, 6] (fun a b i wz => ∃ m : Nat, m ≤ k.ents.length ∧ i = .int .i64 (m : Int) ∧ a = .int .u64 (St.bidx k m : Int) ∧ b = .int .u64 (St.before k m : Int) ∧ St.bidx k m ≤ 18446744073709551615 ∧ St.before k m ≤ 18446744073709551615 ∧ (∀ x (h : x < k.ents.length), x < m → k.ents[x].idx = k.snap.idx + x + 1 ∧ St.before k x ≤ k.ents[x].trm) ∧ wr = wz) (fun _ _ i _ => k.ents.length - (intOf i).toNat)
      case atStart => exact ⟨0, by omega, rfl, rfl, rfl, by show k.snap.idx + 0 ≤ _; omega, by show k.snap.trm ≤ _; omega, fun x _ hx => by omega, rfl⟩
      case round =>
        obtain ⟨m, hm, rfl, rfl, rfl, hbi, hbt, hchn, rfl⟩ := hrel
        obtain ⟨x0, x1, x2, x3, x4, x5, x6, x7, x8, x9, x10⟩ := rk_cells (HI.out.1.bel Hb.out)
        clear x0 x1 x2 x3 x4 x5 x6 x7 x8 x9
        obtain ⟨b0, hb0⟩ : ∃ b0, b0 = St.bidx k m := ⟨_, rfl⟩
        obtain ⟨t0, ht0⟩ : ∃ t0, t0 = St.before k m := ⟨_, rfl⟩
        have Hb0 := Lib.hid (And.intro hb0 ht0)
        rw [← hb0] at hbi ⊢
        rw [← ht0] at hbt ⊢
        have HC := Lib.hid hchn
        clear hb0 ht0 hchn
        by_cases hlt : m < k.ents.length
        · obtain ⟨be, oe, rfl, hP⟩ := HA.out.ent m hlt
          replace hP := (hP.bel HI.out.2.bel).bel Hb.out
          have hfx := HFi.out k.ents[m] (List.getElem_mem hlt)
          obtain ⟨e, he⟩ : ∃ e, e = k.ents[m] := ⟨_, rfl⟩
          have He := Lib.hid he
          rw [← he] at hP hfx
          unfold Nm.top at hfx
          obtain ⟨_, c0, c1, c2, c3, c4, c5, c6, c7, c8, c9, c10, c11, c12⟩ := hP
          clear he c2 c3 c4 c5 c6 c7 c8 c9 c10 c11 c12
          have hno : ∀ Q : Prop, (∃ b, Ending.returned (.bool false) = .returned (.bool b) ∧ (b = true → Q)) := fun Q => ⟨false, rfl, fun h => by cases h⟩
          have HNo := Lib.hid hno
          clear hno
          by_cases hmax : b0 = 18446744073709551615
          · have q1 : ((b0 : Int) == 18446744073709551615) = true := by simp; omega
            have q1' : ((b0 : Int) = 18446744073709551615) = True := by simp; omega
            clear hmax
            go_wp2_with fail
            go_ret
            exact ⟨HNo.out _, HI.out.2.bel.trans (Hb.out.mono HI.out.2.le)⟩
          · have q1 : ((b0 : Int) == 18446744073709551615) = false := by simp; omega
            have q1' : ((b0 : Int) = 18446744073709551615) = False := by simp; omega
            have hb14 : b0 ≤ 18446744073709551614 := by omega
            clear hmax hbi
            by_cases hi : e.idx = b0 + 1
            · have q2 : ((e.idx : Int) != (b0 : Int) + 1) = false := by simp; omega
              have q2' : ((e.idx : Int) = (b0 : Int) + 1) = True := by simp; omega
              by_cases ht : e.trm < t0
              · have q3 : decide (e.trm < t0) = true := decide_eq_true ht
                have q3' : ((e.trm : Int) < (t0 : Int)) = True := by simp; omega
                clear hi ht
                go_wp2_with fail
                go_ret
                exact ⟨HNo.out _, HI.out.2.bel.trans (Hb.out.mono HI.out.2.le)⟩
              · have q3 : decide (e.trm < t0) = false := decide_eq_false ht
                have q3' : ((e.trm : Int) < (t0 : Int)) = False := by simp; omega
                have HF : Hid (e.idx = St.bidx k (m + 1) ∧ e.trm = St.before k (m + 1) ∧ ∀ x (h : x < k.ents.length), x < m + 1 → k.ents[x].idx = k.snap.idx + x + 1 ∧ St.before k x ≤ k.ents[x].trm) := Lib.hid (by
                  have h0 := Hb0.out
                  refine ⟨by rw [hi, h0.1]; unfold St.bidx; omega, by rw [St.before_succ k hlt, He.out], fun x h hx => ?_⟩
                  by_cases ex : x = m
                  · subst ex
                    rw [← He.out, hi, h0.1, ← h0.2]
                    exact ⟨by unfold St.bidx; omega, by omega⟩
                  · exact HC.out x h (by omega))
                clear hi ht
                go_wp2_with fail
                go_roundw
                case rel => exact ⟨m + 1, by omega, by go_num, by rw [← HF.out.1], by rw [← HF.out.2.1], by rw [← HF.out.1]; omega, by rw [← HF.out.2.1]; omega, HF.out.2.2, by trivial⟩
                case measure => simp [intOf]; omega
            · have q2 : ((e.idx : Int) != (b0 : Int) + 1) = true := by simp; omega
              have q2' : ((e.idx : Int) = (b0 : Int) + 1) = False := by simp; omega
              clear hi
              go_wp2_with fail
              go_ret
              exact ⟨HNo.out _, HI.out.2.bel.trans (Hb.out.mono HI.out.2.le)⟩
        · have HF : Hid (St.Fit k) := Lib.hid ⟨fun x h => (HC.out x h (by omega)).1, fun x h => (HC.out x h (by omega)).2, HMay.out⟩
          go_wp2_with fail
          go_ret
          exact ⟨⟨true, rfl, fun _ => HF.out⟩, HI.out.2.bel.trans (Hb.out.mono HI.out.2.le)⟩
end Go.Proofs.YtjhbpcecdhdnoaaGreatDoor
namespace Go.Proofs.YtjhbpcecdhdnoaaGreatDoor
open Go.ChangeShapes Go.WideShapes Go.ChangeAt Go.RowKit
set_option linter.unusedVariables false

theorem own : ownKnob Tryz.prog.godebug = none := by kernel_rfl
theorem laidOut : laidOutB Tryz.prog = true := by kernel_rfl

theorem lies_of {w : World} {x : Addr} {vs : List Value} (hc : ∀ i u, vs[i]? = some u → w.cell? (x.add i) = some u) : Lies w (some x) vs := by
  rcases vs with _ | ⟨v, vs⟩
  · exact .inl rfl
  · obtain ⟨b, off, spot⟩ := x
    have h0 := hc 0 v rfl
    have hspot : spot = none := by simpa [Addr.add] using World.cell?_spot h0
    subst hspot
    refine .inr ⟨b, off, rfl, World.block_lt_of_cell? w ⟨b, off, none⟩ (by simpa [Addr.add] using h0), fun i u hu => ?_⟩
    have := hc i u hu
    have e : (⟨b, off, none⟩ : Addr).add i = ⟨b, off + i, none⟩ := by unfold Addr.add; split <;> simp_all
    rwa [e] at this

theorem u64_nat {n : Int} (h : (Lit.int .u64 n).wf = true) : ∃ k : Nat, n = (k : Int) ∧ k < Nm.top := by
  have hx : 0 ≤ n ∧ n ≤ 18446744073709551615 := by simpa [Lit.wf, IntKind.min, IntKind.max, IntKind.signed, IntKind.bits] using h
  exact ⟨n.toNat, by omega, by unfold Nm.top; omega⟩

end Go.Proofs.YtjhbpcecdhdnoaaGreatDoor
