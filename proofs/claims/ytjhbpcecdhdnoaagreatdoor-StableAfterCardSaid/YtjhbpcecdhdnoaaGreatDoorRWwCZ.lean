/-
  wal's readState, readEntry and readRecord walked.
  wal's readEntry walked.
  wal's readRecord walked.
  wal.readRecords walked.
  stable's base walked: the records that lead from a snapshot alone to a state.
  slices.Clone of bytes and of ints walked.
  The program's disk: New, Fuse, Fused, Start, Down, by the head alone.
-/
import Derived.Test.YtjhbpcecdhdnoaaGreatDoorRWwRZ
import Derived.Test.YtjhbpcecdhdnoaaGreatDoorREnR
import Derived.Test.YtjhbpcecdhdnoaaGreatDoorRWrBZ
import Derived.Test.YtjhbpcecdhdnoaaGreatDoorRWlBaseZ
import Derived.Test.YtjhbpcecdhdnoaaGreatDoorRBldZ
import Derived.Test.YtjhbpcecdhdnoaaGreatDoorRDmA
import Derived.Test.YtjhbpcecdhdnoaaGreatDoorRStCloneZ
import Derived.Test.YtjhbpcecdhdnoaaGreatDoorRWords
import Derived.OwnWalk
set_option linter.unusedSimpArgs false
set_option linter.unusedVariables false
namespace Go.Proofs.YtjhbpcecdhdnoaaGreatDoor
open Go.RowKit
namespace Wl
def rzero : R := ⟨0, 0, 0, En.zero⟩
def stateP (l : List UInt8) : Option R := (Cm.rdV l).bind fun (n, l) => (Cm.rdB l).bind fun (v, l) => if l = [] then some ⟨2, n, v, En.zero⟩ else none
def entryP (l : List UInt8) : Option R := (En.read l).bind fun e => some ⟨3, 0, 0, e⟩
theorem record_eq (s : List UInt8) : record s = (Cm.rdB s).bind fun (k, l) => if k = 2 then stateP l else if k = 3 then entryP l else none := rfl
end Wl
def RecV (o : Option Wl.R) : Value := match o with
  | some r => .tuple #[.agg (recC r), .bool true]
  | none => .tuple #[.agg (recC Wl.rzero), .bool false]
theorem rlay (z r : Wl.R) : lay (recC z) 0 (recC r).toList = recC r := by simp [lay, recC]
def Rc (W : World) (g : Nat) (r : Wl.R) : Prop := W.heap[g]? = some (.cells (recC r) 90 (0, 0))
theorem Rc.store {W : World} {g : Nat} {z : Wl.R} (h : Rc W g z) (r : Wl.R) : Rc (W.setCells g 0 (recC r).toList) g r := by
  have := row_setCells (recC r).toList 0 W _ h
  rw [rlay] at this
  exact this
theorem recC_one (r : Wl.R) : (recC r).all (·.oneCell') = true := (recF r).one
theorem state_no {s : ByteArray} (h : Nm.readV s.data.toList = none) : Wl.stateP s.data.toList = none := by
  unfold Wl.stateP Cm.rdV; rw [h]; rfl
theorem state_bad {s : ByteArray} {n k : Nat} (h : Nm.readV s.data.toList = some (n, k)) (hk : k ≤ s.size) (h1 : s.size ≠ k + 1) : Wl.stateP s.data.toList = none := by
  unfold Wl.stateP
  rw [rdV_ext, h]
  simp only [Option.bind_some]
  obtain ⟨y, hy⟩ : ∃ y, y = s.extract k s.size := ⟨_, rfl⟩
  rw [← hy]
  have hz : y.size = s.size - k := by rw [hy, ByteArray.size_extract]; omega
  by_cases h0 : y.size = 0
  · rw [rdB_no h0]; rfl
  · rw [rdB_ext (by omega)]
    simp only [Option.bind_some, nil_iff y 1 (by omega)]
    rw [if_neg (by omega)]
theorem state_good {s : ByteArray} {n k : Nat} (h : Nm.readV s.data.toList = some (n, k)) (hks : k < s.size) (h1 : s.size = k + 1) : Wl.stateP s.data.toList = some ⟨2, n, s[k].toNat, En.zero⟩ := by
  unfold Wl.stateP
  have hd := drop_cons s k (by omega)
  have e : s.data.toList.drop (k + 1) = [] := List.drop_eq_nil_of_le (by rw [← Lib.size_eq]; omega)
  rw [e] at hd
  unfold Cm.rdV
  rw [h]
  simp only [Option.bind_some]
  rw [hd]
  simp [Cm.rdB]
set_option maxRecDepth 100000 in
set_option maxHeartbeats 4000000 in
theorem wreadState_any (W : World) (s : ByteArray) (hs : s.size ≤ 100000000) :
    Calls Tryz.prog 204 #[.string s] W fun e w' => e = .returned (RecV (Wl.stateP s.data.toList)) ∧ Below W.heap.size W w' := by
  have hres := results_ct (P := Tryz.prog) (fn := Tryz.f204) rfl
  have hr0 : Rc (W.alloc (.cells (recC Wl.rzero) 90)) W.heap.size Wl.rzero := heap_alloc_new W _
  have hb0 : Below W.heap.size W (W.alloc (.cells (recC Wl.rzero) 90)) := bnew (Below.refl _ _) _
  have HH := Lib.hid (And.intro hr0 hb0)
  clear hr0 hb0
  obtain ⟨W0, hW0⟩ : ∃ W0, W0 = W.alloc (.cells (recC Wl.rzero) 90) := ⟨_, rfl⟩
  rw [← hW0] at HH
  have HV := Lib.hid (ReadV_any s W0 (by omega))
  rcases hv : Nm.readV s.data.toList with _ | ⟨n, k⟩
  · have E := Lib.hid (state_no hv)
    rw [hv] at HV
    unfold rv at HV
    clear hv
    go_enter Tryz.func204, Tryz.ntmps204
    go_wp2_with fail
    refine (show Calls Tryz.prog 148 #[.string s] (W.alloc (.cells (recC Wl.rzero) 90)) _ by rw [← hW0]; exact HV.out).mono ?_
    clear hW0
    rintro e w1 ⟨rfl, rfl⟩
    go_wp2_with (refine wpList_store_sub rfl 90 _ _ rfl W.heap.size 0 rfl 90 (recC Wl.rzero) (recC Wl.rzero) rfl HH.out.1 (Nat.le_refl _) sizeRec (recC_one _) ?_)
    refine bodyPost_ret (hres _ _ W.heap.size 90 (recC Wl.rzero) (0, 0) _ rfl (HH.out.1.store Wl.rzero) Tryz.underlying90 rfl sizeRec) rfl ⟨by rw [E.out]; rfl, setCells_below (Nat.le_refl _) _ _ _ HH.out.2⟩
  obtain ⟨hn, hk⟩ := readV_le hv
  rw [← Lib.size_eq] at hk
  rw [hv] at HV
  unfold rv at HV
  by_cases h1 : s.size = k + 1
  · have hks : k < s.size := by omega
    have E := Lib.hid (state_good hv hks h1)
    have d1 : ((s.size : Int) != (k : Int) + 1) = false := by simp; omega
    have d2 : ((s.size : Int) = (k : Int) + 1) = True := by simp; omega
    clear hv h1 hn
    go_enter Tryz.func204, Tryz.ntmps204
    go_wp2_with fail
    refine (show Calls Tryz.prog 148 #[.string s] (W.alloc (.cells (recC Wl.rzero) 90)) _ by rw [← hW0]; exact HV.out).mono ?_
    clear hW0
    rintro e w1 ⟨rfl, rfl⟩
    go_wp2_with (refine wpList_store_sub rfl 90 _ _ rfl W.heap.size 0 rfl 90 (recC Wl.rzero) (recC ⟨2, n, s[k].toNat, En.zero⟩) rfl HH.out.1 (Nat.le_refl _) sizeRec (recC_one _) ?_)
    refine bodyPost_ret (hres _ _ W.heap.size 90 (recC ⟨2, n, s[k].toNat, En.zero⟩) (0, 0) _ rfl (HH.out.1.store _) Tryz.underlying90 rfl sizeRec) rfl ⟨by rw [E.out]; rfl, setCells_below (Nat.le_refl _) _ _ _ HH.out.2⟩
  · have E := Lib.hid (state_bad hv hk h1)
    have d1 : ((s.size : Int) != (k : Int) + 1) = true := by simp; omega
    have d2 : ((s.size : Int) = (k : Int) + 1) = False := by simp; omega
    clear hv h1 hn
    go_enter Tryz.func204, Tryz.ntmps204
    go_wp2_with fail
    refine (show Calls Tryz.prog 148 #[.string s] (W.alloc (.cells (recC Wl.rzero) 90)) _ by rw [← hW0]; exact HV.out).mono ?_
    clear hW0
    rintro e w1 ⟨rfl, rfl⟩
    go_wp2_with (refine wpList_store_sub rfl 90 _ _ rfl W.heap.size 0 rfl 90 (recC Wl.rzero) (recC Wl.rzero) rfl HH.out.1 (Nat.le_refl _) sizeRec (recC_one _) ?_)
    refine bodyPost_ret (hres _ _ W.heap.size 90 (recC Wl.rzero) (0, 0) _ rfl (HH.out.1.store Wl.rzero) Tryz.underlying90 rfl sizeRec) rfl ⟨by rw [E.out]; rfl, setCells_below (Nat.le_refl _) _ _ _ HH.out.2⟩
end Go.Proofs.YtjhbpcecdhdnoaaGreatDoor
namespace Go.Proofs.YtjhbpcecdhdnoaaGreatDoor
open Go.RowKit
set_option maxRecDepth 100000 in
set_option maxHeartbeats 4000000 in
theorem readEntry_any (W : World) (s : ByteArray) (hs : s.size ≤ 100000000) :
    Calls Tryz.prog 205 #[.string s] W fun e w' => e = .returned (RecV (Wl.entryP s.data.toList)) ∧ Below W.heap.size W w' := by
  have hres := results_ct (P := Tryz.prog) (fn := Tryz.f205) rfl
  have hr0 : Rc (W.alloc (.cells (recC Wl.rzero) 90)) W.heap.size Wl.rzero := heap_alloc_new W _
  have hb0 : Below W.heap.size W (W.alloc (.cells (recC Wl.rzero) 90)) := bnew (Below.refl _ _) _
  have HV := enRead_any s (W.alloc (.cells (recC Wl.rzero) 90)) hs
  rcases hv : En.read s.data.toList with _ | e0
  · have E : Hid (Wl.entryP s.data.toList = none) := Lib.hid (by unfold Wl.entryP; rw [hv]; rfl)
    rw [hv] at HV
    have HV := Lib.hid HV
    unfold reV at HV
    have hst := storeEnt (entC En.zero) rfl (by simp [entC, Value.oneCell'])
    have HB := Lib.hid (And.intro hr0 hb0)
    clear hv hr0 hb0
    go_enter Tryz.func205, Tryz.ntmps205
    go_wp2_with fail
    refine HV.out.mono ?_
    rintro e w1 ⟨rfl, hb1⟩
    have HH : Hid (Rc (w1.alloc (.cells (entC En.zero) 88)) W.heap.size Wl.rzero ∧ Below W.heap.size W (w1.alloc (.cells (entC En.zero) 88))) := Lib.hid ⟨(((bnew (Below.refl _ _) _).block _ (by have := hb1.size; simp at this; omega)).trans (hb1.block _ (by simp))).trans HB.out.1, bnew (bnext HB.out.2 hb1) _⟩
    clear hb1
    go_wp2_with (refine wpList_store_sub rfl 90 _ _ rfl W.heap.size 0 rfl 90 (recC Wl.rzero) (recC Wl.rzero) rfl HH.out.1 (Nat.le_refl _) sizeRec (recC_one _) ?_)
    refine bodyPost_ret (hres _ _ W.heap.size 90 (recC Wl.rzero) (0, 0) _ rfl (HH.out.1.store Wl.rzero) Tryz.underlying90 rfl sizeRec) rfl ⟨by rw [E.out]; rfl, setCells_below (Nat.le_refl _) _ _ _ HH.out.2⟩
  · have E : Hid (Wl.entryP s.data.toList = some ⟨3, 0, 0, e0⟩) := Lib.hid (by unfold Wl.entryP; rw [hv]; rfl)
    rw [hv] at HV
    have HV := Lib.hid HV
    unfold reV entC at HV
    have hst := storeEnt (entC e0) rfl (by simp [entC, Value.oneCell'])
    unfold entC at hst
    have HB := Lib.hid (And.intro hr0 hb0)
    clear hv hr0 hb0
    go_enter Tryz.func205, Tryz.ntmps205
    go_wp2_with fail
    refine HV.out.mono ?_
    rintro e w1 ⟨rfl, hb1⟩
    have HH : Hid (Rc (w1.alloc (.cells (entC e0) 88)) W.heap.size Wl.rzero ∧ Below W.heap.size W (w1.alloc (.cells (entC e0) 88))) := Lib.hid ⟨(((bnew (Below.refl _ _) _).block _ (by have := hb1.size; simp at this; omega)).trans (hb1.block _ (by simp))).trans HB.out.1, bnew (bnext HB.out.2 hb1) _⟩
    clear hb1
    go_wp2_with (refine wpList_store_sub rfl 90 _ _ rfl W.heap.size 0 rfl 90 (recC Wl.rzero) (recC ⟨3, 0, 0, e0⟩) rfl HH.out.1 (Nat.le_refl _) sizeRec (recC_one _) ?_)
    refine bodyPost_ret (hres _ _ W.heap.size 90 (recC ⟨3, 0, 0, e0⟩) (0, 0) _ rfl (HH.out.1.store _) Tryz.underlying90 rfl sizeRec) rfl ⟨by rw [E.out]; rfl, setCells_below (Nat.le_refl _) _ _ _ HH.out.2⟩
end Go.Proofs.YtjhbpcecdhdnoaaGreatDoor
namespace Go.Proofs.YtjhbpcecdhdnoaaGreatDoor
open Go.RowKit
theorem recV_eq (o : Option Wl.R) : RecV o = .tuple #[.agg (recC (o.getD Wl.rzero)), .bool o.isSome] := by cases o <;> rfl
set_option maxRecDepth 100000 in
set_option maxHeartbeats 1000000 in
theorem readRecord_any (W : World) (s : ByteArray) (hs : s.size ≤ 100000000) :
    Calls Tryz.prog 151 #[.string s] W fun e w' => e = .returned (RecV (Wl.record s.data.toList)) ∧ Below W.heap.size W w' := by
  have hres := results_ct (P := Tryz.prog) (fn := Tryz.f151) rfl
  have hr0 : Rc (W.alloc (.cells (recC Wl.rzero) 90)) W.heap.size Wl.rzero := heap_alloc_new W _
  have hb0 : Below W.heap.size W (W.alloc (.cells (recC Wl.rzero) 90)) := bnew (Below.refl _ _) _
  have HH := Lib.hid (And.intro hr0 hb0)
  clear hr0 hb0
  by_cases h0 : s.size = 0
  · have E : Hid (Wl.record s.data.toList = none) := Lib.hid (by rw [Wl.record_eq, rdB_no h0]; rfl)
    have es : s = ⟨#[]⟩ := ByteArray.ext (Array.eq_empty_of_size_eq_zero h0)
    have b1 : (s.toList == []) = true := by rw [es, ByteArray.toList_eq]; rfl
    clear h0 es
    go_enter Tryz.func151, Tryz.ntmps151
    go_wp2_with (refine wpList_store_sub rfl 90 _ _ rfl W.heap.size 0 rfl 90 (recC Wl.rzero) (recC Wl.rzero) rfl HH.out.1 (Nat.le_refl _) sizeRec (recC_one _) ?_)
    refine bodyPost_ret (hres _ _ W.heap.size 90 (recC Wl.rzero) (0, 0) _ rfl (HH.out.1.store Wl.rzero) Tryz.underlying90 rfl sizeRec) rfl ⟨by rw [E.out]; rfl, setCells_below (Nat.le_refl _) _ _ _ HH.out.2⟩
  have hp : 0 < s.size := by omega
  have b1 : (s.toList == []) = false := by
    rw [ByteArray.toList_eq]
    cases hl : s.data.toList with
    | nil => rw [Lib.size_eq, hl] at hp; simp at hp
    | cons a l => rfl
  have E0 : Wl.record s.data.toList = if s[0].toNat = 2 then Wl.stateP (s.extract 1 s.size).data.toList else if s[0].toNat = 3 then Wl.entryP (s.extract 1 s.size).data.toList else none := by
    rw [Wl.record_eq, rdB_ext hp, Option.bind_some]
  have p1 : (1 : Int) ≤ (s.size : Int) := by omega
  obtain ⟨x, hx⟩ : ∃ x, x = s.extract 1 s.size := ⟨_, rfl⟩
  have zx : x.size ≤ 100000000 := by rw [hx, ByteArray.size_extract]; omega
  rw [← hx] at E0
  have Hx := Lib.hid hx
  clear hx h0
  by_cases h2 : s[0].toNat = 2
  · have d1 : ((s[0].toNat : Int) == 2) = true := by simp; omega
    have d2 : ((s[0].toNat : Int) = 2) = True := by simp; omega
    rw [if_pos h2] at E0
    have E := Lib.hid E0
    have HS := Lib.hid (wreadState_any (W.alloc (.cells (recC Wl.rzero) 90)) x zx)
    clear h2 E0
    rw [recV_eq] at HS ⊢
    rw [E.out]
    obtain ⟨o, ho⟩ : ∃ o, o = Wl.stateP x.data.toList := ⟨_, rfl⟩
    rw [← ho] at HS ⊢
    clear ho E
    obtain ⟨b, hb⟩ : ∃ b, b = o.isSome := ⟨_, rfl⟩
    obtain ⟨r, hr⟩ : ∃ r, r = o.getD Wl.rzero := ⟨_, rfl⟩
    rw [← hb, ← hr] at HS ⊢
    clear hb hr
    go_enter Tryz.func151, Tryz.ntmps151
    go_wp2_with fail
    rw [← Hx.out]
    refine HS.out.mono ?_
    rintro e w1 ⟨rfl, hb1⟩
    have H1 : Hid (Rc w1 W.heap.size Wl.rzero ∧ Below W.heap.size W w1) := Lib.hid ⟨(hb1.block _ (by simp)).trans HH.out.1, bnext HH.out.2 hb1⟩
    clear hb1
    go_wp2_with (refine wpList_store_sub rfl 90 _ _ rfl W.heap.size 0 rfl 90 (recC Wl.rzero) (recC r) rfl H1.out.1 (Nat.le_refl _) sizeRec (recC_one _) ?_)
    refine bodyPost_ret (hres _ _ W.heap.size 90 (recC r) (0, 0) _ rfl (H1.out.1.store r) Tryz.underlying90 rfl sizeRec) rfl ⟨rfl, setCells_below (Nat.le_refl _) _ _ _ H1.out.2⟩
  have d1 : ((s[0].toNat : Int) == 2) = false := by simp; omega
  have d2 : ((s[0].toNat : Int) = 2) = False := by simp; omega
  rw [if_neg h2] at E0
  by_cases h3 : s[0].toNat = 3
  · have e1 : ((s[0].toNat : Int) == 3) = true := by simp; omega
    have e2 : ((s[0].toNat : Int) = 3) = True := by simp; omega
    rw [if_pos h3] at E0
    have E := Lib.hid E0
    have HS := Lib.hid (readEntry_any (W.alloc (.cells (recC Wl.rzero) 90)) x zx)
    clear h2 h3 E0
    rw [recV_eq] at HS ⊢
    rw [E.out]
    obtain ⟨o, ho⟩ : ∃ o, o = Wl.entryP x.data.toList := ⟨_, rfl⟩
    rw [← ho] at HS ⊢
    clear ho E
    obtain ⟨b, hb⟩ : ∃ b, b = o.isSome := ⟨_, rfl⟩
    obtain ⟨r, hr⟩ : ∃ r, r = o.getD Wl.rzero := ⟨_, rfl⟩
    rw [← hb, ← hr] at HS ⊢
    clear hb hr
    go_enter Tryz.func151, Tryz.ntmps151
    go_wp2_with fail
    rw [← Hx.out]
    refine HS.out.mono ?_
    rintro e w1 ⟨rfl, hb1⟩
    have H1 : Hid (Rc w1 W.heap.size Wl.rzero ∧ Below W.heap.size W w1) := Lib.hid ⟨(hb1.block _ (by simp)).trans HH.out.1, bnext HH.out.2 hb1⟩
    clear hb1
    go_wp2_with (refine wpList_store_sub rfl 90 _ _ rfl W.heap.size 0 rfl 90 (recC Wl.rzero) (recC r) rfl H1.out.1 (Nat.le_refl _) sizeRec (recC_one _) ?_)
    refine bodyPost_ret (hres _ _ W.heap.size 90 (recC r) (0, 0) _ rfl (H1.out.1.store r) Tryz.underlying90 rfl sizeRec) rfl ⟨rfl, setCells_below (Nat.le_refl _) _ _ _ H1.out.2⟩
  · have e1 : ((s[0].toNat : Int) == 3) = false := by simp; omega
    have e2 : ((s[0].toNat : Int) = 3) = False := by simp; omega
    rw [if_neg h3] at E0
    have E := Lib.hid E0
    clear h2 h3 E0
    go_enter Tryz.func151, Tryz.ntmps151
    go_wp2_with (refine wpList_store_sub rfl 90 _ _ rfl W.heap.size 0 rfl 90 (recC Wl.rzero) (recC Wl.rzero) rfl HH.out.1 (Nat.le_refl _) sizeRec (recC_one _) ?_)
    refine bodyPost_ret (hres _ _ W.heap.size 90 (recC Wl.rzero) (0, 0) _ rfl (HH.out.1.store Wl.rzero) Tryz.underlying90 rfl sizeRec) rfl ⟨by rw [E.out]; rfl, setCells_below (Nat.le_refl _) _ _ _ HH.out.2⟩
end Go.Proofs.YtjhbpcecdhdnoaaGreatDoor
namespace Go.Proofs.YtjhbpcecdhdnoaaGreatDoor
open Go.RowKit
theorem infoRec : (Tryz.prog.info? 90).map (fun i => (i.zero, i.size, i.bytes)) = some (some (.agg (recC Wl.rzero)), 16, 72) := by kernel_rfl
theorem wrs_snoc (l : List Wl.R) (r : Wl.R) : wrs (l ++ [r]) = wrs l ++ wr1 r := by simp [wrs]
theorem wr1_one (r : Wl.R) : ∀ u ∈ wr1 r, u.oneCell' = true := by simp [wr1, Value.oneCell']
theorem lies_rec {w : World} {base : Nat} {e : TypeId} {A : Option Addr} {n c : Nat} {l : List Value} (h : w.ownsRow base e 16 (.slice A n c) n l) : Lies w A l := by
  rcases h.2 with ⟨hv, hn⟩ | ⟨g, cap, cur, hv, _, hg, _, _, _, ht⟩
  · exact .inl (List.eq_nil_of_length_eq_zero (by have := h.1; omega))
  · injection hv with a b c2
    subst a
    refine .inr ⟨g, 0, rfl, (Array.getElem?_eq_some_iff.1 hg).1, fun i u hu => ?_⟩
    rw [Nat.zero_add, cell_of_row w g i _ _ _ hg]
    have hi : i < l.length := (List.getElem?_eq_some_iff.1 hu).1
    have h1 := h.1
    rw [← ht, List.getElem?_take_of_lt (by omega)] at hu
    simpa using hu
theorem recs_no {l : List UInt8} (h : Wl.row1 l = none) : Wl.recs (Wl.rows l) = [] := by rw [Wl.rows_none h]; rfl
theorem recs_row {l t r : List UInt8} (h : Wl.row1 l = some (t, r)) : Wl.recs (Wl.rows l) = (match Wl.record t with | some x => x :: Wl.recs (Wl.rows r) | none => []) := by
  obtain ⟨h1, rfl⟩ := (Wl.row1_iff _ _ _).1 h
  rw [Wl.rows_cons h1]
  rfl
theorem recs_len : ∀ (T : List (List UInt8)), (Wl.recs T).length ≤ T.length
  | [] => Nat.le_refl _
  | t :: T => by
    unfold Wl.recs
    split
    · simpa using recs_len T
    · simp
theorem row1_len {l t r : List UInt8} (h : Wl.row1 l = some (t, r)) : t.length + r.length + 5 ≤ l.length ∧ t.length ≤ l.length := by
  obtain ⟨_, rfl⟩ := (Wl.row1_iff _ _ _).1 h
  unfold Wl.row
  simp only [List.length_append, Nm.wid_length, Nm.grp_length]
  omega
set_option maxRecDepth 100000 in
set_option maxHeartbeats 2000000 in
theorem readRecords_any (W : World) (g o : Nat) (s : ByteArray) (ht : TabO W g o Cr.tab) (hs : s.size ≤ 100000000) :
    Calls Tryz.prog 99 #[.pointer (some ⟨g, o, none⟩), .string s] W fun e w' => ∃ A cap, e = .returned (.slice A (Wl.recs (Wl.rows s.data.toList)).length cap) ∧ w'.ownsRow W.heap.size 90 16 (.slice A (Wl.recs (Wl.rows s.data.toList)).length cap) (Wl.recs (Wl.rows s.data.toList)).length (wrs (Wl.recs (Wl.rows s.data.toList))) ∧ Below W.heap.size W w' := by
  obtain ⟨i0, hi, hz0, hz1, hz2⟩ := info_parts infoRec
  obtain ⟨L, hL⟩ : ∃ L, L = Wl.recs (Wl.rows s.data.toList) := ⟨_, rfl⟩
  rw [← hL]
  have HLl := Lib.hid hL
  have HT := Lib.hid ht
  clear ht hL
  go_enter Tryz.func99, Tryz.ntmps99
  go_wp2_with fail
  go_loopw [1, 5] (fun v u wr => ∃ (x : ByteArray) (done : List Wl.R), v = .string x ∧ x.size ≤ s.size ∧ L = done ++ Wl.recs (Wl.rows x.data.toList) ∧ 5 * done.length + x.size ≤ s.size ∧ wr.ownsRow W.heap.size 90 16 u done.length (wrs done) ∧ Below W.heap.size W wr) (fun v _ _ => szOf v)
  case atStart => exact ⟨s, [], rfl, Nat.le_refl _, by rw [HLl.out]; rfl, by simp, World.ownsRow_nil _ _ _ _, Below.refl _ _⟩
  case round =>
    obtain ⟨x, done, rfl, hx, hLx, hdl, hown, hb⟩ := hrel
    obtain ⟨B, cb, rfl, _⟩ := own_slice hown
    have HR := Lib.hid (readRow_any wr g o x (HT.out.below hb) (by omega))
    have HO := Lib.hid (And.intro hown hb)
    clear hown hb
    rcases h1 : Wl.row1 x.data.toList with _ | ⟨t, r⟩
    · rw [h1] at HR
      have E : Hid (L = done) := Lib.hid (by rw [hLx, recs_no h1, List.append_nil])
      unfold RowV at HR
      clear h1 hLx
      go_wp2_with fail
      refine HR.out.mono ?_
      rintro e w1 ⟨rfl, hb1⟩
      go_wp2_with fail
      go_ret
      rw [E.out]
      exact ⟨_, _, rfl, own_kept HO.out.1 fun k hk => hb1.block k (own_lt HO.out.1 hk).1, bnext HO.out.2 hb1⟩
    have hrl := row1_len h1
    rw [← Lib.size_eq] at hrl
    have hrr := recs_row h1
    obtain ⟨hml, hme⟩ := row1_drop h1
    rw [h1] at HR
    unfold RowV at HR
    obtain ⟨tb, htb⟩ : ∃ tb, tb = Wl.ba t := ⟨_, rfl⟩
    obtain ⟨rb, hrb⟩ : ∃ rb, rb = Wl.ba r := ⟨_, rfl⟩
    obtain ⟨m, hm⟩ : ∃ m, m = (Wl.row t).length := ⟨_, rfl⟩
    have hm5 : 5 ≤ m := by rw [hm]; exact Wl.row_len t
    rw [← hm] at hml hme
    rw [← hrb] at hme
    have Hme := Lib.hid hme
    have hm2 : (m : Int) ≤ (x.size : Int) := by omega
    have htd : tb.data.toList = t := by rw [htb, Wl.ba_data]
    have hrd : rb.data.toList = r := by rw [hrb, Wl.ba_data]
    have htz : tb.size = t.length := by rw [htb, Wl.ba_size]
    have hrz : rb.size = r.length := by rw [hrb, Wl.ba_size]
    simp only [← htb, ← hm] at HR
    have HRec := Lib.hid (fun W2 => readRecord_any W2 tb (by omega))
    rw [htd] at HRec
    have htz2 : tb.size ≤ 100000000 := by omega
    clear h1 htb hrb hm hme
    rcases h2 : Wl.record t with _ | y
    · rw [h2] at HRec hrr
      have E : Hid (L = done) := Lib.hid (by rw [hLx, hrr, List.append_nil])
      have hst := storeRec (recC Wl.rzero) rfl (recF Wl.rzero).one
      unfold RecV at HRec
      clear h2 hrr hLx htd hrd
      go_wp2_with fail
      refine HR.out.mono ?_
      rintro e w1 ⟨rfl, hb1⟩
      have H1 := Lib.hid hb1
      clear hb1
      go_wp2_with fail
      refine (HRec.out _).mono ?_
      rintro e w2 ⟨rfl, hb2⟩
      have H2 := Lib.hid (bnext H1.out hb2)
      clear hb2
      go_wp2_with fail
      go_ret
      rw [E.out]
      exact ⟨_, _, rfl, own_kept HO.out.1 fun k hk => (bnew H2.out _).block k (own_lt HO.out.1 hk).1, bnext HO.out.2 (bnew H2.out _)⟩
    · rw [h2] at HRec hrr
      have E : Hid (L = (done ++ [y]) ++ Wl.recs (Wl.rows rb.data.toList)) := Lib.hid (by rw [hLx, hrr, hrd, List.append_assoc]; rfl)
      have hst := storeRec (recC y) rfl (recF y).one
      unfold RecV at HRec
      unfold recC at hst HRec
      clear h2 hrr hLx htd hrd
      go_wp2_with fail
      refine HR.out.mono ?_
      rintro e w1 ⟨rfl, hb1⟩
      have H1 := Lib.hid hb1
      clear hb1
      go_wp2_with fail
      refine (HRec.out _).mono ?_
      rintro e w2 ⟨rfl, hb2⟩
      have H2 := Lib.hid (bnext H1.out hb2)
      clear hb2
      have HO3 : Hid (((w2.alloc (.cells (wr1 y).toArray 90)).alloc (.cells (wr1 y).toArray 90)).ownsRow W.heap.size 90 16 (.slice B done.length cb) done.length (wrs done) ∧ Below W.heap.size W ((w2.alloc (.cells (wr1 y).toArray 90)).alloc (.cells (wr1 y).toArray 90)) ∧ W.heap.size ≤ ((w2.alloc (.cells (wr1 y).toArray 90)).alloc (.cells (wr1 y).toArray 90)).heap.size) := Lib.hid (by
        have hb3 := bnext HO.out.2 (bnew (bnew H2.out (.cells (wr1 y).toArray 90)) (.cells (wr1 y).toArray 90))
        exact ⟨own_kept HO.out.1 fun k hk => (bnew (bnew H2.out (.cells (wr1 y).toArray 90)) (.cells (wr1 y).toArray 90)).block k (own_lt HO.out.1 hk).1, hb3, hb3.size⟩)
      have HNw : Hid (∀ j u, (wr1 y)[j]? = some u → ((w2.alloc (.cells (wr1 y).toArray 90)).alloc (.cells (wr1 y).toArray 90)).cell? ((⟨w2.heap.size + 1, 0, none⟩ : Addr).add j) = some u) := Lib.hid (by
        have := news_fl (w2.alloc (.cells (wr1 y).toArray 90)) (wr1 y) 90
        rw [World.size_alloc] at this
        exact this)
      go_wp2_with (at_builtin; refine wpList_app_own rfl (.tmp 28) (.tmp 30) 42 rfl W.heap.size 90 i0 (.agg (recC Wl.rzero)) 16 72 Tryz.underlying42 hi hz0 hz1 hz2 rfl (by decide) _ _ _ rfl HO3.out.1 ⟨w2.heap.size + 1, 0, none⟩ 1 1 (wr1 y) rfl rfl HNw.out (wr1_one y) (by simp only [maxLen]; omega) (by omega) HO3.out.2.2 ?_)
      intro v' w5 ho5 hg5 hn5
      have HF : Hid (w5.ownsRow W.heap.size 90 16 v' (done ++ [y]).length (wrs (done ++ [y])) ∧ Below W.heap.size W w5) := Lib.hid (by
        rw [List.length_append, List.length_singleton, wrs_snoc]
        refine ⟨ho5, ?_⟩
        exact HO3.out.2.1.grown hg5 HO3.out.2.2 (fun j hj => (own_lt HO.out.1 hj).2))
      clear ho5 hg5 hn5
      go_wp2_with fail
      go_roundw
      case rel => exact ⟨rb, done ++ [y], congrArg Value.string Hme.out, by omega, E.out, by rw [List.length_append, List.length_singleton]; omega, HF.out.1, HF.out.2⟩
      case measure => simp [szOf]; omega
end Go.Proofs.YtjhbpcecdhdnoaaGreatDoor
namespace Go.Proofs.YtjhbpcecdhdnoaaGreatDoor
open Go.RowKit
theorem own_one16 (W : World) (r : Wl.R) : (W.alloc (.cells (wr1 r).toArray 90)).ownsRow W.heap.size 90 16 (.slice (some ⟨W.heap.size, 0, none⟩) 1 1) 1 (wrs [r]) :=
  ⟨by rw [wrs_length]; rfl, .inr ⟨W.heap.size, 1, (wr1 r).toArray, rfl, Nat.le_refl _, heap_alloc_new W _, Nat.le_refl _, by decide, rfl, by simp [wrs, wr1]⟩⟩
set_option maxRecDepth 100000 in
set_option maxHeartbeats 4000000 in
theorem base_any (k : St.K) (A : Option Addr) (c : Nat) (w : World) (hA : Lies w A (ec k.ents)) (hn : k.ents.length ≤ 1000000) :
    Calls Tryz.prog 127 #[.agg (kC k (.slice A k.ents.length c))] w fun e w' => ∃ B cb, e = .returned (.slice B (St.base k).length cb) ∧ w'.ownsRow w.heap.size 90 16 (.slice B (St.base k).length cb) (St.base k).length (wrs (St.base k)) ∧ Below w.heap.size w w' := by
  obtain ⟨i0, hi, hz0, hz1, hz2⟩ := info_parts infoRec
  have HI0 := Lib.hid (And.intro hi (And.intro hz0 (And.intro hz1 hz2)))
  have HA := Lib.hid hA
  obtain ⟨n, hnn⟩ : ∃ n, n = k.ents.length := ⟨_, rfl⟩
  have Hn := Lib.hid hnn
  have HL : Hid (St.base k = ⟨2, k.trm, k.vote, En.zero⟩ :: (k.ents.take n).map St.rent ∧ (St.base k).length = n + 1) := Lib.hid (by rw [hnn, List.take_of_length_le (Nat.le_refl _), St.base_length]; exact ⟨rfl, rfl⟩)
  have HO1 := Lib.hid (fun W : World => own_one16 W ⟨2, k.trm, k.vote, En.zero⟩)
  unfold kC
  rw [HL.out.2]
  rw [← hnn] at hn ⊢
  clear hA hnn hi hz0 hz1 hz2
  go_enter Tryz.func127, Tryz.ntmps127
  go_upto_region 3 with (fail)
  refine forget (fun W => Bl w W ∧ W.ownsRow (w.heap.size + 1) 90 16 (.slice (some ⟨w.heap.size + 1, 0, none⟩) 1 1) 1 (wrs [⟨2, k.trm, k.vote, En.zero⟩])) ⟨((Bl.refl w).alloc _).alloc _, by have := HO1.out (w.alloc (.cells #[.int .u64 (k.trm : Int), .int .u8 (k.vote : Int), .int .u64 (k.snap.idx : Int), .int .u64 (k.snap.trm : Int), .int .u8 (k.snap.mem : Int), .string (St.sx k.snap 0), .string (St.sx k.snap 1), .string (St.sx k.snap 2), .string (St.sx k.snap 3), .string (St.sx k.snap 4), .slice A n c] 58)); rw [World.size_alloc] at this; exact this⟩ ?_
  intro W1 H1
  have HI := Lib.hid H1
  clear H1 HO1
  go_loopw [3, 15] (fun u v wr => ∃ i : Nat, i ≤ n ∧ v = .int .i64 (i : Int) ∧ Bl w wr ∧ wr.ownsRow (w.heap.size + 1) 90 16 u (i + 1) (wrs (⟨2, k.trm, k.vote, En.zero⟩ :: (k.ents.take i).map St.rent))) (fun _ v _ => n - (intOf v).toNat)
  case atStart => exact ⟨0, by omega, rfl, HI.out.1, HI.out.2⟩
  case round =>
    obtain ⟨i, hi, rfl, h1, h2⟩ := hrel
    obtain ⟨B, cb, rfl, _⟩ := own_slice h2
    have HJ := Lib.hid (And.intro h1 h2)
    by_cases hlt : i < n
    · have hin : i < k.ents.length := by rw [← Hn.out]; exact hlt
      obtain ⟨b, off, rfl, hE⟩ := (HA.out.below h1.bel).ent i hin
      obtain ⟨hbl, c0, c1, c2, c3, c4, c5, c6, c7, c8, c9, c10, c11, c12⟩ := hE
      have HT : Hid ((k.ents.take (i + 1)).map St.rent = (k.ents.take i).map St.rent ++ [St.rent k.ents[i]]) := Lib.hid (by rw [List.take_add_one, List.getElem?_eq_getElem hin, Option.toList_some, List.map_append]; rfl)
      obtain ⟨e, he⟩ : ∃ e, e = k.ents[i] := ⟨_, rfl⟩
      rw [← he] at HT c0 c1 c2 c3 c4 c5 c6 c7 c8 c9 c10 c11 c12
      clear h1 h2 he
      go_upto_region 5 with (fail)
      refine forget (fun W => Bl w W ∧ W.ownsRow (w.heap.size + 1) 90 16 (.slice B (i + 1) cb) (i + 1) (wrs (⟨2, k.trm, k.vote, En.zero⟩ :: (k.ents.take i).map St.rent)) ∧ Rw W wr.heap.size (entC e) 88) ?_ ?_
      · exact ⟨HJ.out.1.alloc _, own_kept HJ.out.2 fun j hj => Below.heap_alloc wr _ j (by have := (own_lt HJ.out.2 hj).1; omega), Rw.new wr _ _⟩
      intro W5 H5
      obtain ⟨gb, hgb5⟩ : ∃ gb, gb = wr.heap.size := ⟨_, rfl⟩
      rw [← hgb5] at H5 ⊢
      obtain ⟨c0, c1, c2, c3, c4, c5, c6, c7, c8, c9, c10, c11, c12, _⟩ := entAt H5.2.2
      have hW5 : w.heap.size + 1 ≤ W5.heap.size := by
        have h2 := H5.2.2.lt
        have := HJ.out.1.le
        omega
      have HK : Hid (Bl w (W5.alloc (.cells (wr1 (St.rent e)).toArray 90)) ∧ (W5.alloc (.cells (wr1 (St.rent e)).toArray 90)).ownsRow (w.heap.size + 1) 90 16 (.slice B (i + 1) cb) (i + 1) (wrs (⟨2, k.trm, k.vote, En.zero⟩ :: (k.ents.take i).map St.rent)) ∧ w.heap.size + 1 ≤ (W5.alloc (.cells (wr1 (St.rent e)).toArray 90)).heap.size) := Lib.hid
        ⟨H5.1.alloc _, own_kept H5.2.1 fun j hj => Below.heap_alloc W5 _ j (by have := (own_lt H5.2.1 hj).1; omega), by rw [World.size_alloc]; omega⟩
      have HNw := Lib.hid (news_fl W5 (wr1 (St.rent e)) 90)
      clear H5 HJ hgb5
      go_wp2_with (at_builtin; refine wpList_app_own rfl (.tmp 19) (.tmp 22) 42 rfl (w.heap.size + 1) 90 i0 (.agg (recC Wl.rzero)) 16 72 Tryz.underlying42 HI0.out.1 HI0.out.2.1 HI0.out.2.2.1 HI0.out.2.2.2 rfl (by decide) _ _ _ rfl HK.out.2.1 ⟨W5.heap.size, 0, none⟩ 1 1 (wr1 (St.rent e)) rfl rfl HNw.out (wr1_one (St.rent e)) (by simp only [maxLen]; omega) (by omega) HK.out.2.2 ?_)
      intro v' w6 ho6 hg6 hn6
      have HF : Hid (w6.ownsRow (w.heap.size + 1) 90 16 v' (i + 1 + 1) (wrs (⟨2, k.trm, k.vote, En.zero⟩ :: (k.ents.take (i + 1)).map St.rent)) ∧ Bl w w6) := Lib.hid (by
        rw [HT.out, ← List.cons_append, wrs_snoc]
        refine ⟨by first | exact ho6 | (rw [List.map_take]; exact ho6), ?_⟩
        exact Below.grown HK.out.1 hg6 HK.out.1.le (fun j hj => by have := (own_lt HK.out.2.1 hj).2; omega))
      clear ho6 hg6 hn6 c0 c1 c2 c3 c4 c5 c6 c7 c8 c9 c10 c11 c12
      go_wp2_with fail
      go_roundw
      case rel => exact ⟨i + 1, by omega, by go_num, HF.out.2, HF.out.1⟩
      case measure => simp [intOf]; omega
    · obtain rfl : i = n := by omega
      clear h1 h2
      go_wp2_with fail
      go_ret
      exact ⟨B, cb, rfl, by rw [HL.out.1]; exact own_mono HJ.out.2 (by omega), HJ.out.1⟩
end Go.Proofs.YtjhbpcecdhdnoaaGreatDoor
namespace Go.Proofs.YtjhbpcecdhdnoaaGreatDoor
open Go.RowKit
theorem dm_infoInt : (Tryz.prog.info? 3).map (fun i => (i.zero, i.size, i.bytes)) = some (some (.int .i64 0), 1, 8) := by kernel_rfl
theorem own_cells {w : World} {e : TypeId} {A : Option Addr} {n c : Nat} {xs : List Value} (h : w.ownsRow 0 e 1 (.slice A n c) n xs) : (A = none ∧ n = 0 ∧ c = 0 ∧ xs = []) ∨ ∃ g, A = some ⟨g, 0, none⟩ ∧ ∀ j u, xs[j]? = some u → w.cell? ((⟨g, 0, none⟩ : Addr).add j) = some u := by
  rcases h.2 with ⟨hv, hn⟩ | ⟨g, cap, cur, hv, _⟩
  · injection hv with a b c2
    subst hn
    exact .inl ⟨a, rfl, c2, List.eq_nil_of_length_eq_zero (by have := h.1; omega)⟩
  · injection hv with a b c2
    subst a
    exact .inr ⟨g, rfl, h.cells (g := g) rfl⟩
theorem bytes_nil (W : World) : Sem.run Tryz.prog (binOp BinOp.eql 141 (.slice none 0 0) (.slice none 0 0)) W = .ok (.bool true) W := by kernel_rfl
theorem bytes_some (g n c : Nat) (W : World) : Sem.run Tryz.prog (binOp BinOp.eql 141 (.slice (some ⟨g, 0, none⟩) n c) (.slice none 0 0)) W = .ok (.bool false) W := by kernel_rfl
theorem ic_one (l : List Int) : ∀ u ∈ ic l, u.oneCell' = true := fun u hu => by
  obtain ⟨n, _, rfl⟩ := List.mem_map.1 hu; rfl
set_option maxRecDepth 100000 in
set_option maxHeartbeats 1000000 in
theorem cloneB_any (w : World) (A : Option Addr) (n c : Nat) (s : ByteArray) (hs : s.size = n) (h : (A = none ∧ n = 0 ∧ c = 0) ∨ ∃ g, A = some ⟨g, 0, none⟩ ∧ ∀ j u, (Lib.strCells s)[j]? = some u → w.cell? ((⟨g, 0, none⟩ : Addr).add j) = some u) (hn : n ≤ 1000000000) :
    Calls Tryz.prog 137 #[.slice A n c] w fun e w' => ∃ A' c', e = .returned (.slice A' n c') ∧ w'.ownsRow w.heap.size 5 1 (.slice A' n c') n (Lib.strCells s) ∧ Below w.heap.size w w' := by
  obtain ⟨i0, hi, hz0, hz1, hz2⟩ := info_parts Tryz.infoByte
  have hl : (Lib.strCells s).length = n := by rw [Lib.strCells_length, hs]
  rcases h with ⟨rfl, rfl, rfl⟩ | ⟨g, rfl, hc⟩
  · have HE : Hid (w.ownsRow w.heap.size 5 1 (.slice none 0 0) 0 (Lib.strCells s)) := Lib.hid ⟨by omega, .inl ⟨rfl, rfl⟩⟩
    clear hl hs hn
    have q0 := bytes_nil
    go_enter Tryz.func137, Tryz.ntmps137
    go_wp2_with fail
    go_ret
    exact ⟨none, 0, rfl, HE.out, Below.refl _ _⟩
  · have Hc : Hid (∀ j u, (Lib.strCells s)[j]? = some u → (w.alloc (.cells #[] 5)).cell? ((⟨g, 0, none⟩ : Addr).add j) = some u) := Lib.hid fun j u hu => by
      have := hc j u hu
      exact later (bnew (Below.refl _ _) _) this
    have HL := Lib.hid (And.intro hl hn)
    clear hc hl hs
    have q0 := bytes_some g n c
    go_enter Tryz.func137, Tryz.ntmps137
    go_wp2_with (at_builtin; refine wpList_app_own rfl (.tmp 5) (.tmp 6) 141 rfl w.heap.size 5 i0 (.int .u8 0) 1 1 Tryz.underlying141 hi hz0 hz1 hz2 rfl (by decide) _ _ _ rfl (own_empty w 5) ⟨g, 0, none⟩ n c (Lib.strCells s) rfl (by have := HL.out.1; omega) Hc.out (Lib.strCells_oneCell s) (by simp only [maxLen]; omega) (by omega) (by simp) ?_)
    intro v' w' ho hg hn'
    obtain ⟨A', c', rfl, _⟩ := own_slice ho
    have HO : Hid (w'.ownsRow w.heap.size 5 1 (.slice A' n c') n (Lib.strCells s)) := Lib.hid (by exact ho)
    have HB : Hid (Below w.heap.size w w') := Lib.hid ((bnew (Below.refl _ _) _).grown hg (by simp) (fun j hj => (own_lt (own_empty w 5) hj).2))
    clear ho hg hn'
    go_wp2_with fail
    go_ret
    exact ⟨A', c', rfl, HO.out, HB.out⟩
end Go.Proofs.YtjhbpcecdhdnoaaGreatDoor
namespace Go.Proofs.YtjhbpcecdhdnoaaGreatDoor
open Go.RowKit
theorem DmAt.lt {W : World} {p : Nat} {S : Nat → Prop} {d : Dk.D} (h : DmAt W p S d) (k : Nat) (hk : S k) : k < W.heap.size := by
  obtain ⟨mb, hs, h1, h2⟩ := h
  exact h1.lt ((h2 k).1 hk)
theorem DmAt.stays {W W' : World} {p : Nat} {S : Nat → Prop} {d : Dk.D} (h : DmAt W p S d) (hk : ∀ k, S k → W'.heap[k]? = W.heap[k]?) : DmAt W' p S d := by
  obtain ⟨mb, hs, h1, h2⟩ := h
  exact ⟨mb, hs, h1.stays fun k h3 => hk k ((h2 k).2 h3), h2⟩
theorem DmAt.head {W : World} {p : Nat} {S : Nat → Prop} {d : Dk.D} (h : DmAt W p S d) : ∃ mb, HAt W p mb d.left d.off := by
  obtain ⟨mb, hs, h1, _⟩ := h
  exact ⟨mb, h1.head⟩
theorem DmAt.atp {W : World} {p : Nat} {S : Nat → Prop} {d : Dk.D} (h : DmAt W p S d) : S p := by
  obtain ⟨mb, hs, h1, h2⟩ := h
  exact (h2 p).2 (.inl rfl)
theorem DmAt.heads {W W' : World} {p mb : Nat} {S : Nat → Prop} {d : Dk.D} {left left' : Nat} {off off' : Bool} (h : DmAt W p S d) (h0 : HAt W p mb left off) (hk : Ko (atB p) W W') (hh : HAt W' p mb left' off') (hl : left' ≤ 9223372036854775807) : Now DmAt W W' p S ⟨d.files, off', left'⟩ := by
  have hp := h.atp
  obtain ⟨mb', hs, h1, h2⟩ := h
  have : mb' = mb := by
    have e := h1.head.c0
    rw [h0.c0] at e
    simpa using e.symm
  subst this
  exact ⟨⟨S, ⟨_, hs, h1.heads hk hh hl, h2⟩, fun _ hk => .inl hk⟩, hk.mono fun k _ hk => by rw [show k = p from hk]; exact hp⟩
theorem make_map (W : World) : Sem.run Tryz.prog (Instr.makeMap 118 none) W = .ok (.map (some W.heap.size)) (W.alloc (.map #[] 0)) := by kernel_rfl
set_option maxRecDepth 100000 in
theorem dNew_any (W : World) : Calls Tryz.prog 13 #[] W fun e w' => ∃ p S, e = .returned (.pointer (some ⟨p, 0, none⟩)) ∧ DmAt w' p S Dk.D.new ∧ (∀ k, S k → W.heap.size ≤ k) ∧ Below W.heap.size W w' := by
  have HE : Hid (DkS ((W.alloc (.map #[] 0)).alloc (.cells #[.map (some W.heap.size), .int .i64 0, .bool false] 120)) (W.heap.size + 1) W.heap.size [] Dk.D.new) := Lib.hid
    ⟨(by
      have := heap_alloc_new (W.alloc (.map #[] 0)) (.cells #[.map (some W.heap.size), .int .i64 0, .bool false] 120 (0, 0))
      simpa [HAt, Dk.D.new] using this),
    (SMap.made Tryz.prog 9 W).kept (by
      exact (Below.refl (W.heap.size + 1) (W.alloc (.map #[] 0))).alloc (by simp) _ |>.block _ (by omega)),
    (fun _ h => by cases h), rfl, (fun _ h => by cases h), Dk.inv_new, by simp [Dk.load, Dk.D.new, Dk.fsLoad], by simp [Dk.D.new]⟩
  have HB : Hid (Below W.heap.size W ((W.alloc (.map #[] 0)).alloc (.cells #[.map (some W.heap.size), .int .i64 0, .bool false] 120))) := Lib.hid (bnew (bnew (Below.refl _ _) _) _)
  have hm := make_map
  go_enter Tryz.func13, Tryz.ntmps13
  go_wp2_with fail
  go_ret
  refine ⟨W.heap.size + 1, Bks (W.heap.size + 1) W.heap.size [], rfl, DmAt.mk HE.out, ?_, HB.out⟩
  rintro k (rfl | rfl | ⟨g, hg, _⟩)
  · omega
  · omega
  · cases hg
set_option maxRecDepth 100000 in
theorem dFuse_any (W : World) (p : Nat) (S : Nat → Prop) (d : Dk.D) (n : Int) (h : DmAt W p S d) (hn : -9223372036854775808 ≤ n ∧ n ≤ 9223372036854775807) :
    Calls Tryz.prog 38 #[.pointer (some ⟨p, 0, none⟩), .int .i64 n] W fun e w' => e = .returned (.tuple #[]) ∧ Now DmAt W w' p S (Dk.fuse d n) := by
  obtain ⟨mb, hh⟩ := h.head
  have H := Lib.hid (isMade_any W p mb _ _ hh)
  have f1 := hh.f1
  have c1 := hh.c1
  obtain ⟨hn1, hn2⟩ := hn
  by_cases h0 : n ≤ 0
  · have q1 : decide ((0 : Int) < n) = false := by simpa using h0
    have q2 : decide (n < 0) = true ∨ n = 0 := by simp; omega
    have q3 : max n 0 = 0 := by omega
    have HE : Hid (Now DmAt W (W.setCell ⟨p, 1, none⟩ (.int .i64 0)) p S (Dk.fuse d n)) := Lib.hid (by
      have := h.heads (off' := d.off) (left' := n.toNat) hh ((Ko.refl _ _).set (show atB p p from rfl) 1 (.int .i64 0)) (hh.set1 0 n.toNat (by omega)) (by omega)
      exact this)
    clear h hh
    go_enter Tryz.func38, Tryz.ntmps38
    go_wp2_with fail
    refine (H.out).mono ?_
    rintro e w1 ⟨rfl, rfl⟩
    go_wp2_with fail
    go_end0
    exact ⟨rfl, HE.out⟩
  · have q1 : decide ((0 : Int) < n) = true := by simp; omega
    have q3 : max n 0 = n := by omega
    have HE : Hid (Now DmAt W (W.setCell ⟨p, 1, none⟩ (.int .i64 n)) p S (Dk.fuse d n)) := Lib.hid (by
      have := h.heads (off' := d.off) (left' := n.toNat) hh ((Ko.refl _ _).set (show atB p p from rfl) 1 (.int .i64 n)) (hh.set1 n n.toNat (by omega)) (by omega)
      exact this)
    clear h hh
    go_enter Tryz.func38, Tryz.ntmps38
    go_wp2_with fail
    refine (H.out).mono ?_
    rintro e w1 ⟨rfl, rfl⟩
    go_wp2_with fail
    go_end0
    exact ⟨rfl, HE.out⟩
set_option maxRecDepth 100000 in
theorem dStart_any (W : World) (p : Nat) (S : Nat → Prop) (d : Dk.D) (h : DmAt W p S d) :
    Calls Tryz.prog 39 #[.pointer (some ⟨p, 0, none⟩)] W fun e w' => e = .returned (.tuple #[]) ∧ Now DmAt W w' p S (Dk.start d) := by
  have hleft : d.left ≤ 9223372036854775807 := by obtain ⟨_, _, h1, _⟩ := h; exact h1.left
  obtain ⟨mb, hh⟩ := h.head
  have H := Lib.hid (isMade_any W p mb _ _ hh)
  have f2 := hh.f2
  have c2 := hh.c2
  have HE : Hid (Now DmAt W (W.setCell ⟨p, 2, none⟩ (.bool false)) p S (Dk.start d)) := Lib.hid (h.heads (left' := d.left) hh ((Ko.refl _ _).set (show atB p p from rfl) 2 (.bool false)) (hh.set2 false) hleft)
  clear h hh hleft
  go_enter Tryz.func39, Tryz.ntmps39
  go_wp2_with fail
  refine (H.out).mono ?_
  rintro e w1 ⟨rfl, rfl⟩
  go_wp2_with fail
  go_end0
  exact ⟨rfl, HE.out⟩
set_option maxRecDepth 100000 in
theorem dDown_any (W : World) (p : Nat) (S : Nat → Prop) (d : Dk.D) (h : DmAt W p S d) :
    Calls Tryz.prog 72 #[.pointer (some ⟨p, 0, none⟩)] W fun e w' => e = .returned (.bool d.off) ∧ Below W.heap.size W w' := by
  obtain ⟨mb, hh⟩ := h.head
  have H := Lib.hid (isMade_any W p mb _ _ hh)
  have c2 := hh.c2
  clear h hh
  go_enter Tryz.func72, Tryz.ntmps72
  go_wp2_with fail
  refine (H.out).mono ?_
  rintro e w1 ⟨rfl, rfl⟩
  go_wp2_with fail
  go_ret
  exact ⟨rfl, Below.refl _ _⟩
end Go.Proofs.YtjhbpcecdhdnoaaGreatDoor
