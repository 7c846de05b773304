/-
  wal's readState, readEntry and readRecord walked.
  wal's readEntry walked.
  wal's readRecord walked.
  wal.readRecords walked.
-/
import Derived.Test.YtdcjhpnakbejkaaGreatDoorRWwR
import Derived.Test.YtdcjhpnakbejkaaGreatDoorREnR
import Derived.Test.YtdcjhpnakbejkaaGreatDoorRWrB
import Derived.Test.YtdcjhpnakbejkaaGreatDoorRDkB
import Derived.Test.YtdcjhpnakbejkaaGreatDoorRBld
import Derived.Test.YtdcjhpnakbejkaaGreatDoorRDkO
import Derived.Test.YtdcjhpnakbejkaaGreatDoorRDmA
import Derived.Test.YtdcjhpnakbejkaaGreatDoorRWrN
import Derived.OwnWalk
set_option linter.unusedSimpArgs false
set_option linter.unusedVariables false
namespace Go.Proofs.YtdcjhpnakbejkaaGreatDoor
open Go.RowKit
namespace Wl
def rzero : R := ⟨0, 0, 0, En.zero⟩
def stateP (l : List UInt8) : Option R := (Cm.rdV l).bind fun (n, l) => (Cm.rdB l).bind fun (v, l) => if l = [] then some ⟨2, n, v, En.zero⟩ else none
def entryP (l : List UInt8) : Option R := (En.read l).bind fun e => some ⟨3, 0, 0, e⟩
theorem record_eq (s : List UInt8) : record s = (Cm.rdB s).bind fun (k, l) => if k = 2 then stateP l else if k = 3 then entryP l else none := rfl
end Wl
/-- What a reader of records hands back. -/
def RecV (o : Option Wl.R) : Value := match o with
  | some r => .tuple #[.agg (recC r), .bool true]
  | none => .tuple #[.agg (recC Wl.rzero), .bool false]
theorem rlay (z r : Wl.R) : lay (recC z) 0 (recC r).toList = recC r := by simp [lay, recC]
def Rc (W : World) (g : Nat) (r : Wl.R) : Prop := W.heap[g]? = some (.cells (recC r) 62 (0, 0))
theorem Rc.store {W : World} {g : Nat} {z : Wl.R} (h : Rc W g z) (r : Wl.R) : Rc (W.setCells g 0 (recC r).toList) g r := by
  have := row_setCells (recC r).toList 0 W _ h
  rw [rlay] at this
  exact this
theorem recC_one (r : Wl.R) : (recC r).all (·.oneCell') = true := (recF r).one
theorem state_no {s : ByteArray} (h : Nm.readV s.data.toList = none) : Wl.stateP s.data.toList = none := by
  unfold Wl.stateP Cm.rdV; rw [h]; rfl
theorem state_bad {s : ByteArray} {n k : Nat} (h : Nm.readV s.data.toList = some (n, k)) (hk : k ≤ s.size) (h1 : s.size ≠ k + 1) : Wl.stateP s.data.toList = none := by
  unfold Wl.stateP
  rw [rdV_ext, h]
  simp only [Option.bind_some]
  obtain ⟨y, hy⟩ : ∃ y, y = s.extract k s.size := ⟨_, rfl⟩
  rw [← hy]
  have hz : y.size = s.size - k := by rw [hy, ByteArray.size_extract]; omega
  by_cases h0 : y.size = 0
  · rw [rdB_no h0]; rfl
  · rw [rdB_ext (by omega)]
    simp only [Option.bind_some, nil_iff y 1 (by omega)]
    rw [if_neg (by omega)]
theorem state_good {s : ByteArray} {n k : Nat} (h : Nm.readV s.data.toList = some (n, k)) (hks : k < s.size) (h1 : s.size = k + 1) : Wl.stateP s.data.toList = some ⟨2, n, s[k].toNat, En.zero⟩ := by
  unfold Wl.stateP
  have hd := drop_cons s k (by omega)
  have e : s.data.toList.drop (k + 1) = [] := List.drop_eq_nil_of_le (by rw [← Lib.size_eq]; omega)
  rw [e] at hd
  unfold Cm.rdV
  rw [h]
  simp only [Option.bind_some]
  rw [hd]
  simp [Cm.rdB]
set_option maxRecDepth 100000 in
set_option maxHeartbeats 4000000 in
theorem wreadState_any (W : World) (s : ByteArray) (hs : s.size ≤ 100000000) :
    Calls Tryz.prog 217 #[.string s] W fun e w' => e = .returned (RecV (Wl.stateP s.data.toList)) ∧ Below W.heap.size W w' := by
  have hres := results_ct (P := Tryz.prog) (fn := Tryz.f217) rfl
  have hr0 : Rc (W.alloc (.cells (recC Wl.rzero) 62)) W.heap.size Wl.rzero := heap_alloc_new W _
  have hb0 : Below W.heap.size W (W.alloc (.cells (recC Wl.rzero) 62)) := bnew (Below.refl _ _) _
  have HH := Lib.hid (And.intro hr0 hb0)
  clear hr0 hb0
  obtain ⟨W0, hW0⟩ : ∃ W0, W0 = W.alloc (.cells (recC Wl.rzero) 62) := ⟨_, rfl⟩
  rw [← hW0] at HH
  have HV := Lib.hid (ReadV_any s W0 (by omega))
  rcases hv : Nm.readV s.data.toList with _ | ⟨n, k⟩
  · have E := Lib.hid (state_no hv)
    rw [hv] at HV
    unfold rv at HV
    clear hv
    go_enter Tryz.func217, Tryz.ntmps217
    go_wp2_with fail
    refine (show Calls Tryz.prog 148 #[.string s] (W.alloc (.cells (recC Wl.rzero) 62)) _ by rw [← hW0]; exact HV.out).mono ?_
    clear hW0
    rintro e w1 ⟨rfl, rfl⟩
    go_wp2_with (refine wpList_store_sub rfl 62 _ _ rfl W.heap.size 0 rfl 62 (recC Wl.rzero) (recC Wl.rzero) rfl HH.out.1 (Nat.le_refl _) sizeRec (recC_one _) ?_)
    refine bodyPost_ret (hres _ _ W.heap.size 62 (recC Wl.rzero) (0, 0) _ rfl (HH.out.1.store Wl.rzero) Tryz.underlying62 rfl sizeRec) rfl ⟨by rw [E.out]; rfl, setCells_below (Nat.le_refl _) _ _ _ HH.out.2⟩
  obtain ⟨hn, hk⟩ := readV_le hv
  rw [← Lib.size_eq] at hk
  rw [hv] at HV
  unfold rv at HV
  by_cases h1 : s.size = k + 1
  · have hks : k < s.size := by omega
    have E := Lib.hid (state_good hv hks h1)
    have d1 : ((s.size : Int) != (k : Int) + 1) = false := by simp; omega
    have d2 : ((s.size : Int) = (k : Int) + 1) = True := by simp; omega
    clear hv h1 hn
    go_enter Tryz.func217, Tryz.ntmps217
    go_wp2_with fail
    refine (show Calls Tryz.prog 148 #[.string s] (W.alloc (.cells (recC Wl.rzero) 62)) _ by rw [← hW0]; exact HV.out).mono ?_
    clear hW0
    rintro e w1 ⟨rfl, rfl⟩
    go_wp2_with (refine wpList_store_sub rfl 62 _ _ rfl W.heap.size 0 rfl 62 (recC Wl.rzero) (recC ⟨2, n, s[k].toNat, En.zero⟩) rfl HH.out.1 (Nat.le_refl _) sizeRec (recC_one _) ?_)
    refine bodyPost_ret (hres _ _ W.heap.size 62 (recC ⟨2, n, s[k].toNat, En.zero⟩) (0, 0) _ rfl (HH.out.1.store _) Tryz.underlying62 rfl sizeRec) rfl ⟨by rw [E.out]; rfl, setCells_below (Nat.le_refl _) _ _ _ HH.out.2⟩
  · have E := Lib.hid (state_bad hv hk h1)
    have d1 : ((s.size : Int) != (k : Int) + 1) = true := by simp; omega
    have d2 : ((s.size : Int) = (k : Int) + 1) = False := by simp; omega
    clear hv h1 hn
    go_enter Tryz.func217, Tryz.ntmps217
    go_wp2_with fail
    refine (show Calls Tryz.prog 148 #[.string s] (W.alloc (.cells (recC Wl.rzero) 62)) _ by rw [← hW0]; exact HV.out).mono ?_
    clear hW0
    rintro e w1 ⟨rfl, rfl⟩
    go_wp2_with (refine wpList_store_sub rfl 62 _ _ rfl W.heap.size 0 rfl 62 (recC Wl.rzero) (recC Wl.rzero) rfl HH.out.1 (Nat.le_refl _) sizeRec (recC_one _) ?_)
    refine bodyPost_ret (hres _ _ W.heap.size 62 (recC Wl.rzero) (0, 0) _ rfl (HH.out.1.store Wl.rzero) Tryz.underlying62 rfl sizeRec) rfl ⟨by rw [E.out]; rfl, setCells_below (Nat.le_refl _) _ _ _ HH.out.2⟩
end Go.Proofs.YtdcjhpnakbejkaaGreatDoor
namespace Go.Proofs.YtdcjhpnakbejkaaGreatDoor
open Go.RowKit
set_option maxRecDepth 100000 in
set_option maxHeartbeats 4000000 in
theorem readEntry_any (W : World) (s : ByteArray) (hs : s.size ≤ 100000000) :
    Calls Tryz.prog 218 #[.string s] W fun e w' => e = .returned (RecV (Wl.entryP s.data.toList)) ∧ Below W.heap.size W w' := by
  have hres := results_ct (P := Tryz.prog) (fn := Tryz.f218) rfl
  have hr0 : Rc (W.alloc (.cells (recC Wl.rzero) 62)) W.heap.size Wl.rzero := heap_alloc_new W _
  have hb0 : Below W.heap.size W (W.alloc (.cells (recC Wl.rzero) 62)) := bnew (Below.refl _ _) _
  have HV := enRead_any s (W.alloc (.cells (recC Wl.rzero) 62)) hs
  rcases hv : En.read s.data.toList with _ | e0
  · have E : Hid (Wl.entryP s.data.toList = none) := Lib.hid (by unfold Wl.entryP; rw [hv]; rfl)
    rw [hv] at HV
    have HV := Lib.hid HV
    unfold reV at HV
    have hst := storeEnt (entC En.zero) rfl (by simp [entC, Value.oneCell'])
    have HB := Lib.hid (And.intro hr0 hb0)
    clear hv hr0 hb0
    go_enter Tryz.func218, Tryz.ntmps218
    go_wp2_with fail
    refine HV.out.mono ?_
    rintro e w1 ⟨rfl, hb1⟩
    have HH : Hid (Rc (w1.alloc (.cells (entC En.zero) 60)) W.heap.size Wl.rzero ∧ Below W.heap.size W (w1.alloc (.cells (entC En.zero) 60))) := Lib.hid ⟨(((bnew (Below.refl _ _) _).block _ (by have := hb1.size; simp at this; omega)).trans (hb1.block _ (by simp))).trans HB.out.1, bnew (bnext HB.out.2 hb1) _⟩
    clear hb1
    go_wp2_with (refine wpList_store_sub rfl 62 _ _ rfl W.heap.size 0 rfl 62 (recC Wl.rzero) (recC Wl.rzero) rfl HH.out.1 (Nat.le_refl _) sizeRec (recC_one _) ?_)
    refine bodyPost_ret (hres _ _ W.heap.size 62 (recC Wl.rzero) (0, 0) _ rfl (HH.out.1.store Wl.rzero) Tryz.underlying62 rfl sizeRec) rfl ⟨by rw [E.out]; rfl, setCells_below (Nat.le_refl _) _ _ _ HH.out.2⟩
  · have E : Hid (Wl.entryP s.data.toList = some ⟨3, 0, 0, e0⟩) := Lib.hid (by unfold Wl.entryP; rw [hv]; rfl)
    rw [hv] at HV
    have HV := Lib.hid HV
    unfold reV entC at HV
    have hst := storeEnt (entC e0) rfl (by simp [entC, Value.oneCell'])
    unfold entC at hst
    have HB := Lib.hid (And.intro hr0 hb0)
    clear hv hr0 hb0
    go_enter Tryz.func218, Tryz.ntmps218
    go_wp2_with fail
    refine HV.out.mono ?_
    rintro e w1 ⟨rfl, hb1⟩
    have HH : Hid (Rc (w1.alloc (.cells (entC e0) 60)) W.heap.size Wl.rzero ∧ Below W.heap.size W (w1.alloc (.cells (entC e0) 60))) := Lib.hid ⟨(((bnew (Below.refl _ _) _).block _ (by have := hb1.size; simp at this; omega)).trans (hb1.block _ (by simp))).trans HB.out.1, bnew (bnext HB.out.2 hb1) _⟩
    clear hb1
    go_wp2_with (refine wpList_store_sub rfl 62 _ _ rfl W.heap.size 0 rfl 62 (recC Wl.rzero) (recC ⟨3, 0, 0, e0⟩) rfl HH.out.1 (Nat.le_refl _) sizeRec (recC_one _) ?_)
    refine bodyPost_ret (hres _ _ W.heap.size 62 (recC ⟨3, 0, 0, e0⟩) (0, 0) _ rfl (HH.out.1.store _) Tryz.underlying62 rfl sizeRec) rfl ⟨by rw [E.out]; rfl, setCells_below (Nat.le_refl _) _ _ _ HH.out.2⟩
end Go.Proofs.YtdcjhpnakbejkaaGreatDoor
namespace Go.Proofs.YtdcjhpnakbejkaaGreatDoor
open Go.RowKit
theorem recV_eq (o : Option Wl.R) : RecV o = .tuple #[.agg (recC (o.getD Wl.rzero)), .bool o.isSome] := by cases o <;> rfl
set_option maxRecDepth 100000 in
set_option maxHeartbeats 1000000 in
theorem readRecord_any (W : World) (s : ByteArray) (hs : s.size ≤ 100000000) :
    Calls Tryz.prog 151 #[.string s] W fun e w' => e = .returned (RecV (Wl.record s.data.toList)) ∧ Below W.heap.size W w' := by
  have hres := results_ct (P := Tryz.prog) (fn := Tryz.f151) rfl
  have hr0 : Rc (W.alloc (.cells (recC Wl.rzero) 62)) W.heap.size Wl.rzero := heap_alloc_new W _
  have hb0 : Below W.heap.size W (W.alloc (.cells (recC Wl.rzero) 62)) := bnew (Below.refl _ _) _
  have HH := Lib.hid (And.intro hr0 hb0)
  clear hr0 hb0
  by_cases h0 : s.size = 0
  · have E : Hid (Wl.record s.data.toList = none) := Lib.hid (by rw [Wl.record_eq, rdB_no h0]; rfl)
    have es : s = ⟨#[]⟩ := ByteArray.ext (Array.eq_empty_of_size_eq_zero h0)
    have b1 : (s.toList == []) = true := by rw [es, ByteArray.toList_eq]; rfl
    clear h0 es
    go_enter Tryz.func151, Tryz.ntmps151
    go_wp2_with (refine wpList_store_sub rfl 62 _ _ rfl W.heap.size 0 rfl 62 (recC Wl.rzero) (recC Wl.rzero) rfl HH.out.1 (Nat.le_refl _) sizeRec (recC_one _) ?_)
    refine bodyPost_ret (hres _ _ W.heap.size 62 (recC Wl.rzero) (0, 0) _ rfl (HH.out.1.store Wl.rzero) Tryz.underlying62 rfl sizeRec) rfl ⟨by rw [E.out]; rfl, setCells_below (Nat.le_refl _) _ _ _ HH.out.2⟩
  have hp : 0 < s.size := by omega
  have b1 : (s.toList == []) = false := by
    rw [ByteArray.toList_eq]
    cases hl : s.data.toList with
    | nil => rw [Lib.size_eq, hl] at hp; simp at hp
    | cons a l => rfl
  have E0 : Wl.record s.data.toList = if s[0].toNat = 2 then Wl.stateP (s.extract 1 s.size).data.toList else if s[0].toNat = 3 then Wl.entryP (s.extract 1 s.size).data.toList else none := by
    rw [Wl.record_eq, rdB_ext hp, Option.bind_some]
  have p1 : (1 : Int) ≤ (s.size : Int) := by omega
  obtain ⟨x, hx⟩ : ∃ x, x = s.extract 1 s.size := ⟨_, rfl⟩
  have zx : x.size ≤ 100000000 := by rw [hx, ByteArray.size_extract]; omega
  rw [← hx] at E0
  have Hx := Lib.hid hx
  clear hx h0
  by_cases h2 : s[0].toNat = 2
  · have d1 : ((s[0].toNat : Int) == 2) = true := by simp; omega
    have d2 : ((s[0].toNat : Int) = 2) = True := by simp; omega
    rw [if_pos h2] at E0
    have E := Lib.hid E0
    have HS := Lib.hid (wreadState_any (W.alloc (.cells (recC Wl.rzero) 62)) x zx)
    clear h2 E0
    rw [recV_eq] at HS ⊢
    rw [E.out]
    obtain ⟨o, ho⟩ : ∃ o, o = Wl.stateP x.data.toList := ⟨_, rfl⟩
    rw [← ho] at HS ⊢
    clear ho E
    obtain ⟨b, hb⟩ : ∃ b, b = o.isSome := ⟨_, rfl⟩
    obtain ⟨r, hr⟩ : ∃ r, r = o.getD Wl.rzero := ⟨_, rfl⟩
    rw [← hb, ← hr] at HS ⊢
    clear hb hr
    go_enter Tryz.func151, Tryz.ntmps151
    go_wp2_with fail
    rw [← Hx.out]
    refine HS.out.mono ?_
    rintro e w1 ⟨rfl, hb1⟩
    have H1 : Hid (Rc w1 W.heap.size Wl.rzero ∧ Below W.heap.size W w1) := Lib.hid ⟨(hb1.block _ (by simp)).trans HH.out.1, bnext HH.out.2 hb1⟩
    clear hb1
    go_wp2_with (refine wpList_store_sub rfl 62 _ _ rfl W.heap.size 0 rfl 62 (recC Wl.rzero) (recC r) rfl H1.out.1 (Nat.le_refl _) sizeRec (recC_one _) ?_)
    refine bodyPost_ret (hres _ _ W.heap.size 62 (recC r) (0, 0) _ rfl (H1.out.1.store r) Tryz.underlying62 rfl sizeRec) rfl ⟨rfl, setCells_below (Nat.le_refl _) _ _ _ H1.out.2⟩
  have d1 : ((s[0].toNat : Int) == 2) = false := by simp; omega
  have d2 : ((s[0].toNat : Int) = 2) = False := by simp; omega
  rw [if_neg h2] at E0
  by_cases h3 : s[0].toNat = 3
  · have e1 : ((s[0].toNat : Int) == 3) = true := by simp; omega
    have e2 : ((s[0].toNat : Int) = 3) = True := by simp; omega
    rw [if_pos h3] at E0
    have E := Lib.hid E0
    have HS := Lib.hid (readEntry_any (W.alloc (.cells (recC Wl.rzero) 62)) x zx)
    clear h2 h3 E0
    rw [recV_eq] at HS ⊢
    rw [E.out]
    obtain ⟨o, ho⟩ : ∃ o, o = Wl.entryP x.data.toList := ⟨_, rfl⟩
    rw [← ho] at HS ⊢
    clear ho E
    obtain ⟨b, hb⟩ : ∃ b, b = o.isSome := ⟨_, rfl⟩
    obtain ⟨r, hr⟩ : ∃ r, r = o.getD Wl.rzero := ⟨_, rfl⟩
    rw [← hb, ← hr] at HS ⊢
    clear hb hr
    go_enter Tryz.func151, Tryz.ntmps151
    go_wp2_with fail
    rw [← Hx.out]
    refine HS.out.mono ?_
    rintro e w1 ⟨rfl, hb1⟩
    have H1 : Hid (Rc w1 W.heap.size Wl.rzero ∧ Below W.heap.size W w1) := Lib.hid ⟨(hb1.block _ (by simp)).trans HH.out.1, bnext HH.out.2 hb1⟩
    clear hb1
    go_wp2_with (refine wpList_store_sub rfl 62 _ _ rfl W.heap.size 0 rfl 62 (recC Wl.rzero) (recC r) rfl H1.out.1 (Nat.le_refl _) sizeRec (recC_one _) ?_)
    refine bodyPost_ret (hres _ _ W.heap.size 62 (recC r) (0, 0) _ rfl (H1.out.1.store r) Tryz.underlying62 rfl sizeRec) rfl ⟨rfl, setCells_below (Nat.le_refl _) _ _ _ H1.out.2⟩
  · have e1 : ((s[0].toNat : Int) == 3) = false := by simp; omega
    have e2 : ((s[0].toNat : Int) = 3) = False := by simp; omega
    rw [if_neg h3] at E0
    have E := Lib.hid E0
    clear h2 h3 E0
    go_enter Tryz.func151, Tryz.ntmps151
    go_wp2_with (refine wpList_store_sub rfl 62 _ _ rfl W.heap.size 0 rfl 62 (recC Wl.rzero) (recC Wl.rzero) rfl HH.out.1 (Nat.le_refl _) sizeRec (recC_one _) ?_)
    refine bodyPost_ret (hres _ _ W.heap.size 62 (recC Wl.rzero) (0, 0) _ rfl (HH.out.1.store Wl.rzero) Tryz.underlying62 rfl sizeRec) rfl ⟨by rw [E.out]; rfl, setCells_below (Nat.le_refl _) _ _ _ HH.out.2⟩
end Go.Proofs.YtdcjhpnakbejkaaGreatDoor
namespace Go.Proofs.YtdcjhpnakbejkaaGreatDoor
open Go.RowKit
theorem infoRec : (Tryz.prog.info? 62).map (fun i => (i.zero, i.size, i.bytes)) = some (some (.agg (recC Wl.rzero)), 16, 72) := by kernel_rfl
theorem wrs_snoc (l : List Wl.R) (r : Wl.R) : wrs (l ++ [r]) = wrs l ++ wr1 r := by simp [wrs]
theorem wr1_one (r : Wl.R) : ∀ u ∈ wr1 r, u.oneCell' = true := by simp [wr1, Value.oneCell']
theorem lies_rec {w : World} {base : Nat} {e : TypeId} {A : Option Addr} {n c : Nat} {l : List Value} (h : w.ownsRow base e 16 (.slice A n c) n l) : Lies w A l := by
  rcases h.2 with ⟨hv, hn⟩ | ⟨g, cap, cur, hv, _, hg, _, _, _, ht⟩
  · exact .inl (List.eq_nil_of_length_eq_zero (by have := h.1; omega))
  · injection hv with a b c2
    subst a
    refine .inr ⟨g, 0, rfl, (Array.getElem?_eq_some_iff.1 hg).1, fun i u hu => ?_⟩
    rw [Nat.zero_add, cell_of_row w g i _ _ _ hg]
    have hi : i < l.length := (List.getElem?_eq_some_iff.1 hu).1
    have h1 := h.1
    rw [← ht, List.getElem?_take_of_lt (by omega)] at hu
    simpa using hu
theorem recs_no {l : List UInt8} (h : Wl.row1 l = none) : Wl.recs (Wl.rows l) = [] := by rw [Wl.rows_none h]; rfl
theorem recs_row {l t r : List UInt8} (h : Wl.row1 l = some (t, r)) : Wl.recs (Wl.rows l) = (match Wl.record t with | some x => x :: Wl.recs (Wl.rows r) | none => []) := by
  obtain ⟨h1, rfl⟩ := (Wl.row1_iff _ _ _).1 h
  rw [Wl.rows_cons h1]
  rfl
theorem recs_len : ∀ (T : List (List UInt8)), (Wl.recs T).length ≤ T.length
  | [] => Nat.le_refl _
  | t :: T => by
    unfold Wl.recs
    split
    · simpa using recs_len T
    · simp
theorem row1_len {l t r : List UInt8} (h : Wl.row1 l = some (t, r)) : t.length + r.length + 5 ≤ l.length ∧ t.length ≤ l.length := by
  obtain ⟨_, rfl⟩ := (Wl.row1_iff _ _ _).1 h
  unfold Wl.row
  simp only [List.length_append, Nm.wid_length, Nm.grp_length]
  omega
set_option maxRecDepth 100000 in
set_option maxHeartbeats 2000000 in
theorem readRecords_any (W : World) (g o : Nat) (s : ByteArray) (ht : TabO W g o Cr.tab) (hs : s.size ≤ 100000000) :
    Calls Tryz.prog 87 #[.pointer (some ⟨g, o, none⟩), .string s] W fun e w' => ∃ A cap, e = .returned (.slice A (Wl.recs (Wl.rows s.data.toList)).length cap) ∧ w'.ownsRow W.heap.size 62 16 (.slice A (Wl.recs (Wl.rows s.data.toList)).length cap) (Wl.recs (Wl.rows s.data.toList)).length (wrs (Wl.recs (Wl.rows s.data.toList))) ∧ Below W.heap.size W w' := by
  obtain ⟨i0, hi, hz0, hz1, hz2⟩ := info_parts infoRec
  obtain ⟨L, hL⟩ : ∃ L, L = Wl.recs (Wl.rows s.data.toList) := ⟨_, rfl⟩
  rw [← hL]
  have HLl := Lib.hid hL
  have HT := Lib.hid ht
  clear ht hL
  go_enter Tryz.func87, Tryz.ntmps87
  go_wp2_with fail
  go_loopw [1, 5] (fun v u wr => ∃ (x : ByteArray) (done : List Wl.R), v = .string x ∧ x.size ≤ s.size ∧ L = done ++ Wl.recs (Wl.rows x.data.toList) ∧ 5 * done.length + x.size ≤ s.size ∧ wr.ownsRow W.heap.size 62 16 u done.length (wrs done) ∧ Below W.heap.size W wr) (fun v _ _ => szOf v)
  case atStart => exact ⟨s, [], rfl, Nat.le_refl _, by rw [HLl.out]; rfl, by simp, World.ownsRow_nil _ _ _ _, Below.refl _ _⟩
  case round =>
    obtain ⟨x, done, rfl, hx, hLx, hdl, hown, hb⟩ := hrel
    obtain ⟨B, cb, rfl, _⟩ := own_slice hown
    have HR := Lib.hid (readRow_any wr g o x (HT.out.below hb) (by omega))
    have HO := Lib.hid (And.intro hown hb)
    clear hown hb
    rcases h1 : Wl.row1 x.data.toList with _ | ⟨t, r⟩
    · rw [h1] at HR
      have E : Hid (L = done) := Lib.hid (by rw [hLx, recs_no h1, List.append_nil])
      unfold RowV at HR
      clear h1 hLx
      go_wp2_with fail
      refine HR.out.mono ?_
      rintro e w1 ⟨rfl, hb1⟩
      go_wp2_with fail
      go_ret
      rw [E.out]
      exact ⟨_, _, rfl, own_kept HO.out.1 fun k hk => hb1.block k (own_lt HO.out.1 hk).1, bnext HO.out.2 hb1⟩
    have hrl := row1_len h1
    rw [← Lib.size_eq] at hrl
    have hrr := recs_row h1
    obtain ⟨hml, hme⟩ := row1_drop h1
    rw [h1] at HR
    unfold RowV at HR
    obtain ⟨tb, htb⟩ : ∃ tb, tb = Wl.ba t := ⟨_, rfl⟩
    obtain ⟨rb, hrb⟩ : ∃ rb, rb = Wl.ba r := ⟨_, rfl⟩
    obtain ⟨m, hm⟩ : ∃ m, m = (Wl.row t).length := ⟨_, rfl⟩
    have hm5 : 5 ≤ m := by rw [hm]; exact Wl.row_len t
    rw [← hm] at hml hme
    rw [← hrb] at hme
    have Hme := Lib.hid hme
    have hm2 : (m : Int) ≤ (x.size : Int) := by omega
    have htd : tb.data.toList = t := by rw [htb, Wl.ba_data]
    have hrd : rb.data.toList = r := by rw [hrb, Wl.ba_data]
    have htz : tb.size = t.length := by rw [htb, Wl.ba_size]
    have hrz : rb.size = r.length := by rw [hrb, Wl.ba_size]
    simp only [← htb, ← hm] at HR
    have HRec := Lib.hid (fun W2 => readRecord_any W2 tb (by omega))
    rw [htd] at HRec
    have htz2 : tb.size ≤ 100000000 := by omega
    clear h1 htb hrb hm hme
    rcases h2 : Wl.record t with _ | y
    · rw [h2] at HRec hrr
      have E : Hid (L = done) := Lib.hid (by rw [hLx, hrr, List.append_nil])
      have hst := storeRec (recC Wl.rzero) rfl (recF Wl.rzero).one
      unfold RecV at HRec
      clear h2 hrr hLx htd hrd
      go_wp2_with fail
      refine HR.out.mono ?_
      rintro e w1 ⟨rfl, hb1⟩
      have H1 := Lib.hid hb1
      clear hb1
      go_wp2_with fail
      refine (HRec.out _).mono ?_
      rintro e w2 ⟨rfl, hb2⟩
      have H2 := Lib.hid (bnext H1.out hb2)
      clear hb2
      go_wp2_with fail
      go_ret
      rw [E.out]
      exact ⟨_, _, rfl, own_kept HO.out.1 fun k hk => (bnew H2.out _).block k (own_lt HO.out.1 hk).1, bnext HO.out.2 (bnew H2.out _)⟩
    · rw [h2] at HRec hrr
      have E : Hid (L = (done ++ [y]) ++ Wl.recs (Wl.rows rb.data.toList)) := Lib.hid (by rw [hLx, hrr, hrd, List.append_assoc]; rfl)
      have hst := storeRec (recC y) rfl (recF y).one
      unfold RecV at HRec
      unfold recC at hst HRec
      clear h2 hrr hLx htd hrd
      go_wp2_with fail
      refine HR.out.mono ?_
      rintro e w1 ⟨rfl, hb1⟩
      have H1 := Lib.hid hb1
      clear hb1
      go_wp2_with fail
      refine (HRec.out _).mono ?_
      rintro e w2 ⟨rfl, hb2⟩
      have H2 := Lib.hid (bnext H1.out hb2)
      clear hb2
      have HO3 : Hid (((w2.alloc (.cells (wr1 y).toArray 62)).alloc (.cells (wr1 y).toArray 62)).ownsRow W.heap.size 62 16 (.slice B done.length cb) done.length (wrs done) ∧ Below W.heap.size W ((w2.alloc (.cells (wr1 y).toArray 62)).alloc (.cells (wr1 y).toArray 62)) ∧ W.heap.size ≤ ((w2.alloc (.cells (wr1 y).toArray 62)).alloc (.cells (wr1 y).toArray 62)).heap.size) := Lib.hid (by
        have hb3 := bnext HO.out.2 (bnew (bnew H2.out (.cells (wr1 y).toArray 62)) (.cells (wr1 y).toArray 62))
        exact ⟨own_kept HO.out.1 fun k hk => (bnew (bnew H2.out (.cells (wr1 y).toArray 62)) (.cells (wr1 y).toArray 62)).block k (own_lt HO.out.1 hk).1, hb3, hb3.size⟩)
      have HNw : Hid (∀ j u, (wr1 y)[j]? = some u → ((w2.alloc (.cells (wr1 y).toArray 62)).alloc (.cells (wr1 y).toArray 62)).cell? ((⟨w2.heap.size + 1, 0, none⟩ : Addr).add j) = some u) := Lib.hid (by
        have := news_fl (w2.alloc (.cells (wr1 y).toArray 62)) (wr1 y) 62
        rw [World.size_alloc] at this
        exact this)
      go_wp2_with (at_builtin; refine wpList_app_own rfl (.tmp 28) (.tmp 30) 42 rfl W.heap.size 62 i0 (.agg (recC Wl.rzero)) 16 72 Tryz.underlying42 hi hz0 hz1 hz2 rfl (by decide) _ _ _ rfl HO3.out.1 ⟨w2.heap.size + 1, 0, none⟩ 1 1 (wr1 y) rfl rfl HNw.out (wr1_one y) (by simp only [maxLen]; omega) (by omega) HO3.out.2.2 ?_)
      intro v' w5 ho5 hg5 hn5
      have HF : Hid (w5.ownsRow W.heap.size 62 16 v' (done ++ [y]).length (wrs (done ++ [y])) ∧ Below W.heap.size W w5) := Lib.hid (by
        rw [List.length_append, List.length_singleton, wrs_snoc]
        refine ⟨ho5, ?_⟩
        exact HO3.out.2.1.grown hg5 HO3.out.2.2 (fun j hj => (own_lt HO.out.1 hj).2))
      clear ho5 hg5 hn5
      go_wp2_with fail
      go_roundw
      case rel => exact ⟨rb, done ++ [y], congrArg Value.string Hme.out, by omega, E.out, by rw [List.length_append, List.length_singleton]; omega, HF.out.1, HF.out.2⟩
      case measure => simp [szOf]; omega
end Go.Proofs.YtdcjhpnakbejkaaGreatDoor
