/-
  stable's found walked.
  stable's newest walked.
  Steps of a drawn region: a struct loaded, a struct built; a store as Open builds it.
-/
import Derived.Test.YtjhbpcecdhdnoaaGreatDoorRStAfter
import Derived.Test.YtjhbpcecdhdnoaaGreatDoorRStRdS
import Derived.Test.YtjhbpcecdhdnoaaGreatDoorRWwX
import Derived.Test.YtjhbpcecdhdnoaaGreatDoorRWwI
import Derived.Test.YtjhbpcecdhdnoaaGreatDoorRStTurnZ
set_option linter.unusedSimpArgs false
set_option linter.unusedVariables false
namespace Go.Proofs.YtjhbpcecdhdnoaaGreatDoor
open Go.RowKit
theorem readSnap_idx {d : Dk.D} {i : Nat} {s : St.Sn} (h : St.readSnap d i = some s) : s.idx = i := by
  unfold St.readSnap at h
  split at h
  · rename_i h0; injection h with h; rw [← h, h0]; rfl
  · split at h
    · unfold St.rdSnap at h
      split at h
      · obtain ⟨⟨x, t, m⟩, h1, h2⟩ := Option.bind_eq_some_iff.1 h
        simp only [] at h2
        split at h2
        · rename_i hx; injection h2 with h2; rw [← h2]; exact hx.1
        · cases h2
      · cases h
    · cases h
theorem found_no1 {d : Dk.D} {n : Nat} (h : ¬ ((Wl.readD d n).2 = .ok ∧ (Wl.readD d n).1.2.2 = true)) : St.found d n = none := by unfold St.found; rw [if_neg h]
theorem found_no2 {d : Dk.D} {n : Nat} (h : (Wl.readD d n).2 = .ok ∧ (Wl.readD d n).1.2.2 = true) (h2 : St.readSnap d (Wl.readD d n).1.1 = none) : St.found d n = none := by unfold St.found; rw [if_pos h, h2]; rfl
theorem found_yes {d : Dk.D} {n : Nat} {s : St.Sn} (h : (Wl.readD d n).2 = .ok ∧ (Wl.readD d n).1.2.2 = true) (h2 : St.readSnap d (Wl.readD d n).1.1 = some s) : St.found d n = St.after ⟨0, 0, s, []⟩ (Wl.readD d n).1.2.1 := by unfold St.found; rw [if_pos h, h2]; rfl
theorem TabAt.o {W : World} {g : Nat} (h : TabAt W g) : TabO W g 0 Cr.tab := ⟨h.lt, fun i hi => by rw [Nat.zero_add]; exact (cell_of_row W g i _ _ _ h).trans (tabA_at i hi)⟩
section
variable {At : DkAt}
set_option maxRecDepth 100000 in
set_option maxHeartbeats 8000000 in
theorem found_any (K : DiskK At) (W : World) (p tb n : Nat) (S : Nat → Prop) (d : Dk.D) (hA : At W p S d) (hE : EnvT W) (hT : TabAt W tb) (hn : n < Nm.top) (hx : (Wl.readD d n).1.1 < Nm.top) (hR : Recs (Wl.readD d n).1.2.1) :
    Calls Tryz.prog 126 #[.pointer (some ⟨p, 0, none⟩), .pointer (some ⟨tb, 0, none⟩), .int .u64 (n : Int)] W (RetAf (St.found d n) W) := by
  have HRd := Lib.hid (fun W1 (h : Below W.heap.size W W1) => wread_any K nameSays W1 p tb n S d (hE.below h (Nat.le_refl _)) hn (hT.below h) (K.below hA h))
  have HSn := Lib.hid (fun W1 (h : Below W.heap.size W W1) => readSnap_any K W1 p tb 0 (Wl.readD d n).1.1 S d (K.below hA h) (hE.below h (Nat.le_refl _)) (hT.below h).o hx)
  have HN1 : Hid (¬ ((Wl.readD d n).2 = .ok ∧ (Wl.readD d n).1.2.2 = true) → St.found d n = none) := Lib.hid found_no1
  have HN2 : Hid ((Wl.readD d n).2 = .ok ∧ (Wl.readD d n).1.2.2 = true → St.readSnap d (Wl.readD d n).1.1 = none → St.found d n = none) := Lib.hid found_no2
  have HYe : Hid (∀ s, (Wl.readD d n).2 = .ok ∧ (Wl.readD d n).1.2.2 = true → St.readSnap d (Wl.readD d n).1.1 = some s → St.found d n = St.after ⟨0, 0, s, []⟩ (Wl.readD d n).1.2.1) := Lib.hid fun s => found_yes
  have Hix : Hid (∀ s, St.readSnap d (Wl.readD d n).1.1 = some s → s.idx < Nm.top) := Lib.hid fun s h => by rw [readSnap_idx h]; exact hx
  obtain ⟨G, hG⟩ : ∃ G, G = St.found d n := ⟨_, rfl⟩
  rw [← hG] at HN1 HN2 HYe ⊢
  obtain ⟨R, hRR⟩ : ∃ R, R = Wl.readD d n := ⟨_, rfl⟩
  rw [← hRR] at HRd HSn HN1 HN2 HYe hR hx Hix
  obtain ⟨sn, hsn⟩ : ∃ sn, sn = St.readSnap d R.1.1 := ⟨_, rfl⟩
  rw [← hsn] at HSn HN2 HYe Hix
  have hxi : R.1.1 ≤ 18446744073709551615 := by unfold Nm.top at hx; omega
  have HRc := Lib.hid hR
  clear hA hE hT hn hx hR hG hRR hsn K
  obtain ⟨⟨x, l, cnt⟩, er⟩ := R
  simp only [] at *
  go_enter Tryz.func126, Tryz.ntmps126
  go_upto_region 1 with (fail)
  refine forget (fun W1 => Rw W1 W.heap.size zK 58 ∧ Bl W W1 ∧ W.heap.size ≤ W.heap.size) ⟨Rw.new W zK _, (Bl.refl W).alloc _, Nat.le_refl _⟩ ?_
  intro W1 H1
  obtain ⟨g, hg⟩ : ∃ g, g = W.heap.size := ⟨_, rfl⟩
  rw [← hg] at H1 ⊢
  have HI := Lib.hid H1
  have Hg : Hid (W.heap.size ≤ g) := Lib.hid (by rw [hg]; exact Nat.le_refl _)
  clear H1 hg
  go_wp2_with fail
  refine (HRd.out W1 HI.out.2.1.bel).mono ?_
  rintro e w2 ⟨A, cap, rfl, hl, hb, hcap, hb2⟩
  have HR2 : Hid (Rw w2 g zK 58) := Lib.hid (HI.out.1.bel hb2)
  have HB2 : Hid (Bl W w2) := Lib.hid (HI.out.2.1.next hb2)
  have HL := Lib.hid hl
  clear hl hb hcap hb2
  simp only []
  by_cases hok : er = .ok
  case neg =>
    obtain ⟨z1, z2, z3⟩ := eno_ne hok
    have E := Lib.hid (HN1.out fun h => hok h.1)
    obtain ⟨ev, hev⟩ : ∃ ev, ev = eno er := ⟨_, rfl⟩
    rw [← hev] at z1 z2 z3 ⊢
    clear hok hev
    go_wp2_with (first
      | (refine wpList_built rfl 58 _ rfl zK (by kernel_rfl) ?_)
      | (refine wpList_store_sub rfl 58 _ _ rfl g 0 rfl 58 zK zK rfl HR2.out (Nat.le_refl 11) zK_size zK_one ?_))
    refine bodyPost_ret (results_ct (P := Tryz.prog) (fn := Tryz.f126) rfl _ _ g 58 zK (0, 0) _ rfl (HR2.out.over rfl) Tryz.underlying58 rfl zK_size) rfl ?_
    rw [E.out]
    exact ⟨rfl, (HB2.out.puts Hg.out _ _).bel⟩
  subst hok
  cases cnt with
  | false =>
    have E := Lib.hid (HN1.out fun h => Bool.false_ne_true h.2)
    have z0 : eno .ok = 0 := rfl
    rw [z0]
    clear z0
    go_wp2_with (first
      | (refine wpList_built rfl 58 _ rfl zK (by kernel_rfl) ?_)
      | (refine wpList_store_sub rfl 58 _ _ rfl g 0 rfl 58 zK zK rfl HR2.out (Nat.le_refl 11) zK_size zK_one ?_))
    refine bodyPost_ret (results_ct (P := Tryz.prog) (fn := Tryz.f126) rfl _ _ g 58 zK (0, 0) _ rfl (HR2.out.over rfl) Tryz.underlying58 rfl zK_size) rfl ?_
    rw [E.out]
    exact ⟨rfl, (HB2.out.puts Hg.out _ _).bel⟩
  | true =>
  have z0 : eno .ok = 0 := rfl
  rw [z0]
  clear z0
  go_wp2_with fail
  refine (HSn.out w2 HB2.out.bel).mono ?_
  rintro e w3 ⟨rfl, hb3⟩
  have HR3 : Hid (Rw w3 g zK 58) := Lib.hid (HR2.out.bel hb3)
  have HB3 : Hid (Bl W w3) := Lib.hid (HB2.out.next hb3)
  have HL3 := Lib.hid (HL.out.below hb3)
  clear hb3
  cases sn with
  | none =>
    have E := Lib.hid (HN2.out (by simp) rfl)
    simp only [SnV]
    go_upto_region 5 with (refine wpList_store_sub rfl 55 _ _ rfl w3.heap.size 0 rfl 55 (snC St.zs) (snC St.zs) rfl ?_ (Nat.le_refl 8) sizeSnap (snC_one _) ?_; exact heap_alloc_new w3 _)
    refine forget (fun W4 => Rw W4 g zK 58 ∧ Bl W W4) ⟨((HR3.out.alloc _).oputs (by have := Rw.lt HR3.out; omega) _ _), ((HB3.out.alloc _).puts HB3.out.le _ _)⟩ ?_
    intro W4 H4
    have HI4 := Lib.hid H4
    clear H4
    go_wp2_with (first
      | (refine wpList_built rfl 58 _ rfl zK (by kernel_rfl) ?_)
      | (refine wpList_store_sub rfl 58 _ _ rfl g 0 rfl 58 zK zK rfl HI4.out.1 (Nat.le_refl 11) zK_size zK_one ?_))
    refine bodyPost_ret (results_ct (P := Tryz.prog) (fn := Tryz.f126) rfl _ _ g 58 zK (0, 0) _ rfl (HI4.out.1.over rfl) Tryz.underlying58 rfl zK_size) rfl ?_
    rw [E.out]
    exact ⟨rfl, (HI4.out.2.puts Hg.out _ _).bel⟩
  | some s =>
    have E := Lib.hid (HYe.out s (by simp) rfl)
    have HAf : Hid (∀ W5, Below w3.heap.size w3 W5 → Calls Tryz.prog 64 #[.agg (kC ⟨0, 0, s, []⟩ (.slice none 0 0)), .slice A l.length cap] W5 (RetAf (St.after ⟨0, 0, s, []⟩ l) W5)) := Lib.hid (fun W5 (h : Below w3.heap.size w3 W5) => after_any ⟨0, 0, s, []⟩ none 0 l A cap W5 (.inl rfl) (.inr ⟨rfl, rfl⟩) (HL3.out.below h) (Hix.out s rfl) (by have := HRc.out.len; simpa using this) HRc.out)
    simp only [SnV]
    go_upto_region 5 with (refine wpList_store_sub rfl 55 _ _ rfl w3.heap.size 0 rfl 55 (snC St.zs) (snC s) rfl ?_ (Nat.le_refl 8) sizeSnap (snC_one _) ?_; exact heap_alloc_new w3 _)
    refine forget (fun W4 => Rw W4 g zK 58 ∧ Rw W4 w3.heap.size (snC s) 55 ∧ Bl W W4 ∧ Bl w3 W4) ⟨(HR3.out.alloc _).oputs (by have := Rw.lt HR3.out; omega) _ _, (Rw.new w3 (snC St.zs) _).over rfl, (HB3.out.alloc _).puts HB3.out.le _ _, ((Bl.refl w3).alloc _).puts (Nat.le_refl _) _ _⟩ ?_
    intro W4 H4
    obtain ⟨gs, hgs⟩ : ∃ gs, gs = w3.heap.size := ⟨_, rfl⟩
    rw [← hgs] at H4 ⊢
    have HI4 := Lib.hid H4
    clear H4 hgs
    go_wp2_with (first
      | (refine wpList_load_sub rfl 55 _ rfl gs 0 rfl 55 (snC s) (snC s) (0, 0) _ HI4.out.2.1 (fun j hj => by rw [Nat.zero_add]) Tryz.underlying55 rfl sizeSnap ?_)
      | (refine wpList_built rfl 58 _ rfl (kC ⟨0, 0, s, []⟩ (.slice none 0 0)) (by kernel_rfl) ?_))
    refine (HAf.out W4 HI4.out.2.2.2.bel).mono ?_
    intro e w5 haf
    cases hak : St.after ⟨0, 0, s, []⟩ l with
    | none =>
      rw [hak] at haf
      obtain ⟨rfl, hb5⟩ := haf
      have HR5 : Hid (Rw w5 g zK 58) := Lib.hid (HI4.out.1.bel hb5)
      have HB5 : Hid (Bl W w5) := Lib.hid (HI4.out.2.2.1.next hb5)
      have E2 := Lib.hid hak
      clear hb5 hak HAf
      go_wp2_with (refine wpList_store_sub rfl 58 _ _ rfl g 0 rfl 58 zK zK rfl HR5.out (Nat.le_refl 11) zK_size zK_one ?_)
      refine bodyPost_ret (results_ct (P := Tryz.prog) (fn := Tryz.f126) rfl _ _ g 58 zK (0, 0) _ rfl (HR5.out.over rfl) Tryz.underlying58 rfl zK_size) rfl ?_
      rw [E.out, E2.out]
      exact ⟨rfl, (HB5.out.puts Hg.out _ _).bel⟩
    | some k' =>
      rw [hak] at haf
      obtain ⟨A', c', rfl, ho5, hb5⟩ := haf
      have HR5 : Hid (Rw w5 g zK 58) := Lib.hid (HI4.out.1.bel hb5)
      have HB5 : Hid (Bl W w5) := Lib.hid (HI4.out.2.2.1.next hb5)
      have HO5 := Lib.hid ho5
      have E2 := Lib.hid hak
      clear hb5 hak HAf ho5
      obtain ⟨Z, hZ⟩ : ∃ Z, Z = kC k' (.slice A' k'.ents.length c') := ⟨_, rfl⟩
      have HZZ : Hid (Z.size = 11 ∧ Z.all (·.oneCell') = true ∧ (Tryz.prog.info? 58).map (·.size) = some Z.size) := Lib.hid (by rw [hZ]; exact ⟨rfl, kC_one _ _ _ _, sizeKept' _ _⟩)
      have hZ2 := Lib.hid hZ
      rw [← hZ]
      clear hZ
      go_wp2_with (refine wpList_store_sub rfl 58 _ _ rfl g 0 rfl 58 zK Z rfl HR5.out (by rw [HZZ.out.1]; exact Nat.le_refl 11) HZZ.out.2.2 HZZ.out.2.1 ?_)
      refine bodyPost_ret (results_ct (P := Tryz.prog) (fn := Tryz.f126) rfl _ _ g 58 Z (0, 0) _ rfl (HR5.out.over (by rw [HZZ.out.1]; rfl)) Tryz.underlying58 rfl HZZ.out.2.2) rfl ?_
      rw [E.out, E2.out]
      have hg1 := Rw.lt HI4.out.1
      exact ⟨A', c', by rw [← hZ2.out]; rfl, own_mono (own_kept HO5.out fun j hj => setCells_other (by have := (own_lt HO5.out hj).2; omega) _ _ _) HI4.out.2.2.1.le, (HB5.out.puts Hg.out _ _).bel⟩
end
end Go.Proofs.YtjhbpcecdhdnoaaGreatDoor
namespace Go.Proofs.YtjhbpcecdhdnoaaGreatDoor
open Go.RowKit
def RetK (k : St.K) (w : World) (e : Ending) (w' : World) : Prop :=
  ∃ A c, e = .returned (.agg (kC k (.slice A k.ents.length c))) ∧ w'.ownsRow w.heap.size 88 13 (.slice A k.ents.length c) k.ents.length (ec k.ents) ∧ Below w.heap.size w w'
theorem newest_none {d : Dk.D} {L : List Nat} {j : Nat} (h : j < L.length) (hf : St.found d L[j] = none) : St.newestR d (L.take (j + 1)).reverse = St.newestR d (L.take j).reverse := by
  rw [List.take_add_one, List.getElem?_eq_getElem h, Option.toList_some, List.reverse_append, List.reverse_singleton, List.singleton_append, St.newestR, hf]; rfl
theorem newest_some {d : Dk.D} {L : List Nat} {j : Nat} {k : St.K} (h : j < L.length) (hf : St.found d L[j] = some k) : St.newestR d (L.take (j + 1)).reverse = k := by
  rw [List.take_add_one, List.getElem?_eq_getElem h, Option.toList_some, List.reverse_append, List.reverse_singleton, List.singleton_append, St.newestR, hf]; rfl
def Few (d : Dk.D) (n : Nat) : Prop := n < Nm.top ∧ (Wl.readD d n).1.1 < Nm.top ∧ Recs (Wl.readD d n).1.2.1
section
variable {At : DkAt}
set_option maxRecDepth 100000 in
set_option maxHeartbeats 8000000 in
theorem newest_any (K : DiskK At) (W : World) (p tb : Nat) (S : Nat → Prop) (d : Dk.D) (L : List Nat) (B : Option Addr) (cb : Nat) (hA : At W p S d) (hE : EnvT W) (hT : TabAt W tb) (hL : Lies W B (uc L)) (hf : ∀ n ∈ L, Few d n) (hlen : L.length ≤ 100000000) :
    Calls Tryz.prog 73 #[.pointer (some ⟨p, 0, none⟩), .pointer (some ⟨tb, 0, none⟩), .slice B L.length cb] W (RetK (St.newest d L) W) := by
  have HFo := Lib.hid (fun n (hn : n ∈ L) W1 (h : Below W.heap.size W W1) => found_any K W1 p tb n S d (K.below hA h) (hE.below h (Nat.le_refl _)) (hT.below h) (hf n hn).1 (hf n hn).2.1 (hf n hn).2.2)
  have HFw := Lib.hid (fun n (hn : n ∈ L) => (by have := (hf n hn).1; unfold Nm.top at this; omega : n ≤ 18446744073709551615))
  have HLi := Lib.hid (fun W1 (h : Below W.heap.size W W1) => hL.below (w' := W1) h)
  clear hA hE hT hL hf K
  go_enter Tryz.func73, Tryz.ntmps73
  go_upto_region 1 with (fail)
  refine forget (fun W1 => Rw W1 W.heap.size zK 58 ∧ Bl W W1 ∧ W.heap.size ≤ W.heap.size) ⟨Rw.new W zK _, (Bl.refl W).alloc _, Nat.le_refl _⟩ ?_
  intro W1 H1
  obtain ⟨g, hg⟩ : ∃ g, g = W.heap.size := ⟨_, rfl⟩
  rw [← hg] at H1 ⊢
  have HI := Lib.hid H1
  have Hg : Hid (W.heap.size ≤ g) := Lib.hid (by rw [hg]; exact Nat.le_refl _)
  clear H1 hg
  go_wp2_with fail
  go_loopw [7] (fun i wr => ∃ (j : Nat), j ≤ L.length ∧ i = .int .i64 ((j : Int) - 1) ∧ Rw wr g zK 58 ∧ Bl W wr ∧ St.newest d L = St.newestR d (L.take j).reverse) (fun i _ => (intOf i + 1).toNat)
  case atStart => exact ⟨L.length, Nat.le_refl _, by go_num, HI.out.1, HI.out.2.1, by rw [List.take_of_length_le (Nat.le_refl _)]; rfl⟩
  case round =>
    obtain ⟨j, hj, rfl, hrow, hbl, hnew⟩ := hrel
    have HJ := Lib.hid (And.intro hrow hbl)
    cases j with
    | zero =>
      have E : Hid (St.newest d L = St.zero) := Lib.hid (by rw [hnew]; rfl)
      have e0 : ((0 : Nat) : Int) - 1 = -1 := rfl
      rw [e0]
      clear hnew hrow hbl hj e0
      go_wp2_with (first
        | (refine wpList_built rfl 58 _ rfl zK (by kernel_rfl) ?_)
        | (refine wpList_store_sub rfl 58 _ _ rfl g 0 rfl 58 zK zK rfl HJ.out.1 (Nat.le_refl 11) zK_size zK_one ?_))
      refine bodyPost_ret (results_cell_row (P := Tryz.prog) (fn := Tryz.f73) rfl _ _ g 58 zK (0, 0) _ rfl (HJ.out.1.over rfl) Tryz.underlying58 rfl zK_size) rfl ?_
      rw [E.out]
      exact ⟨none, 0, rfl, World.ownsRow_nil _ _ _ _, (HJ.out.2.puts Hg.out _ _).bel⟩
    | succ j =>
      have e1 : ((j + 1 : Nat) : Int) - 1 = (j : Int) := by omega
      rw [e1]
      have hlt : j < L.length := by omega
      obtain ⟨n, hn⟩ : ∃ n, n = L[j] := ⟨_, rfl⟩
      have hmem : n ∈ L := by rw [hn]; exact List.getElem_mem hlt
      have hnw := HFw.out n hmem
      have hcell : ∃ bb oo, B = some ⟨bb, oo, none⟩ ∧ wr.cell? ⟨bb, oo + j, none⟩ = some (.int .u64 (n : Int)) := by
        rcases HLi.out wr hbl with h | ⟨bb, oo, rfl, _, hc⟩
        · exfalso
          have := congrArg List.length h
          simp [uc] at this; simp [this] at hlt
        · exact ⟨bb, oo, rfl, hc j _ (by simp [uc, hlt, hn])⟩
      obtain ⟨bb, oo, rfl, hcell⟩ := hcell
      have HF := Lib.hid (HFo.out n hmem wr hbl)
      have HNo : Hid (St.found d n = none → St.newest d L = St.newestR d (L.take j).reverse) := Lib.hid fun h => by rw [hnew]; exact newest_none hlt (by rw [← hn]; exact h)
      have HYe : Hid (∀ k, St.found d n = some k → St.newest d L = k) := Lib.hid fun k h => by rw [hnew]; exact newest_some hlt (by rw [← hn]; exact h)
      clear hnew hn hmem hrow hbl e1
      go_wp2_with fail
      refine HF.out.mono ?_
      intro e w2 haf
      cases hfd : St.found d n with
      | none =>
        rw [hfd] at haf
        obtain ⟨rfl, hb2⟩ := haf
        have E := Lib.hid (HNo.out hfd)
        have HR2 : Hid (Rw w2 g zK 58 ∧ Bl W w2) := Lib.hid ⟨HJ.out.1.bel hb2, HJ.out.2.next hb2⟩
        clear hb2 hfd hcell
        go_upto_region 5 with (refine wpList_store_sub rfl 58 _ _ rfl w2.heap.size 0 rfl 58 zK zK rfl ?_ (Nat.le_refl 11) zK_size zK_one ?_; exact heap_alloc_new w2 _)
        refine forget (fun W4 => Rw W4 g zK 58 ∧ Bl W W4) ⟨(HR2.out.1.alloc _).oputs (by have := Rw.lt HR2.out.1; omega) _ _, (HR2.out.2.alloc _).puts HR2.out.2.le _ _⟩ ?_
        intro W4 H4
        have HI4 := Lib.hid H4
        clear H4
        go_wp2_with fail
        go_roundw
        case rel => exact ⟨j, by omega, by go_num, HI4.out.1, HI4.out.2, E.out⟩
        case measure => simp [intOf]
      | some k' =>
        rw [hfd] at haf
        obtain ⟨A', c', rfl, ho2, hb2⟩ := haf
        have E := Lib.hid (HYe.out k' hfd)
        have HR2 : Hid (Rw w2 g zK 58 ∧ Bl W w2) := Lib.hid ⟨HJ.out.1.bel hb2, HJ.out.2.next hb2⟩
        have HO2 := Lib.hid ho2
        have Hwr : Hid (W.heap.size ≤ wr.heap.size ∧ g < wr.heap.size) := Lib.hid ⟨HJ.out.2.le, Rw.lt HJ.out.1⟩
        clear hb2 hfd hcell ho2
        obtain ⟨Z, hZ⟩ : ∃ Z, Z = kC k' (.slice A' k'.ents.length c') := ⟨_, rfl⟩
        have HZZ : Hid (Z.size = 11 ∧ Z.all (·.oneCell') = true ∧ (Tryz.prog.info? 58).map (·.size) = some Z.size) := Lib.hid (by rw [hZ]; exact ⟨rfl, kC_one _ _ _ _, sizeKept' _ _⟩)
        have hZ2 := Lib.hid hZ
        rw [← hZ]
        clear hZ
        go_upto_region 5 with (refine wpList_store_sub rfl 58 _ _ rfl w2.heap.size 0 rfl 58 zK Z rfl ?_ (by rw [HZZ.out.1]; exact Nat.le_refl 11) HZZ.out.2.2 HZZ.out.2.1 ?_; exact heap_alloc_new w2 _)
        refine forget (fun W4 => Rw W4 g zK 58 ∧ Rw W4 w2.heap.size Z 58 ∧ Bl W W4 ∧ W4.ownsRow wr.heap.size 88 13 (.slice A' k'.ents.length c') k'.ents.length (ec k'.ents)) ⟨(HR2.out.1.alloc _).oputs (by have := Rw.lt HR2.out.1; omega) _ _, (Rw.new w2 zK _).over (by rw [HZZ.out.1]; rfl), (HR2.out.2.alloc _).puts HR2.out.2.le _ _, own_kept HO2.out fun m hm => (((Bl.refl w2).alloc _).puts (Nat.le_refl _) _ _).bel.block m (own_lt HO2.out hm).1⟩ ?_
        intro W4 H4
        generalize w2.heap.size = gb at H4 ⊢
        have HI4 := Lib.hid H4
        clear H4
        go_wp2_with (first
          | (refine wpList_load_sub rfl 58 _ rfl gb 0 rfl 58 Z Z (0, 0) _ HI4.out.2.1 (fun m hm => by rw [Nat.zero_add]) Tryz.underlying58 rfl HZZ.out.2.2 ?_)
          | (refine wpList_store_sub rfl 58 _ _ rfl g 0 rfl 58 zK Z rfl HI4.out.1 (by rw [HZZ.out.1]; exact Nat.le_refl 11) HZZ.out.2.2 HZZ.out.2.1 ?_))
        refine bodyPost_ret (results_cell_row (P := Tryz.prog) (fn := Tryz.f73) rfl _ _ g 58 Z (0, 0) _ rfl (HI4.out.1.over (by rw [HZZ.out.1]; rfl)) Tryz.underlying58 rfl HZZ.out.2.2) rfl ?_
        rw [E.out]
        exact ⟨A', c', by rw [← hZ2.out], own_mono (own_kept HI4.out.2.2.2 fun m hm => setCells_other (by have := (own_lt HI4.out.2.2.2 hm).2; have := Hwr.out.2; omega) _ _ _) Hwr.out.1, (HI4.out.2.2.1.puts Hg.out _ _).bel⟩
end
end Go.Proofs.YtjhbpcecdhdnoaaGreatDoor
namespace Go.Proofs.YtjhbpcecdhdnoaaGreatDoor
open Go.RowKit
theorem built_store (p : Nat) (k : St.K) (v : Value) : Tryz.prog.built 99 [(0, .pointer (some ⟨p, 0, none⟩)), (1, .agg tabA), (3, .agg (kC k v))] = some (stC p (.pointer none) k v false) := by kernel_rfl
end Go.Proofs.YtjhbpcecdhdnoaaGreatDoor
