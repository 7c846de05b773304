/-
  The document's After walked.
  The document's Cut walked.
-/
import Derived.Test.YtjhbpcecdhdnoaaGreatDoorRStOneW
import Derived.Test.YtjhbpcecdhdnoaaGreatDoorRDmFZ
import Derived.Test.YtjhbpcecdhdnoaaGreatDoorRStSaveWZ
import Derived.Deep.RegionLaw
set_option linter.unusedSimpArgs false
set_option linter.unusedVariables false
namespace Go.Proofs.YtjhbpcecdhdnoaaGreatDoor
open Go.RowKit
theorem one_len {k k' : St.K} {r : Wl.R} (h : St.one k r = some k') : k'.ents.length ≤ k.ents.length + 1 ∧ k'.snap = k.snap := by
  rcases (St.one_some h).2 with ⟨_, rfl⟩ | ⟨_, _, _, _, rfl⟩
  · exact ⟨Nat.le_succ _, rfl⟩
  · refine ⟨?_, rfl⟩
    show (k.ents.take _ ++ [r.ent]).length ≤ _
    rw [List.length_append, List.length_take, List.length_singleton]; omega
def RetRA (no : Int) (o : Option St.K) (w : World) (e : Ending) (w' : World) : Prop := match o with
  | some k => ∃ A c, e = .returned (.tuple #[.agg (kC k (.slice A k.ents.length c)), .int .i64 0]) ∧ Lies w' A (ec k.ents) ∧ Below w.heap.size w w'
  | none => e = .returned (.tuple #[.agg zK, .int .i64 no]) ∧ Below w.heap.size w w'
theorem store_any11 (W2 : World) (g : Nat) (X Z : Array Value) {T : TypeId} (hr : Rw W2 g X T) (hx : X.size = 11) (hs : Z.size = 11) (h1 : Z.all (·.oneCell') = true) : (storeCells ⟨g, 0, none⟩ Z.toList 0).run Tryz.prog W2 = .ok () (W2.setCells g 0 Z.toList) := by
  refine run_storeCells_cells (P := Tryz.prog) g 0 Z.toList 0 _ (fun j hj => ?_) (fun j hj => ?_) (fun v hv => (Array.all_eq_true_iff_forall_mem.1 h1) v (by simpa using hv))
  · rw [Array.length_toList, hs] at hj
    have hg : j < X.size := by omega
    rw [hr.cell (0 + j) (v := X[j]) (by rw [Nat.zero_add]; exact Array.getElem?_eq_getElem hg)]; rfl
  · exact hr.free _
theorem after_snoc {k k1 : St.K} {l : List Wl.R} {i : Nat} (h : St.after k (l.take i) = some k1) (hi : i < l.length) : St.after k (l.take (i + 1)) = St.one k1 l[i] := after_take_succ h hi
theorem after_none_all {k k1 : St.K} {l : List Wl.R} {i : Nat} (h : St.after k (l.take i) = some k1) (hi : i < l.length) (h0 : St.one k1 l[i] = none) : St.after k l = none := by
  cases ha : St.after k l with
  | none => rfl
  | some k' =>
    obtain ⟨k2, h2⟩ := St.after_take ha (i + 1)
    rw [after_take_succ h hi, h0] at h2
    cases h2
structure RaI (w : World) (g : Nat) (k : St.K) (l : List Wl.R) (i : Nat) (k1 : St.K) (A : Option Addr) (c : Nat) (wr : World) : Prop where
  af : St.after k (l.take i) = some k1
  fit : St.Fit k1
  snap : k1.snap = k.snap
  len : k1.ents.length ≤ k.ents.length + i
  kr : Rw wr g (kC k1 (.slice A k1.ents.length c)) 62
  zr : Rw wr (g + 1) zK 62
  lies : Lies wr A (ec k1.ents)
  bl : Bl w wr
  far : ∀ b off, A = some ⟨b, off, none⟩ → ec k1.ents ≠ [] → b ≠ g ∧ b ≠ g + 1
theorem lies_puts {W : World} {A : Option Addr} {vs : List Value} (h : Lies W A vs) {g : Nat} (hg : ∀ b off, A = some ⟨b, off, none⟩ → vs ≠ [] → b ≠ g) (n : Nat) (xs : List Value) : Lies (W.setCells g n xs) A vs := by
  rcases h with h | ⟨b, off, rfl, hlt, hc⟩
  · exact .inl h
  · by_cases hv : vs = []
    · exact .inl hv
    · have hb := setCells_other (hg b off rfl hv) xs n W
      have hlt2 : b < (W.setCells g n xs).heap.size := by
        have h1 : W.heap[b]? = some W.heap[b] := Array.getElem?_eq_getElem hlt
        rw [← hb] at h1
        exact (Array.getElem?_eq_some_iff.1 h1).1
      refine .inr ⟨b, off, rfl, hlt2, fun i u hu => ?_⟩
      have := hc i u hu
      unfold World.cell? at this ⊢
      rw [hb]; exact this
set_option maxRecDepth 100000 in
set_option maxHeartbeats 8000000 in
theorem rafter_any (k : St.K) (A : Option Addr) (c : Nat) (l : List Wl.R) (AR : Option Addr) (cr : Nat) (w : World) (hA : Lies w A (ec k.ents)) (hR : Lies w AR (wrs l)) (hf : St.Fit k) (hk : k.snap.idx + k.ents.length + l.length + 1 < 18446744073709551615) (hn : k.ents.length + l.length ≤ 1000000) (hr : ∀ r ∈ l, Wl.Fits r) :
    Calls Tryz.prog 23 #[.agg (kC k (.slice A k.ents.length c)), .slice AR l.length cr] w (RetRA 1 (St.after k l) w) := by
  have HR := Lib.hid hR
  have HFi := Lib.hid hr
  have H0 : Hid (∀ W, Rw W w.heap.size (kC k (.slice A k.ents.length c)) 62 → Rw W (w.heap.size + 1) zK 62 → Bl w W → RaI w w.heap.size k l 0 k A c W) := Lib.hid fun W h1 h2 h3 => ⟨rfl, hf, rfl, Nat.le_refl _, h1, h2, hA.below h3.bel, h3, fun b off e hne => by
    rcases hA with h | ⟨b', off', e', hlt, _⟩
    · exact absurd h hne
    · rw [e] at e'
      injection e' with e'
      injection e' with e'
      omega⟩
  clear hA hR hf hr
  go_enter Tryz.func23, Tryz.ntmps23
  go_upto_region 1 with (fail)
  have hsz : (w.alloc (.cells (kC k (.slice A k.ents.length c)) 62)).heap.size = w.heap.size + 1 := by simp
  refine forget (RaI w w.heap.size k l 0 k A c) (H0.out _ ((Rw.new w _ _).alloc _) (by have := Rw.new (w.alloc (.cells (kC k (.slice A k.ents.length c)) 62)) zK 62; rw [hsz] at this; exact this) (((Bl.refl w).alloc _).alloc _)) ?_
  intro W1 H1
  obtain ⟨g, hg⟩ : ∃ g, g = w.heap.size := ⟨_, rfl⟩
  try rw [hsz]
  rw [← hg] at H1 ⊢
  have HI := Lib.hid H1
  have Hg : Hid (w.heap.size ≤ g) := Lib.hid (by rw [hg]; exact Nat.le_refl _)
  clear H1 hg hsz H0
  go_wp2_with fail
  go_loopw [6, 7] (fun i ok wr => ∃ j k1 A1 c1, j ≤ l.length ∧ i = .int .i64 (j : Int) ∧ RaI w g k l j k1 A1 c1 wr) (fun i _ _ => l.length - (intOf i).toNat)
  case atStart => exact ⟨0, k, A, c, Nat.zero_le _, rfl, HI.out⟩
  case round =>
    obtain ⟨j, k1, A1, c1, hj, rfl, hI⟩ := hrel
    have HJ := Lib.hid hI
    by_cases hlt : j < l.length
    · obtain ⟨br, or, hAR, hP⟩ := HR.out.recd j hlt
      replace hP := hP.bel hI.bl.bel
      have hrf := HFi.out l[j] (List.getElem_mem hlt)
      have hst := after_snoc hI.af hlt
      have hno := after_none_all hI.af hlt
      obtain ⟨r, hr⟩ : ∃ r, r = l[j] := ⟨_, rfl⟩
      rw [← hr] at hP hrf hst hno
      subst hAR
      have HOne := Lib.hid (fun W (h : Below wr.heap.size wr W) => rone_any k1 A1 c1 r W (hI.lies.below h) hI.fit (by rw [hI.snap]; have := hI.len; omega) (by have := hI.len; omega) hrf)
      have HSt := Lib.hid (And.intro hst hno)
      obtain ⟨_, s0, s1, s2, s3, s4, s5, s6, s7, s8, s9, s10, s11, s12, s13, s14, s15⟩ := hP
      obtain ⟨x0, x1, x2, x3, x4, x5, x6, x7, x8, x9, x10⟩ := rk_cells hI.kr
      unfold kC recC at HOne
      have HBa : Hid (Below wr.heap.size wr wr.drew) := Lib.hid (below_drew (Below.refl _ _))
      cases hone : St.one k1 r with
      | none =>
        rw [hone] at HOne
        unfold RetOne at HOne
        have E : Hid (St.after k l = none) := Lib.hid (HSt.out.2 hone)
        obtain ⟨Z, hZ⟩ : ∃ Z, Z = zK := ⟨_, rfl⟩
        have hZs : Z.size = 11 := by rw [hZ]; rfl
        have hZ1 : Z.all (·.oneCell') = true := by rw [hZ]; exact zK_one
        rw [← hZ] at HOne
        have HFa := Lib.hid (fun w2 (h : Below wr.drew.heap.size wr.drew w2) => And.intro (store_any11 w2 g _ Z (hI.kr.bel (HBa.out.trans h)) rfl hZs hZ1) (show Rw (w2.setCells g 0 Z.toList) (g + 1) zK 62 ∧ Bl w (w2.setCells g 0 Z.toList) from ⟨(hI.zr.bel (HBa.out.trans h)).oputs (by omega) _ _, (Bl.next hI.bl (HBa.out.trans h)).puts Hg.out _ _⟩))
        clear hI hr hrf hst hno hone hZ hZ1
        go_upto_region 5 with (fail)
        go_region_law (go_simp; go_at_call 65; refine (HOne.out _ HBa.out).mono ?_; rintro e w2 ⟨rfl, hb2⟩; obtain ⟨hst, hfin⟩ := HFa.out w2 hb2; have HFn := Lib.hid hfin; clear hb2 hfin)
        all_goals (
          go_upto_region 6 with (fail)
          clear hst x0 x1 x2 x3 x4 x5 x6 x7 x8 x9 x10 s0 s1 s2 s3 s4 s5 s6 s7 s8 s9 s10 s11 s12 s13 s14 s15
          refine forget (fun W4 => Rw W4 (g + 1) zK 62 ∧ Bl w W4) HFn.out ?_
          intro W4 H4
          have HI4 := Lib.hid H4
          clear H4 HFn
          go_wp2_with (first
            | (refine wpList_built rfl 62 _ rfl zK (by kernel_rfl) ?_)
            | (refine wpList_store_sub rfl 62 _ _ rfl (g + 1) 0 rfl 62 zK zK rfl HI4.out.1 (Nat.le_refl 11) zK_sizeR zK_one ?_))
          refine bodyPost_ret (results_ct (P := Tryz.prog) (fn := Tryz.f23) rfl _ _ (g + 1) 62 zK (0, 0) _ rfl (HI4.out.1.over rfl) Tryz.underlying62 rfl zK_sizeR) rfl ?_
          rw [E.out]
          exact ⟨rfl, (HI4.out.2.puts (by have := Hg.out; omega) _ _).bel⟩)
      | some k2 =>
        rw [hone] at HOne
        unfold RetOne at HOne
        have hl2 := one_len hone
        have hf2 := St.one_fit hI.fit hone
        have HFar : Hid (∀ A2, ((A2 = A1 ∧ k2.ents = k1.ents) ∨ ∀ b off, A2 = some ⟨b, off, none⟩ → wr.drew.heap.size ≤ b) → ∀ b off, A2 = some ⟨b, off, none⟩ → ec k2.ents ≠ [] → b ≠ g ∧ b ≠ g + 1) := Lib.hid fun A2 h b off e hne => by
          have hz := hI.zr.lt
          have hd : wr.drew.heap.size = wr.heap.size := rfl
          rcases h with ⟨rfl, he⟩ | h
          · exact hI.far b off e (by rw [← he]; exact hne)
          · have := h b off e
            omega
        have HFa := Lib.hid (fun A2 c2 w2 (h : Below wr.drew.heap.size wr.drew w2) (hl : Lies w2 A2 (ec k2.ents)) (hfr : (A2 = A1 ∧ k2.ents = k1.ents) ∨ ∀ b off, A2 = some ⟨b, off, none⟩ → wr.drew.heap.size ≤ b) => And.intro (store_any11 w2 g _ (kC k2 (.slice A2 k2.ents.length c2)) (hI.kr.bel (HBa.out.trans h)) rfl rfl (kC_one _ _ _ _)) (show RaI w g k l (j + 1) k2 A2 c2 (w2.setCells g 0 (kC k2 (.slice A2 k2.ents.length c2)).toList) from
          ⟨HSt.out.1.trans hone, hf2.1, hl2.2.trans hI.snap, by have := hl2.1; have := hI.len; omega, (hI.kr.bel (HBa.out.trans h)).over rfl, (hI.zr.bel (HBa.out.trans h)).oputs (by omega) _ _, lies_puts hl (fun b off e hne => (HFar.out A2 hfr b off e hne).1) _ _, (Bl.next hI.bl (HBa.out.trans h)).puts Hg.out _ _, HFar.out A2 hfr⟩))
        have hZ11 : ∀ v, (kC k2 v).size = 11 := fun _ => rfl
        clear hI hr hrf hst hno hone hl2 hf2
        go_upto_region 5 with (fail)
        go_region_law (go_simp; go_at_call 65; refine (HOne.out _ HBa.out).mono ?_; rintro e w2 ⟨A2, c2, rfl, hl2, hb2, hfr⟩; obtain ⟨hst, hfin⟩ := HFa.out A2 c2 w2 hb2 hl2 hfr; have HFn := Lib.hid hfin; clear hb2 hl2 hfr hfin)
        all_goals (
          go_upto_region 6 with (fail)
          clear hst x0 x1 x2 x3 x4 x5 x6 x7 x8 x9 x10 s0 s1 s2 s3 s4 s5 s6 s7 s8 s9 s10 s11 s12 s13 s14 s15
          refine forget (RaI w g k l (j + 1) k2 A2 c2) HFn.out ?_
          intro W4 H4
          have HI4 := Lib.hid H4
          clear H4 HFn
          go_wp2_with fail
          go_roundw
          case rel => exact ⟨j + 1, k2, A2, c2, by omega, by go_num, HI4.out⟩
          case measure => simp [intOf]; omega)
    · obtain rfl : j = l.length := by omega
      have E : Hid (St.after k l = some k1) := Lib.hid (by have := hI.af; rwa [List.take_of_length_le (Nat.le_refl _)] at this)
      have HZZ : Hid ((kC k1 (.slice A1 k1.ents.length c1)).all (·.oneCell') = true ∧ (Tryz.prog.info? 62).map (·.size) = some (kC k1 (.slice A1 k1.ents.length c1)).size) := Lib.hid ⟨kC_one _ _ _ _, by kernel_rfl⟩
      clear hI
      go_wp2_with (first
        | (refine wpList_load_sub rfl 62 _ rfl g 0 rfl 62 (kC k1 (.slice A1 k1.ents.length c1)) (kC k1 (.slice A1 k1.ents.length c1)) (0, 0) _ HJ.out.kr (fun m hm => by rw [Nat.zero_add]) Tryz.underlying62 rfl HZZ.out.2 ?_)
        | (refine wpList_store_sub rfl 62 _ _ rfl (g + 1) 0 rfl 62 zK (kC k1 (.slice A1 k1.ents.length c1)) rfl HJ.out.zr (Nat.le_refl 11) HZZ.out.2 HZZ.out.1 ?_))
      refine bodyPost_ret (results_ct (P := Tryz.prog) (fn := Tryz.f23) rfl _ _ (g + 1) 62 (kC k1 (.slice A1 k1.ents.length c1)) (0, 0) _ rfl (HJ.out.zr.over rfl) Tryz.underlying62 rfl HZZ.out.2) rfl ?_
      rw [E.out]
      exact ⟨A1, c1, rfl, lies_puts HJ.out.lies (fun b off e hne => (HJ.out.far b off e hne).2) _ _, (HJ.out.bl.puts (by have := Hg.out; omega) _ _).bel⟩
end Go.Proofs.YtjhbpcecdhdnoaaGreatDoor
namespace Go.Proofs.YtjhbpcecdhdnoaaGreatDoor
open Go.RowKit
namespace St
def lq (k : K) (s : Sn) (i : Nat) : List En.E := if has k s.idx s.trm then (k.ents.take i).drop (pl k s.idx + 1) else []
theorem lq_low {k : K} {s : Sn} {i : Nat} (h : i ≤ pl k s.idx + 1) : lq k s i = [] := by
  unfold lq
  split
  · exact List.drop_eq_nil_of_le (by rw [List.length_take]; omega)
  · rfl
theorem lq_add {k : K} {s : Sn} {i : Nat} (h : pl k s.idx < i) (hi : i < k.ents.length) (hh : has k s.idx s.trm = true) : lq k s (i + 1) = lq k s i ++ [k.ents[i]] := by
  unfold lq
  rw [if_pos hh, if_pos hh, List.take_succ_eq_append_getElem hi, List.drop_append_of_le_length (by rw [List.length_take]; omega)]
theorem lq_no {k : K} {s : Sn} (i : Nat) (hh : has k s.idx s.trm = false) : lq k s i = [] := by unfold lq; rw [hh]; rfl
theorem lq_len (k : K) (s : Sn) (i : Nat) : (lq k s i).length ≤ k.ents.length := by
  unfold lq
  split
  · rw [List.length_drop, List.length_take]; omega
  · exact Nat.zero_le _
theorem cut_lq {k : K} {s : Sn} (h : k.snap.idx < s.idx) : cut k s = some ⟨k.trm, k.vote, s, lq k s k.ents.length⟩ := by
  unfold cut lq
  rw [if_neg (by omega), List.take_of_length_le (Nat.le_refl _)]
theorem has_at {k : K} {s : Sn} (hi : pl k s.idx < k.ents.length) : has k s.idx s.trm = decide (k.ents[pl k s.idx].trm = s.trm) := by unfold has; rw [List.getElem?_eq_getElem hi]
theorem idx_pl {k : K} (hf : Fit k) {s : Sn} (h : k.snap.idx < s.idx) {i : Nat} (hi : i < k.ents.length) : (k.ents[i].idx = s.idx ↔ i = pl k s.idx) ∧ (s.idx < k.ents[i].idx ↔ pl k s.idx < i) := by
  rw [hf.idx i hi]; unfold pl; omega
end St
structure RcI (w : World) (g : Nat) (k : St.K) (v : Value) (s : St.Sn) (L : List En.E) (B : Option Addr) (c : Nat) (wr : World) : Prop where
  kr : Rw wr g (kC k v) 62
  sr : Rw wr (g + 1) (snC s) 55
  zr : Rw wr (g + 2) zK 62
  or : Rw wr (g + 3) (kC ⟨k.trm, k.vote, s, L⟩ (.slice B L.length c)) 62
  own : wr.ownsRow (g + 4) 88 13 (.slice B L.length c) L.length (ec L)
  bl : Bl w wr
  gw : w.heap.size ≤ g
theorem RcI.bel {w : World} {g : Nat} {k : St.K} {v : Value} {s : St.Sn} {L : List En.E} {B : Option Addr} {c : Nat} {wr wr' : World} (h : RcI w g k v s L B c wr) (hb : Below wr.heap.size wr wr') : RcI w g k v s L B c wr' :=
  ⟨h.kr.bel hb, h.sr.bel hb, h.zr.bel hb, h.or.bel hb, own_kept h.own fun q hq => hb.block q (own_lt h.own hq).1, h.bl.next hb, h.gw⟩
theorem RcI.drewN {w : World} {g : Nat} {k : St.K} {v : Value} {s : St.Sn} {L : List En.E} {B : Option Addr} {c : Nat} {wr : World} (h : RcI w g k v s L B c wr) (n : Nat) : RcI w g k v s L B c (wr.drewN n) := h.bel (below_drewN (Below.refl _ _) n)
theorem RcI.more {w : World} {g : Nat} {k : St.K} {v : Value} {s : St.Sn} {L : List En.E} {B : Option Addr} {c : Nat} {W5 : World} {e : En.E} (h : RcI w g k v s L B c W5) {w11 : World} {A2 : Option Addr} {c2 : Nat} (ho : w11.ownsRow (g + 4) 88 13 (.slice A2 (L.length + 1) c2) (L.length + 1) (ec L ++ ec1 e)) (hg : (W5.drew.alloc (.cells (ec1 e).toArray 88)).grownBy w11 (Value.slice B L.length c).ownBlock) :
    w11.cell? ⟨g + 3, 10, none⟩ = some (.slice B L.length c) ∧ w11.frozen? ⟨g + 3, 10, none⟩ = false ∧ RcI w g k v s (L ++ [e]) A2 c2 (w11.setCell ⟨g + 3, 10, none⟩ (.slice A2 (L.length + 1) c2)) := by
  have hlt : g + 3 < W5.heap.size := h.or.lt
  have hb0 : Below W5.heap.size W5 (W5.drew.alloc (.cells (ec1 e).toArray 88)) := bnew (below_drew (Below.refl _ _)) _
  have h5 := h.bel hb0
  have hB : Below (g + 4) (W5.drew.alloc (.cells (ec1 e).toArray 88)) w11 := (Below.refl _ _).grown hg (by have := hb0.size; omega) (fun q hq => (own_lt h5.own hq).2)
  have up : ∀ {j X T}, j < g + 4 → Rw (W5.drew.alloc (.cells (ec1 e).toArray 88)) j X T → Rw w11 j X T := fun {j X T} hj hr => (hB.block j hj).trans hr
  have r11 := up (by omega) h5.or
  have hgw : w.heap.size ≤ g + 3 := by have := h.gw; omega
  refine ⟨r11.cell 10 rfl, r11.free 10, (up (by omega) h5.kr).oput (by omega) _ _, (up (by omega) h5.sr).oput (by omega) _ _, (up (by omega) h5.zr).oput (by omega) _ _, ?_, ?_, ?_, h.gw⟩
  · have := r11.put 10 (.slice A2 (L.length + 1) c2)
    rw [kC_ents _ _ _ (L ++ [e])] at this
    rw [List.length_append]
    exact this
  · rw [List.length_append, ec_snoc]
    exact own_kept ho fun q hq => heap_setCell_other w11 ⟨g + 3, 10, none⟩ q _ (by have := (own_lt ho hq).2; show q ≠ g + 3; omega)
  · exact (h5.bl.bel.trans (hB.mono (by omega))).setCell (p := ⟨g + 3, 10, none⟩) hgw _
theorem rci_of (w : World) (k : St.K) (v : Value) (s : St.Sn) : Rw (((w.alloc (.cells (kC k v) 62)).alloc (.cells (snC s) 55)).alloc (.cells zK 62)) w.heap.size (kC k v) 62 ∧ Rw (((w.alloc (.cells (kC k v) 62)).alloc (.cells (snC s) 55)).alloc (.cells zK 62)) (w.heap.size + 1) (snC s) 55 ∧ Rw (((w.alloc (.cells (kC k v) 62)).alloc (.cells (snC s) 55)).alloc (.cells zK 62)) (w.heap.size + 2) zK 62 ∧ Bl w (((w.alloc (.cells (kC k v) 62)).alloc (.cells (snC s) 55)).alloc (.cells zK 62)) ∧ (((w.alloc (.cells (kC k v) 62)).alloc (.cells (snC s) 55)).alloc (.cells zK 62)).heap.size = w.heap.size + 3 := by
  have e1 : (w.alloc (.cells (kC k v) 62)).heap.size = w.heap.size + 1 := by simp
  have e2 : ((w.alloc (.cells (kC k v) 62)).alloc (.cells (snC s) 55)).heap.size = w.heap.size + 2 := by simp
  refine ⟨((Rw.new w _ _).alloc _).alloc _, ?_, ?_, (((Bl.refl w).alloc _).alloc _).alloc _, by simp⟩
  · have := Rw.new (w.alloc (.cells (kC k v) 62)) (snC s) 55
    rw [e1] at this
    exact this.alloc _
  · have := Rw.new ((w.alloc (.cells (kC k v) 62)).alloc (.cells (snC s) 55)) zK 62
    rw [e2] at this
    exact this
def RetRC (no : Int) (o : Option St.K) (w : World) (e : Ending) (w' : World) : Prop := match o with
  | some k => ∃ A c, e = .returned (.tuple #[.agg (kC k (.slice A k.ents.length c)), .int .i64 0]) ∧ Lies w' A (ec k.ents) ∧ Below w.heap.size w w' ∧ ∀ b off, A = some ⟨b, off, none⟩ → w.heap.size ≤ b
  | none => e = .returned (.tuple #[.agg zK, .int .i64 no]) ∧ Below w.heap.size w w'
set_option maxRecDepth 100000 in
set_option maxHeartbeats 8000000 in
theorem rcut_any (k : St.K) (A : Option Addr) (c : Nat) (s : St.Sn) (w : World) (hA : Lies w A (ec k.ents)) (hf : St.Fit k) (hk : k.snap.idx < Nm.top) (hs : s.idx < Nm.top) (hst : s.trm < Nm.top) (hi : k.snap.idx + k.ents.length + 1 < 18446744073709551615) (hn : k.ents.length ≤ 1000000) (htr : ∀ e ∈ k.ents, e.trm < Nm.top) :
    Calls Tryz.prog 25 #[.agg (kC k (.slice A k.ents.length c)), .agg (snC s)] w (RetRC 10 (St.cut k s) w) := by
  have HA := Lib.hid hA
  have Hf := Lib.hid hf
  have HTr := Lib.hid htr
  unfold Nm.top at hk hs hst
  clear hA hf htr
  go_enter Tryz.func25, Tryz.ntmps25
  go_upto_region 1 with (fail)
  have e1 : (w.alloc (.cells (kC k (.slice A k.ents.length c)) 62)).heap.size = w.heap.size + 1 := by simp
  have e2 : ((w.alloc (.cells (kC k (.slice A k.ents.length c)) 62)).alloc (.cells (snC s) 55)).heap.size = w.heap.size + 2 := by simp
  refine forget (fun W1 => Rw W1 w.heap.size (kC k (.slice A k.ents.length c)) 62 ∧ Rw W1 (w.heap.size + 1) (snC s) 55 ∧ Rw W1 (w.heap.size + 2) zK 62 ∧ Bl w W1 ∧ W1.heap.size = w.heap.size + 3) (rci_of w k (.slice A k.ents.length c) s) ?_
  intro W1 H1
  obtain ⟨g, hg⟩ : ∃ g, g = w.heap.size := ⟨_, rfl⟩
  try rw [e2]
  try rw [e1]
  rw [← hg] at H1 ⊢
  have HI := Lib.hid H1
  have Hg : Hid (w.heap.size ≤ g) := Lib.hid (by rw [hg]; exact Nat.le_refl _)
  obtain ⟨x0, x1, x2, x3, x4, x5, x6, x7, x8, x9, x10⟩ := rk_cells H1.1
  obtain ⟨z0, z1, z2, z3, z4, z5, z6, z7⟩ := sn_cells H1.2.1
  clear H1 hg e1 e2
  by_cases hle : s.idx ≤ k.snap.idx
  · have q1 : decide (s.idx ≤ k.snap.idx) = true := decide_eq_true hle
    have q2 : ((s.idx : Int) ≤ (k.snap.idx : Int)) = True := by simp; omega
    have E : Hid (St.cut k s = none) := Lib.hid (by unfold St.cut; rw [if_pos hle])
    clear hle
    go_wp2_with (first
      | (refine wpList_built rfl 62 _ rfl zK (by kernel_rfl) ?_)
      | (refine wpList_store_sub rfl 62 _ _ rfl (g + 2) 0 rfl 62 zK zK rfl HI.out.2.2.1 (Nat.le_refl 11) zK_sizeR zK_one ?_))
    refine bodyPost_ret (results_ct (P := Tryz.prog) (fn := Tryz.f25) rfl _ _ (g + 2) 62 zK (0, 0) _ rfl (HI.out.2.2.1.over rfl) Tryz.underlying62 rfl zK_sizeR) rfl ?_
    rw [E.out]
    exact ⟨rfl, (HI.out.2.2.2.1.puts (by have := Hg.out; omega) _ _).bel⟩
  · have q1 : decide (s.idx ≤ k.snap.idx) = false := decide_eq_false hle
    have q2 : ((s.idx : Int) ≤ (k.snap.idx : Int)) = False := by simp; omega
    have hlt : k.snap.idx < s.idx := by omega
    have E := Lib.hid (St.cut_lq hlt)
    have HIx := Lib.hid (fun i (hi : i < k.ents.length) => St.idx_pl Hf.out hlt hi)
    obtain ⟨p, hp⟩ : ∃ p, p = St.pl k s.idx := ⟨_, rfl⟩
    have HLo : Hid (∀ i, i ≤ p + 1 → St.lq k s i = []) := Lib.hid fun i h => St.lq_low (by rw [← hp]; exact h)
    have HAd : Hid (∀ i (hi : i < k.ents.length), p < i → St.has k s.idx s.trm = true → St.lq k s (i + 1) = St.lq k s i ++ [k.ents[i]]) := Lib.hid fun i hi h hh => St.lq_add (by rw [← hp]; exact h) hi hh
    have HNo : Hid (St.has k s.idx s.trm = false → ∀ i, St.lq k s i = []) := Lib.hid fun h i => St.lq_no i h
    have HHa : Hid (∀ (hi : p < k.ents.length), St.has k s.idx s.trm = decide (k.ents[p].trm = s.trm)) := Lib.hid fun hi => by subst hp; exact St.has_at hi
    rw [← hp] at HIx
    obtain ⟨H, hH⟩ : ∃ H, H = St.has k s.idx s.trm := ⟨_, rfl⟩
    rw [← hH] at HAd HNo HHa
    obtain ⟨Lq, hLq⟩ : ∃ Lq, Lq = St.lq k s := ⟨_, rfl⟩
    have HLl : Hid (∀ i, (Lq i).length ≤ k.ents.length) := Lib.hid (by rw [hLq]; exact St.lq_len k s)
    rw [← hLq] at HLo HAd HNo E
    clear hp hH hLq hle hlt
    have hg3 : W1.heap.size = g + 3 := HI.out.2.2.2.2
    go_upto_region 4 with (first
      | (refine wpList_built rfl 62 _ rfl (kC ⟨k.trm, k.vote, s, []⟩ (.slice none 0 0)) (by kernel_rfl) ?_)
      | (refine wpList_store_sub rfl 62 _ _ rfl (g + 3) 0 (by rw [← hg3]; rfl) 62 zK (kC ⟨k.trm, k.vote, s, []⟩ (.slice none 0 0)) rfl (by have := Rw.new W1 zK 62; rw [hg3] at this; exact this) (Nat.le_refl 11) zK_sizeR (kC_one _ _ _ _) ?_))
    refine forget (RcI w g k (.slice A k.ents.length c) s [] none 0) ⟨(HI.out.1.alloc _).oputs (by omega) _ _, (HI.out.2.1.alloc _).oputs (by omega) _ _, (HI.out.2.2.1.alloc _).oputs (by omega) _ _, (by have := Rw.new W1 zK 62; rw [hg3] at this; exact this.over rfl), World.ownsRow_nil _ _ _ _, (HI.out.2.2.2.1.alloc _).puts (by have := Hg.out; omega) _ _, Hg.out⟩ ?_
    intro W2 H2
    have H20 := Lib.hid H2
    clear H2 hg3 x0 x1 x2 x3 x4 x5 x6 x7 x8 x9 x10 z0 z1 z2 z3 z4 z5 z6 z7 HI
    have HL0 : Hid (Lq 0 = []) := Lib.hid (HLo.out 0 (Nat.zero_le _))
    go_wp2_with fail
    go_loopw [7, 8] (fun hv iv wr => ∃ i B cb, i ≤ k.ents.length ∧ iv = .int .i64 (i : Int) ∧ hv = .bool (decide (p < i) && H) ∧ RcI w g k (.slice A k.ents.length c) s (Lq i) B cb wr) (fun _ iv _ => k.ents.length - (intOf iv).toNat)
    case atStart => exact ⟨0, none, 0, Nat.zero_le _, rfl, by simp, by rw [HL0.out]; exact H20.out⟩
    case round =>
      obtain ⟨i, B, cb, hin, rfl, rfl, hJ⟩ := hrel
      have HJ := Lib.hid hJ
      obtain ⟨x0, x1, x2, x3, x4, x5, x6, x7, x8, x9, x10⟩ := rk_cells hJ.kr
      obtain ⟨z0, z1, z2, z3, z4, z5, z6, z7⟩ := sn_cells hJ.sr
      clear x0 x1 x2 x3 x4 x5 x6 x7 x8 x9 z2 z3 z4 z5 z6 z7
      by_cases hlt : i < k.ents.length
      · obtain ⟨be, oe, hAe, hP⟩ := HA.out.ent i hlt
        replace hP := hP.bel hJ.bl.bel
        have hix := HIx.out i hlt
        have hmem : k.ents[i] ∈ k.ents := List.getElem_mem _
        have hett := HTr.out _ hmem
        have had := HAd.out i hlt
        have hei := Hf.out.idx i hlt
        have hha : ∀ (h : i = p), H = decide ((k.ents[i]).trm = s.trm) := fun h => by subst h; exact HHa.out hlt
        obtain ⟨e, he⟩ : ∃ e, e = k.ents[i] := ⟨_, rfl⟩
        rw [← he] at hP hix hett had hei hha
        have hei2 : e.idx ≤ 18446744073709551615 := by omega
        unfold Nm.top at hett
        obtain ⟨_, c0, c1, c2, c3, c4, c5, c6, c7, c8, c9, c10, c11, c12⟩ := hP
        subst hAe
        clear hJ he hmem hei
        rcases Nat.lt_trichotomy i p with hip | hip | hip
        · -- ahead of its place
          have q1 : ((e.idx : Int) == (s.idx : Int)) = false := by simp; omega
          have q1' : ((e.idx : Int) = (s.idx : Int)) = False := by simp; omega
          have d0 : (decide (p < i) && H) = false := by rw [decide_eq_false (by omega)]; rfl
          have HD : Hid ((decide (p < i + 1) && H) = false ∧ Lq (i + 1) = Lq i) := Lib.hid ⟨by rw [decide_eq_false (by omega)]; rfl, by rw [HLo.out i (by omega), HLo.out (i + 1) (by omega)]⟩
          rw [d0]
          clear hix had hha hip d0
          go_wp2_with fail
          go_quiet (fail)
          go_wp2_with fail
          go_quiet (fail)
          go_wp2_with fail
          go_roundw
          case rel => exact ⟨i + 1, B, cb, by omega, by go_num, by rw [HD.out.1], by rw [HD.out.2]; first | exact HJ.out.drewN _ | exact (HJ.out.drewN _).drewN _⟩
          case measure => simp [intOf]; omega
        · -- at its place
          have q1 : ((e.idx : Int) == (s.idx : Int)) = true := by simp; omega
          have q1' : ((e.idx : Int) = (s.idx : Int)) = True := by simp; omega
          have d0 : (decide (p < i) && H) = false := by rw [decide_eq_false (by omega)]; rfl
          have q3 : decide (s.idx < e.idx) = false := decide_eq_false (by omega)
          have q3' : ((s.idx : Int) < (e.idx : Int)) = False := by simp; omega
          have hL : Lq (i + 1) = Lq i := by rw [HLo.out i (by omega), HLo.out (i + 1) (by omega)]
          have hH := hha hip
          have hD1 : (decide (p < i + 1) && H) = H := by rw [decide_eq_true (by omega)]; rfl
          by_cases ht : e.trm = s.trm
          · have q2 : ((e.trm : Int) == (s.trm : Int)) = true := by simp; omega
            have q2' : ((e.trm : Int) = (s.trm : Int)) = True := by simp; omega
            have HD : Hid ((decide (p < i + 1) && H) = true ∧ Lq (i + 1) = Lq i) := Lib.hid ⟨by rw [hD1, hH, decide_eq_true ht], hL⟩
            clear hL hH hD1 ht
            rw [d0]
            clear hix had hha hip d0
            go_wp2_with fail
            go_quiet (fail)
            go_wp2_with fail
            go_quiet (fail)
            go_wp2_with fail
            go_quiet (fail)
            go_wp2_with fail
            go_roundw
            case rel => exact ⟨i + 1, B, cb, by omega, by go_num, by rw [HD.out.1], by rw [HD.out.2]; first | exact HJ.out.drewN _ | exact (HJ.out.drewN _).drewN _ | exact ((HJ.out.drewN _).drewN _).drewN _⟩
            case measure => simp [intOf]; omega
          · have q2 : ((e.trm : Int) == (s.trm : Int)) = false := by simp; omega
            have q2' : ((e.trm : Int) = (s.trm : Int)) = False := by simp; omega
            have HD : Hid ((decide (p < i + 1) && H) = false ∧ Lq (i + 1) = Lq i) := Lib.hid ⟨by rw [hD1, hH, decide_eq_false ht], hL⟩
            clear hL hH hD1 ht
            rw [d0]
            clear hix had hha hip d0
            go_wp2_with fail
            go_quiet (fail)
            go_wp2_with fail
            go_quiet (fail)
            go_wp2_with fail
            go_quiet (fail)
            go_wp2_with fail
            go_roundw
            case rel => exact ⟨i + 1, B, cb, by omega, by go_num, by rw [HD.out.1], by rw [HD.out.2]; first | exact HJ.out.drewN _ | exact (HJ.out.drewN _).drewN _ | exact ((HJ.out.drewN _).drewN _).drewN _⟩
            case measure => simp [intOf]; omega
        · -- behind it
          have q1 : ((e.idx : Int) == (s.idx : Int)) = false := by simp; omega
          have q1' : ((e.idx : Int) = (s.idx : Int)) = False := by simp; omega
          have q3 : decide (s.idx < e.idx) = true := decide_eq_true (by omega)
          have q3' : ((s.idx : Int) < (e.idx : Int)) = True := by simp; omega
          cases H with
          | false =>
            have d0 : (decide (p < i) && false) = false := by simp
            have HD : Hid ((decide (p < i + 1) && false) = false ∧ Lq (i + 1) = Lq i) := Lib.hid ⟨by simp, by rw [HNo.out rfl, HNo.out rfl]⟩
            rw [d0]
            clear hix had hha hip d0
            go_wp2_with fail
            go_quiet (fail)
            go_wp2_with fail
            go_quiet (fail)
            go_wp2_with fail
            go_roundw
            case rel => exact ⟨i + 1, B, cb, by omega, by go_num, by rw [HD.out.1], by rw [HD.out.2]; first | exact HJ.out.drewN _ | exact (HJ.out.drewN _).drewN _⟩
            case measure => simp [intOf]; omega
          | true =>
            have d0 : (decide (p < i) && true) = true := by rw [decide_eq_true hip]; rfl
            have HD : Hid ((decide (p < i + 1) && true) = true ∧ Lq (i + 1) = Lq i ++ [e]) := Lib.hid ⟨by rw [decide_eq_true (by omega)]; rfl, had hip rfl⟩
            have hLl := HLl.out i
            rw [d0]
            clear hix had hha hip d0
            go_wp2_with fail
            go_quiet (fail)
            go_wp2_with fail
            go_quiet (fail)
            go_upto_region 11 with (fail)
            obtain ⟨L, hL⟩ : ∃ L, L = Lq i := ⟨_, rfl⟩
            rw [← hL] at HJ HD hLl
            refine forget (fun W5 => RcI w g k (.slice (some ⟨be, oe, none⟩) k.ents.length c) s L B cb W5 ∧ EntL W5 be (oe + i * 13) e) ⟨by first | exact HJ.out.drewN _ | exact (HJ.out.drewN _).drewN _, ⟨by assumption, c0, c1, c2, c3, c4, c5, c6, c7, c8, c9, c10, c11, c12⟩⟩ ?_
            intro W5 H5
            clear c0 c1 c2 c3 c4 c5 c6 c7 c8 c9 c10 c11 c12 x10 z0 z1 hL
            have H50 := Lib.hid H5
            obtain ⟨x0, x1, x2, x3, x4, x5, x6, x7, x8, x9, x10⟩ := rk_cells (H5.1.kr.bel (below_drew (Below.refl _ _)))
            obtain ⟨y0, y1, y2, y3, y4, y5, y6, y7, y8, y9, y10⟩ := rk_cells (H5.1.or.bel (below_drew (Below.refl _ _)))
            obtain ⟨_, c0, c1, c2, c3, c4, c5, c6, c7, c8, c9, c10, c11, c12⟩ := H5.2.bel (below_drew (Below.refl _ _))
            have hbx := bnew (below_drew (Below.refl W5.heap.size W5)) (.cells (ec1 e).toArray 88)
            have HX : Hid (((W5.alloc (.cells (ec1 e).toArray 88)).drew).ownsRow (g + 4) 88 13 (.slice B L.length cb) L.length (ec L) ∧ g + 4 ≤ ((W5.alloc (.cells (ec1 e).toArray 88)).drew).heap.size) := Lib.hid ⟨(H5.1.bel hbx).own, by show g + 4 ≤ (W5.drew.alloc (.cells (ec1 e).toArray 88)).heap.size; have := hbx.size; have := H5.1.or.lt; omega⟩
            have HNw : Hid (∀ j u, (ec1 e)[j]? = some u → ((W5.alloc (.cells (ec1 e).toArray 88)).drew).cell? ((⟨W5.heap.size, 0, none⟩ : Addr).add j) = some u) := Lib.hid (news_fl W5 (ec1 e) 88)
            have HE1 := Lib.hid (ec1_one e)
            obtain ⟨yb0, yb1, yb2, yb3, yb4, yb5, yb6, yb7, yb8, yb9, yb10⟩ := rk_cells (H5.1.or.bel hbx)
            have yb11 : ((W5.alloc (.cells (ec1 e).toArray 88)).drew).cell? ⟨g + 3, 10, none⟩ = some (.slice B L.length cb) := yb10
            unfold ec1 at yb11
            clear yb10
            obtain ⟨i0, hi0, hz0, hz1, hz2⟩ := info_parts infoEn
            have HI0 := Lib.hid (And.intro hi0 (And.intro hz0 (And.intro hz1 hz2)))
            have hL6 : L.length ≤ 1000000 := by omega
            clear H5 hbx hi0 hz0 hz1 hz2 x0 x1 x2 x3 x4 x5 x6 x7 x8 x9 y0 y1 y2 y3 y4 y5 y6 y7 y8 y9 yb0 yb1 yb2 yb3 yb4 yb5 yb6 yb7 yb8 yb9
            go_region_law (refine step_app_own rfl (.tmp 60) (.tmp 66) 56 rfl (g + 4) 88 i0 (.agg (entC En.zero)) 13 48 Tryz.underlying56 HI0.out.1 HI0.out.2.1 HI0.out.2.2.1 HI0.out.2.2.2 rfl (by decide) _ L.length _ rfl HX.out.1 ⟨W5.heap.size, 0, none⟩ 1 1 (ec1 e) rfl rfl HNw.out HE1.out (by simp only [maxLen]; omega) (by omega) HX.out.2 ?_; intro v' w11 ho hg' hn'; obtain ⟨A2, c2', rfl, _⟩ := own_slice ho; have hFin := H50.out.1.more ho hg'; have x11 := hFin.1; have f11 := hFin.2.1; have HFz := Lib.hid hFin.2.2; clear hFin ho hg' hn')
            all_goals (
              go_wp2_with fail
              go_roundw
              case rel => exact ⟨i + 1, A2, c2', by omega, by go_num, by rw [HD.out.1], by rw [HD.out.2]; exact HFz.out⟩
              case measure => simp [intOf]; omega)
      · obtain rfl : i = k.ents.length := by omega
        obtain ⟨L, hL⟩ : ∃ L, L = Lq k.ents.length := ⟨_, rfl⟩
        rw [← hL] at HJ E
        have HZZ : Hid ((kC ⟨k.trm, k.vote, s, L⟩ (.slice B L.length cb)).all (·.oneCell') = true ∧ (Tryz.prog.info? 62).map (·.size) = some (kC ⟨k.trm, k.vote, s, L⟩ (.slice B L.length cb)).size) := Lib.hid ⟨kC_one _ _ _ _, by kernel_rfl⟩
        clear hJ hL z0 z1
        go_upto_region 12 with (fail)
        clear x10
        go_wp2_with (first
          | (refine wpList_load_sub rfl 62 _ rfl (g + 3) 0 rfl 62 (kC ⟨k.trm, k.vote, s, L⟩ (.slice B L.length cb)) (kC ⟨k.trm, k.vote, s, L⟩ (.slice B L.length cb)) (0, 0) _ HJ.out.or (fun m hm => by rw [Nat.zero_add]) Tryz.underlying62 rfl HZZ.out.2 ?_)
          | (refine wpList_store_sub rfl 62 _ _ rfl (g + 2) 0 rfl 62 zK (kC ⟨k.trm, k.vote, s, L⟩ (.slice B L.length cb)) rfl HJ.out.zr (Nat.le_refl 11) HZZ.out.2 HZZ.out.1 ?_))
        refine bodyPost_ret (results_ct (P := Tryz.prog) (fn := Tryz.f25) rfl _ _ (g + 2) 62 (kC ⟨k.trm, k.vote, s, L⟩ (.slice B L.length cb)) (0, 0) _ rfl (HJ.out.zr.over rfl) Tryz.underlying62 rfl HZZ.out.2) rfl ?_
        rw [E.out]
        refine ⟨B, cb, rfl, ?_, (HJ.out.bl.puts (by have := Hg.out; omega) _ _).bel, fun b off e => by subst e; obtain ⟨A2, c2, hv, hb⟩ := own_slice HJ.out.own; injection hv with hv; have := (hb b off hv.symm).1; have := Hg.out; omega⟩
        exact lies_own13 (own_kept HJ.out.own fun q hq => setCells_other (by have := (own_lt HJ.out.own hq).2; omega) _ _ _)
end Go.Proofs.YtjhbpcecdhdnoaaGreatDoor
