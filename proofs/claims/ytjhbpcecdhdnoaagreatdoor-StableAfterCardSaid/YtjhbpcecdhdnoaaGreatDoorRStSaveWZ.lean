/-
  The store's Save walked.
  The store's Cut walked.
-/
import Derived.Test.YtjhbpcecdhdnoaaGreatDoorRStTurnZ
import Derived.Test.YtjhbpcecdhdnoaaGreatDoorRStCut
set_option linter.unusedSimpArgs false
set_option linter.unusedVariables false
namespace Go.Proofs.YtjhbpcecdhdnoaaGreatDoor
open Go.RowKit
section
variable {At : DkAt}
theorem save_off {d : Dk.D} {n b : Nat} {k : St.K} {l : List Wl.R} (h : d.off = true) : St.save d n b k l = (7, d, (n, b), k, false) := by unfold St.save; rw [if_pos h]
theorem save_arg {d : Dk.D} {n b : Nat} {k : St.K} {l : List Wl.R} (h : d.off = false) (ha : St.after k l = none) : St.save d n b k l = (1, d, (n, b), k, false) := by unfold St.save; rw [if_neg (by rw [h]; decide), ha]
theorem save_nil {d : Dk.D} {n b : Nat} {k k' : St.K} {l : List Wl.R} (h : d.off = false) (ha : St.after k l = some k') (hl : l = []) : St.save d n b k l = (0, d, (n, b), k, false) := by unfold St.save; rw [if_neg (by rw [h]; decide), ha]; simp only []; rw [if_pos hl]
theorem save_some {d : Dk.D} {n b : Nat} {k k' : St.K} {l : List Wl.R} (h : d.off = false) (ha : St.after k l = some k') (hl : l ≠ []) : St.save d n b k l = St.done (St.add d n b l k') k k' := by unfold St.save; rw [if_neg (by rw [h]; decide), ha]; simp only []; rw [if_neg hl]
theorem eno_range (e : Dk.E) : 0 ≤ eno e ∧ eno e ≤ 1000 := by cases e <;> decide
theorem er_range (e : Wl.Er) : 0 ≤ e.no ∧ e.no ≤ 1000 := by
  cases e with
  | of e => exact eno_range e
  | there => exact ⟨by decide, by decide⟩
theorem turn_range (d : Dk.D) (n b : Nat) (k : St.K) : 0 ≤ (St.turn d n b k).1 ∧ (St.turn d n b k).1 ≤ 1000 := by
  unfold St.turn; split
  · exact eno_range _
  · exact er_range _
theorem add_range (d : Dk.D) (n b : Nat) (l : List Wl.R) (k : St.K) : 0 ≤ (St.add d n b l k).1 ∧ (St.add d n b l k).1 ≤ 1000 := by
  unfold St.add; split
  · split
    · exact ⟨Int.le_refl 0, (by decide : (0 : Int) ≤ 1000)⟩
    · exact turn_range _ _ _ _
  · exact eno_range _
theorem inst_range (d : Dk.D) (n b o : Nat) (k : St.K) : 0 ≤ (St.install d n b o k).1 ∧ (St.install d n b o k).1 ≤ 1000 := by
  unfold St.install; split
  · split
    · exact eno_range _
    · exact turn_range _ _ _ _
  · exact eno_range _
theorem ends_any {W4 w5 : World} {q p lq : Nat} {S : Nat → Prop} {k k' : St.K} {v v' : Value} {R : Int × Dk.D × (Nat × Nat)} (hv : v'.oneCell' = true) (hr : 0 ≤ R.1 ∧ R.1 ≤ 1000) (hg : Goes At W4 q p lq S k v R w5) (W6 : World) (hb : Below w5.heap.size w5 W6) :
    Calls Tryz.prog 77 #[.pointer (some ⟨q, 0, none⟩), .agg (kC k' v'), .int .i64 R.1] W6 fun r w' => r = .returned (.int .i64 R.1) ∧
      ∃ lq' S', Sr At w5 q p lq' R.2.2.1 R.2.2.2 S' R.2.1 k v ∧ (∀ x, S' x → S x ∨ W4.heap.size ≤ x) ∧ (lq' = lq ∨ W4.heap.size ≤ lq') ∧ Ko (StS S q lq) W4 w5 ∧ Ended W6 w' q p (.pointer (some ⟨lq', 0, none⟩)) k v false k' v' R.1 := by
  obtain ⟨⟨lq', S', h1, h2, h3⟩, h4⟩ := hg
  refine (send_any W6 q p (.pointer (some ⟨lq', 0, none⟩)) k v false k' v' R.1 (h1.row.bel hb) hv hr).mono ?_
  rintro r w' ⟨rfl, he⟩
  exact ⟨rfl, lq', S', h1, h2, h3, h4, he⟩
set_option maxRecDepth 100000 in
set_option maxHeartbeats 8000000 in
theorem save_any (K : DiskK At) (W : World) (q p lq n b : Nat) (S : Nat → Prop) (d : Dk.D) (k : St.K) (A : Option Addr) (c : Nat) (l : List Wl.R) (AR : Option Addr) (cr : Nat) (hS : Sto At W q p lq n b S d k A c false) (hE : ∀ W', Ko (StS S q lq) W W' → EnvT W') (hn : n + 1 < Nm.top)
    (hR : Lies W AR (wrs l)) (hl : Recs l) (ho : Wl.Ok l) (hb : b + l.length ≤ 1000000000) (hlen : k.ents.length + l.length ≤ 1000000)
    (hk' : ∀ k', St.after k l = some k' → St.Small k' ∧ k'.ents.length ≤ 100000)
    (hc : Dk.load d + Wl.cost (l.map Wl.text) ≤ 100000000) (hc2 : ∀ k', St.after k l = some k' → Dk.load (Wl.add d n l).2 + 100 + Wl.cost ((St.base k').map Wl.text) ≤ 100000000) :
    Calls Tryz.prog 30 #[.pointer (some ⟨q, 0, none⟩), .slice AR l.length cr] W fun e w' => e = .returned (.int .i64 (St.save d n b k l).1) ∧ Stored At W q p lq S (St.save d n b k l) w' := by
  have HS := Lib.hid hS
  have HKd := Lib.hid K
  have HPw := Lib.hid (spower_any K W q p S d _ k _ false hS.at_ hS.row)
  have HAf := Lib.hid (fun W1 (h : Below W.heap.size W W1) => after_any k A c l AR cr W1 (hS.kin.lies.below h) hS.kin.nil (hR.below h) hS.kin.small.six hlen hl)
  have HAd := Lib.hid (fun W4 (h : Below W.heap.size W W4) k' A' c' (ha : St.after k l = some k') (hK : KIn W4 k' A' c') (haw : Away (StS S q lq) A' (ec k'.ents)) W5 (h5 : Below W4.heap.size W4 W5) =>
    sadd_any K W5 q p lq n b S d k (.slice A k.ents.length c) k' A' c' l AR cr ((hS.sr.bel K h).bel K h5) (fun W6 h6 => hE W6 (((Ko.bel h).trans (T := StS S q lq) (Ko.bel h5) fun _ h => .inl h).trans (T := StS S q lq) h6 fun _ h => .inl h)) hn (hK.bel h5) haw ((hR.below h).below h5) ho hb hc (hc2 k' ha))
  have HSm := Lib.hid hk'
  obtain ⟨Y, hY⟩ : ∃ Y, Y = stC p (.pointer (some ⟨lq, 0, none⟩)) k (.slice A k.ents.length c) false := ⟨_, rfl⟩
  obtain ⟨X, hX⟩ : ∃ X, X = kC k (.slice A k.ents.length c) := ⟨_, rfl⟩
  have HX : Hid ((Tryz.prog.info? 58).map (·.size) = some X.size) := Lib.hid (by rw [hX]; exact sizeKept' _ _)
  have HSub : Hid (∀ j, j < X.size → Y[258 + j]? = X[j]?) := Lib.hid (by rw [hX, hY]; exact fun j hj => stC_k _ _ _ _ _ j hj)
  have HY : Hid (∀ W1, Below W.heap.size W W1 → Rw W1 q Y 99) := Lib.hid (by rw [hY]; exact fun W1 h => hS.row.bel h)
  rw [← hX] at HAf
  have hlen' : l.length ≤ 1000000 := by omega
  clear hY hX hS hE hn hR ho hb hlen hk' hc hc2 K hl
  cases hoff : d.off with
  | true =>
    have E := Lib.hid (save_off (n := n) (b := b) (k := k) (l := l) hoff)
    rw [hoff] at HPw
    have e7 : pwr false true = 7 := rfl
    rw [e7] at HPw
    clear e7 hoff
    go_enter Tryz.func30, Tryz.ntmps30
    go_wp2_with fail
    refine HPw.out.mono ?_
    rintro e w1 ⟨rfl, hb1⟩
    go_wp2_with fail
    go_ret
    rw [E.out]
    exact ⟨rfl, Stored.same HKd.out HS.out hb1 7⟩
  | false =>
  rw [hoff] at HPw
  have e0 : pwr false false = 0 := rfl
  rw [e0] at HPw
  have Hoff := Lib.hid hoff
  clear e0 hoff
  go_enter Tryz.func30, Tryz.ntmps30
  go_wp2_with fail
  refine HPw.out.mono ?_
  rintro e w1 ⟨rfl, hb1⟩
  have HB1 := Lib.hid hb1
  clear hb1
  go_wp2_with (refine wpList_load_sub rfl 58 _ rfl q 258 rfl 99 Y X (0, 0) _ (HY.out _ HB1.out) HSub.out Tryz.underlying58 rfl HX.out ?_)
  refine (HAf.out w1 HB1.out).mono ?_
  intro e w2 haf
  cases hak : St.after k l with
  | none =>
    have E := Lib.hid (save_arg (n := n) (b := b) Hoff.out hak)
    rw [hak] at haf
    obtain ⟨rfl, hb2⟩ := haf
    have HB2 := Lib.hid (bnext HB1.out hb2)
    clear hb2 hak HAd
    obtain ⟨Z, hZ⟩ : ∃ Z, Z = zK := ⟨_, rfl⟩
    have HZZ : Hid (Z.size = 11 ∧ Z.all (·.oneCell') = true ∧ (Tryz.prog.info? 58).map (·.size) = some Z.size) := Lib.hid (by rw [hZ]; exact ⟨rfl, zK_one, zK_size⟩)
    rw [← hZ]
    clear hZ
    go_upto_region 5 with (refine wpList_store_sub rfl 58 _ _ rfl w2.heap.size 0 rfl 58 zK Z rfl ?_ (by rw [HZZ.out.1]; exact Nat.le_refl 11) HZZ.out.2.2 HZZ.out.2.1 ?_; exact heap_alloc_new w2 _)
    refine forget (fun W4 => Below w2.heap.size w2 W4) (((Bl.refl w2).alloc _).puts (Nat.le_refl _) _ _).bel ?_
    intro W4 h4
    go_wp2_with fail
    go_ret
    rw [E.out]
    exact ⟨rfl, Stored.same HKd.out HS.out (bnext HB2.out h4) 1⟩
  | some k' =>
    rw [hak] at haf
    obtain ⟨A', c', rfl, ho2, hb2⟩ := haf
    have HB2 := Lib.hid (bnext HB1.out hb2)
    have HO2 := Lib.hid ho2
    have Hak := Lib.hid hak
    have HB1s : Hid (W.heap.size ≤ w1.heap.size) := Lib.hid HB1.out.size
    have HSk := Lib.hid (HSm.out k' hak)
    clear hb2 ho2 hak
    obtain ⟨Z, hZ⟩ : ∃ Z, Z = kC k' (.slice A' k'.ents.length c') := ⟨_, rfl⟩
    have HZZ : Hid (Z.size = 11 ∧ Z.all (·.oneCell') = true ∧ (Tryz.prog.info? 58).map (·.size) = some Z.size) := Lib.hid (by rw [hZ]; exact ⟨rfl, kC_one _ _ _ _, sizeKept' _ _⟩)
    have HZe := Lib.hid hZ
    rw [← hZ]
    clear hZ
    go_upto_region 5 with (refine wpList_store_sub rfl 58 _ _ rfl w2.heap.size 0 rfl 58 zK Z rfl ?_ (by rw [HZZ.out.1]; exact Nat.le_refl 11) HZZ.out.2.2 HZZ.out.2.1 ?_; exact heap_alloc_new w2 _)
    refine forget (fun W4 => Rw W4 w2.heap.size Z 58 ∧ Below w2.heap.size w2 W4) ⟨(Rw.new w2 zK _).over (by rw [HZZ.out.1]; rfl), (((Bl.refl w2).alloc _).puts (Nat.le_refl _) _ _).bel⟩ ?_
    intro W4 H4
    obtain ⟨gb, hgb⟩ : ∃ gb, gb = w2.heap.size := ⟨_, rfl⟩
    rw [← hgb] at H4 ⊢
    have HI := Lib.hid H4.1
    have HB4 : Hid (Below W.heap.size W W4) := Lib.hid (by rw [hgb] at H4; exact bnext HB2.out H4.2)
    have HO4 : Hid (W4.ownsRow w1.heap.size 88 13 (.slice A' k'.ents.length c') k'.ents.length (ec k'.ents)) := Lib.hid (own_kept HO2.out fun j hj => by rw [hgb] at H4; exact H4.2.block j (own_lt HO2.out hj).1)
    have Hgb : Hid (W.heap.size ≤ gb) := Lib.hid (by rw [hgb]; exact HB2.out.size)
    clear H4 hgb HO2
    by_cases hln : l = []
    · have E := Lib.hid (save_nil (n := n) (b := b) Hoff.out Hak.out hln)
      have hl0 : l.length = 0 := by rw [hln]; rfl
      rw [hl0]
      clear hln hl0
      go_wp2_with fail
      go_ret
      rw [E.out]
      exact ⟨rfl, Stored.same HKd.out HS.out HB4.out 0⟩
    have E := Lib.hid (save_some (n := n) (b := b) Hoff.out Hak.out hln)
    have hl1 : 0 < l.length := List.length_pos_iff.2 hln
    have hne : ((l.length : Int) == 0) = false := beq_eq_false_iff_ne.2 (by omega)
    have hne2 : ((l.length : Int) = 0) = False := eq_false (by omega)
    have Hkin : Hid (KIn W4 k' A' c') := Lib.hid (kin_own HO4.out HSk.out.2 HSk.out.1)
    have Haw : Hid (Away (StS S q lq) A' (ec k'.ents)) := Lib.hid (away_own HO4.out fun x hx => Nat.lt_of_lt_of_le (HS.out.sr.lts HKd.out x hx) HB1s.out)
    obtain ⟨R, hRR⟩ : ∃ R, R = St.add d n b l k' := ⟨_, rfl⟩
    have HAd2 := Lib.hid (fun W5 h5 => HAd.out W4 HB4.out k' A' c' Hak.out Hkin.out Haw.out W5 h5)
    have Hrg : Hid (0 ≤ R.1 ∧ R.1 ≤ 1000) := Lib.hid (by rw [hRR]; exact add_range _ _ _ _ _)
    rw [← hRR] at HAd2 E
    clear hRR HAd hln
    have HEn := Lib.hid (fun w5 (hg : Goes At W4 q p lq S k (.slice A k.ents.length c) R w5) W6 (h : Below w5.heap.size w5 W6) => ends_any (k' := k') (v' := .slice A' k'.ents.length c') rfl Hrg.out hg W6 h)
    have hcs := HI.out
    rw [HZe.out] at hcs
    have HC5 : Hid (∀ w5, Ko (StS S q lq) W4 w5 → Rw w5 gb (kC k' (.slice A' k'.ents.length c')) 58) := Lib.hid fun w5 hk => by
      refine hk.row (fun h => ?_) hcs
      have := HS.out.sr.lts HKd.out gb h
      have := Hgb.out
      omega
    obtain ⟨x0, x1, x2, x3, x4, x5, x6, x7, x8, x9, x10⟩ := kc_cells hcs
    unfold kC at HAd2 HEn
    clear hcs
    go_upto_region 9 with (fail)
    go_region_law (first
      | (go_simp; go_at_call 78; refine (HAd2.out _ (below_drew (Below.refl _ _))).mono ?_; rintro e w5 ⟨rfl, hg⟩; have hg' := Goes.after (below_drew (Below.refl _ _)) hg; have HG := Lib.hid hg'; obtain ⟨y0, y1, y2, y3, y4, y5, y6, y7, y8, y9, y10⟩ := kc_cells (HC5.out w5 hg'.ko); clear hg hg')
      | (go_simp; go_at_call 77; refine (HEn.out _ HG.out _ (Below.refl _ _)).mono ?_; rintro e w6 ⟨rfl, h6⟩; have H6 := Lib.hid h6; clear h6))
    all_goals (
      clear x0 x1 x2 x3 x4 x5 x6 x7 x8 x9 x10 y0 y1 y2 y3 y4 y5 y6 y7 y8 y9 y10
      go_wp2_with fail
      go_ret
      rw [E.out]
      obtain ⟨lq', S', s1, s2, s3, s4, s5⟩ := H6.out
      exact ⟨rfl, Stored.of HKd.out HS.out HB4.out s1 s2 s3 s4 (Below.refl _ _) Hkin.out Haw.out s5⟩)
end
end Go.Proofs.YtjhbpcecdhdnoaaGreatDoor
namespace Go.Proofs.YtjhbpcecdhdnoaaGreatDoor
open Go.RowKit
section
variable {At : DkAt}
theorem scut_off {d : Dk.D} {n b : Nat} {k : St.K} {s : St.Sn} (h : d.off = true) : St.scut d n b k s = (7, d, (n, b), k, false) := by unfold St.scut; rw [if_pos h]
theorem scut_old {d : Dk.D} {n b : Nat} {k : St.K} {s : St.Sn} (h : d.off = false) (ha : St.cut k s = none) : St.scut d n b k s = (10, d, (n, b), k, false) := by unfold St.scut; rw [if_neg (by rw [h]; decide), ha]
theorem scut_some {d : Dk.D} {n b : Nat} {k k' : St.K} {s : St.Sn} (h : d.off = false) (ha : St.cut k s = some k') : St.scut d n b k s = St.done (St.install d n b k.snap.idx k') k k' := by unfold St.scut; rw [if_neg (by rw [h]; decide), ha]
theorem st_cells {W : World} {q p : Nat} {lg : Value} {k : St.K} {v : Value} {lost : Bool} (h : StRow W q p lg k v lost) :
    W.cell? ⟨q, 258, none⟩ = some (.int .u64 (k.trm : Int)) ∧ W.cell? ⟨q, 259, none⟩ = some (.int .u8 (k.vote : Int)) ∧ W.cell? ⟨q, 260, none⟩ = some (.int .u64 (k.snap.idx : Int)) ∧ W.cell? ⟨q, 261, none⟩ = some (.int .u64 (k.snap.trm : Int)) ∧ W.cell? ⟨q, 262, none⟩ = some (.int .u8 (k.snap.mem : Int)) ∧
    W.cell? ⟨q, 263, none⟩ = some (.string (St.sx k.snap 0)) ∧ W.cell? ⟨q, 264, none⟩ = some (.string (St.sx k.snap 1)) ∧ W.cell? ⟨q, 265, none⟩ = some (.string (St.sx k.snap 2)) ∧ W.cell? ⟨q, 266, none⟩ = some (.string (St.sx k.snap 3)) ∧ W.cell? ⟨q, 267, none⟩ = some (.string (St.sx k.snap 4)) ∧ W.cell? ⟨q, 268, none⟩ = some v :=
  have f : ∀ j, j < 11 → W.cell? ⟨q, 258 + j, none⟩ = (kC k v)[j]? := fun j hj => by
    have h1 := stC_k p lg k v lost j hj
    have h2 : ∃ u, (kC k v)[j]? = some u := ⟨(kC k v)[j]'(by exact hj), Array.getElem?_eq_getElem _⟩
    obtain ⟨u, hu⟩ := h2
    rw [hu] at h1 ⊢
    exact Rw.cell h (258 + j) h1
  ⟨f 0 (by decide), f 1 (by decide), f 2 (by decide), f 3 (by decide), f 4 (by decide), f 5 (by decide), f 6 (by decide), f 7 (by decide), f 8 (by decide), f 9 (by decide), f 10 (by decide)⟩
theorem sn_cells {W : World} {gb : Nat} {s : St.Sn} (h : Rw W gb (snC s) 55) :
    W.cell? ⟨gb, 0, none⟩ = some (.int .u64 (s.idx : Int)) ∧ W.cell? ⟨gb, 1, none⟩ = some (.int .u64 (s.trm : Int)) ∧ W.cell? ⟨gb, 2, none⟩ = some (.int .u8 (s.mem : Int)) ∧
    W.cell? ⟨gb, 3, none⟩ = some (.string (St.sx s 0)) ∧ W.cell? ⟨gb, 4, none⟩ = some (.string (St.sx s 1)) ∧ W.cell? ⟨gb, 5, none⟩ = some (.string (St.sx s 2)) ∧ W.cell? ⟨gb, 6, none⟩ = some (.string (St.sx s 3)) ∧ W.cell? ⟨gb, 7, none⟩ = some (.string (St.sx s 4)) :=
  ⟨h.cell 0 rfl, h.cell 1 rfl, h.cell 2 rfl, h.cell 3 rfl, h.cell 4 rfl, h.cell 5 rfl, h.cell 6 rfl, h.cell 7 rfl⟩
theorem store_row11 (W2 : World) (g : Nat) (Z : Array Value) (hr : Rw W2 g zK 58) (hs : Z.size = 11) (h1 : Z.all (·.oneCell') = true) : (storeCells ⟨g, 0, none⟩ Z.toList 0).run Tryz.prog W2 = .ok () (W2.setCells g 0 Z.toList) := by
  refine run_storeCells_cells (P := Tryz.prog) g 0 Z.toList 0 _ (fun j hj => ?_) (fun j hj => ?_) (fun v hv => (Array.all_eq_true_iff_forall_mem.1 h1) v (by simpa using hv))
  · rw [Array.length_toList, hs] at hj
    have hg : j < zK.size := hj
    rw [hr.cell (0 + j) (v := zK[j]) (by rw [Nat.zero_add]; exact Array.getElem?_eq_getElem hg)]; rfl
  · exact hr.free _
theorem store_new11 (w2 : World) (Z : Array Value) (hs : Z.size = 11) (h1 : Z.all (·.oneCell') = true) : (storeCells ⟨w2.heap.size, 0, none⟩ Z.toList 0).run Tryz.prog (w2.alloc (.cells zK 58)) = .ok () ((w2.alloc (.cells zK 58)).setCells w2.heap.size 0 Z.toList) := store_row11 _ _ Z (Rw.new w2 zK _) hs h1
structure Fin3 (W : World) (Z : Array Value) (gb : Nat) (W4 : World) : Prop where
  row : Rw W4 gb Z 58
  le : W.heap.size ≤ gb
  bel : Below W.heap.size W W4
structure Fin4 (W : World) (B : Nat) (k' : St.K) (A' : Option Addr) (c' : Nat) (gb : Nat) (W4 : World) : Prop where
  f : Fin3 W (kC k' (.slice A' k'.ents.length c')) gb W4
  own : W4.ownsRow B 88 13 (.slice A' k'.ents.length c') k'.ents.length (ec k'.ents)
theorem fin_a {W w1 w2 : World} {Z : Array Value} (hb1 : Below W.heap.size W w1) (hb2 : Below w1.drew.heap.size w1.drew w2) (hs : Z.size = 11) : Fin3 W Z w2.heap.size ((w2.alloc (.cells zK 58)).setCells w2.heap.size 0 Z.toList) :=
  have hb : Below W.heap.size W w2 := bnext (below_drew hb1) hb2
  ⟨(Rw.new w2 zK _).over (by rw [hs]; rfl), hb.size, bnext hb (((Bl.refl w2).alloc _).puts (Nat.le_refl _) _ _).bel⟩
theorem row_v {w1 w2 : World} (hb2 : Below ((w1.alloc (.cells zK 58)).drew).heap.size ((w1.alloc (.cells zK 58)).drew) w2) : Rw w2 w1.heap.size zK 58 :=
  ((Rw.new w1 zK 58).bel (below_drew (Below.refl _ _))).bel hb2
theorem bel_v {W w1 : World} (hb1 : Below W.heap.size W w1) : Below W.heap.size W ((w1.alloc (.cells zK 58)).drew) := below_drew (bnew hb1 _)
theorem fin_b {W w1 w2 : World} {Z : Array Value} (hb1 : Below W.heap.size W w1) (hb2 : Below ((w1.alloc (.cells zK 58)).drew).heap.size ((w1.alloc (.cells zK 58)).drew) w2) (hs : Z.size = 11) : Fin3 W Z w1.heap.size (w2.setCells w1.heap.size 0 Z.toList) :=
  have hb : Bl W w2 := bnext (bel_v hb1) hb2
  ⟨(row_v hb2).over (by rw [hs]; rfl), hb1.size, hb.puts hb1.size _ _⟩
theorem own_a {w1 w2 : World} {Z : Array Value} {v : Value} {n : Nat} {xs : List Value} (ho : w2.ownsRow w1.drew.heap.size 88 13 v n xs) : ((w2.alloc (.cells zK 58)).setCells w2.heap.size 0 Z.toList).ownsRow w1.drew.heap.size 88 13 v n xs :=
  own_kept ho fun j hj => (((Bl.refl w2).alloc _).puts (Nat.le_refl _) _ _).bel.block j (own_lt ho hj).1
theorem own_b {w1 w2 : World} {Z : Array Value} {v : Value} {n : Nat} {xs : List Value} (ho : w2.ownsRow ((w1.alloc (.cells zK 58)).drew).heap.size 88 13 v n xs) : (w2.setCells w1.heap.size 0 Z.toList).ownsRow w1.drew.heap.size 88 13 v n xs :=
  own_mono (own_kept ho fun j hj => setCells_other (by have := (own_lt ho hj).2; simp at this; omega) _ _ _) (by simp)
set_option maxRecDepth 100000 in
set_option maxHeartbeats 8000000 in
theorem scut_any (K : DiskK At) (W : World) (q p lq n b : Nat) (S : Nat → Prop) (d : Dk.D) (k : St.K) (A : Option Addr) (c : Nat) (s : St.Sn) (hS : Sto At W q p lq n b S d k A c false) (hE : ∀ W', Ko (StS S q lq) W W' → EnvT W') (hn : n + 1 < Nm.top)
    (hs : s.idx < Nm.top) (hst : s.trm < Nm.top) (hss : St.Sec s) (hsf : ∀ k', St.cut k s = some k' → St.SnFits k'.snap)
    (hk' : ∀ k', St.cut k s = some k' → St.Small k' ∧ k'.ents.length ≤ 100000)
    (hc : ∀ k', St.cut k s = some k' → Dk.load d + 200 + Wl.cost (St.srow k'.snap) ≤ 100000000) (hc2 : ∀ k', St.cut k s = some k' → Dk.load (St.writeSnap d k'.snap).2 + 100 + Wl.cost ((St.base k').map Wl.text) ≤ 100000000) :
    Calls Tryz.prog 31 #[.pointer (some ⟨q, 0, none⟩), .agg (snC s)] W fun e w' => e = .returned (.int .i64 (St.scut d n b k s).1) ∧ Stored At W q p lq S (St.scut d n b k s) w' := by
  have HS := Lib.hid hS
  have HKd := Lib.hid K
  have HPw := Lib.hid (fun W1 (h : Below W.heap.size W W1) => spower_any K W1 q p S d _ k _ false (K.below hS.at_ h) (hS.row.bel h))
  have HCt := Lib.hid (fun W1 (h : Below W.heap.size W W1) => cut_any k A c s W1 (hS.kin.lies.below h) hS.kin.nil hS.kin.cap hS.kin.small.six hs hst hss (by have := hS.kin.len; omega))
  have HIn := Lib.hid (fun W4 (h : Below W.heap.size W W4) k' A' c' (ha : St.cut k s = some k') (hK : KIn W4 k' A' c') (haw : Away (StS S q lq) A' (ec k'.ents)) W5 (h5 : Below W4.heap.size W4 W5) =>
    sinstall_any K W5 q p lq n b S d k (.slice A k.ents.length c) k' A' c' ((hS.sr.bel K h).bel K h5) (fun W6 h6 => hE W6 (((Ko.bel h).trans (T := StS S q lq) (Ko.bel h5) fun _ h => .inl h).trans (T := StS S q lq) h6 fun _ h => .inl h)) hn (hK.bel h5) haw (hsf k' ha) hS.kin.small.six (hc k' ha) (hc2 k' ha))
  have HSm := Lib.hid hk'
  obtain ⟨X, hX⟩ : ∃ X, X = snC s := ⟨_, rfl⟩
  have HXe := Lib.hid hX
  have HCt2 := HCt
  unfold kC snC at HCt2
  have HRow : Hid (∀ W1, Below W.heap.size W W1 → StRow W1 q p (.pointer (some ⟨lq, 0, none⟩)) k (.slice A k.ents.length c) false) := Lib.hid (fun W1 h => hS.row.bel h)
  rw [← hX]
  clear hX hS hE hn hs hst hss hsf hk' hc hc2 K HCt
  cases hoff : d.off with
  | true =>
    have E := Lib.hid (scut_off (n := n) (b := b) (k := k) (s := s) hoff)
    rw [hoff] at HPw
    have e7 : pwr false true = 7 := rfl
    rw [e7] at HPw
    clear e7 hoff
    go_enter Tryz.func31, Tryz.ntmps31
    go_upto_region 1 with (fail)
    refine forget (fun W1 => Rw W1 W.heap.size X 55 ∧ Bl W W1 ∧ W.heap.size ≤ W.heap.size) ⟨Rw.new W X _, (Bl.refl W).alloc _, Nat.le_refl _⟩ ?_
    intro W1 H1
    have HI := Lib.hid H1.2.1.bel
    clear H1
    go_wp2_with fail
    refine (HPw.out W1 HI.out).mono ?_
    rintro e w1 ⟨rfl, hb1⟩
    go_wp2_with fail
    go_ret
    rw [E.out]
    exact ⟨rfl, Stored.same HKd.out HS.out (bnext HI.out hb1) 7⟩
  | false =>
  rw [hoff] at HPw
  have e0 : pwr false false = 0 := rfl
  rw [e0] at HPw
  have Hoff := Lib.hid hoff
  clear e0 hoff
  go_enter Tryz.func31, Tryz.ntmps31
  go_upto_region 1 with (fail)
  refine forget (fun W1 => Rw W1 W.heap.size X 55 ∧ Bl W W1 ∧ W.heap.size ≤ W.heap.size) ⟨Rw.new W X _, (Bl.refl W).alloc _, Nat.le_refl _⟩ ?_
  intro W1 H1
  obtain ⟨gs, hgs⟩ : ∃ gs, gs = W.heap.size := ⟨_, rfl⟩
  rw [← hgs] at H1 ⊢
  have HI := Lib.hid H1
  clear H1 hgs
  go_wp2_with fail
  refine (HPw.out W1 HI.out.2.1.bel).mono ?_
  rintro e w1 ⟨rfl, hb1⟩
  have HB1 := Lib.hid (bnext HI.out.2.1.bel hb1)
  have HX1 : Hid (Rw w1 gs (snC s) 55) := Lib.hid (by rw [← HXe.out]; exact HI.out.1.bel hb1)
  clear hb1
  obtain ⟨z0, z1, z2, z3, z4, z5, z6, z7⟩ := sn_cells HX1.out
  obtain ⟨x0, x1, x2, x3, x4, x5, x6, x7, x8, x9, x10⟩ := st_cells (HRow.out w1 HB1.out)
  have hV : Below w1.heap.size w1 (w1.alloc (.cells zK 58)) := bnew (Below.refl _ _) _
  have uz := sn_cells (HX1.out.bel hV)
  have ux := st_cells (HRow.out _ (bnext HB1.out hV))
  unfold zK at uz ux
  clear hV
  obtain ⟨v0, v1, v2, v3, v4, v5, v6, v7⟩ := uz
  obtain ⟨u0, u1, u2, u3, u4, u5, u6, u7, u8, u9, u10⟩ := ux
  cases hak : St.cut k s with
  | none =>
    have E := Lib.hid (scut_old (n := n) (b := b) Hoff.out hak)
    rw [hak] at HCt2
    clear HIn HSm
    obtain ⟨Z, hZ⟩ : ∃ Z, Z = zK := ⟨_, rfl⟩
    have HZZ : Hid (Z.size = 11 ∧ Z.all (·.oneCell') = true ∧ (Tryz.prog.info? 58).map (·.size) = some Z.size) := Lib.hid (by rw [hZ]; exact ⟨rfl, zK_one, zK_size⟩)
    have HFa := Lib.hid (fun w2 (h : Below w1.drew.heap.size w1.drew w2) => And.intro (store_new11 w2 Z HZZ.out.1 HZZ.out.2.1) (fin_a (Z := Z) HB1.out h HZZ.out.1))
    have HFb := Lib.hid (fun w2 (h : Below ((w1.alloc (.cells zK 58)).drew).heap.size ((w1.alloc (.cells zK 58)).drew) w2) => And.intro (store_row11 w2 w1.heap.size Z (row_v h) HZZ.out.1 HZZ.out.2.1) (fin_b (Z := Z) HB1.out h HZZ.out.1))
    have HBv := Lib.hid (bel_v HB1.out)
    unfold RetAf at HCt2
    rw [← hZ] at HCt2
    unfold zK at HFa HFb HBv
    have hZ11 := HZZ.out.1
    clear hZ
    go_upto_region 4 with (fail)
    go_region_law (first
      | (go_simp; go_at_call 66; refine (HCt2.out _ (below_drew HB1.out)).mono ?_; rintro e w2 ⟨rfl, hb2⟩; obtain ⟨hst, hfin⟩ := HFa.out w2 hb2; have HFn := Lib.hid hfin; clear hb2 hfin)
      | (go_simp; go_at_call 66; refine (HCt2.out _ HBv.out).mono ?_; rintro e w2 ⟨rfl, hb2⟩; obtain ⟨hst, hfin⟩ := HFb.out w2 hb2; have HFn := Lib.hid hfin; clear hb2 hfin))
    all_goals (
      go_upto_region 5 with (fail)
      clear x0 x1 x2 x3 x4 x5 x6 x7 x8 x9 x10 z0 z1 z2 z3 z4 z5 z6 z7 u0 u1 u2 u3 u4 u5 u6 u7 u8 u9 u10 v0 v1 v2 v3 v4 v5 v6 v7 hst
      first
        | (refine forget (Fin3 W Z w2.heap.size) HFn.out ?_; intro W4 H4; generalize w2.heap.size = gb at H4 ⊢)
        | (refine forget (Fin3 W Z w1.heap.size) HFn.out ?_; intro W4 H4; generalize w1.heap.size = gb at H4 ⊢)
      have HH4 := Lib.hid H4
      clear H4 HFn
      go_wp2_with fail
      go_ret
      rw [E.out]
      exact ⟨rfl, Stored.same HKd.out HS.out HH4.out.bel 10⟩)
  | some k' =>
    have E := Lib.hid (scut_some (n := n) (b := b) Hoff.out hak)
    rw [hak] at HCt2
    have Hak := Lib.hid hak
    have HSk := Lib.hid (HSm.out k' hak)
    have HB1s : Hid (W.heap.size ≤ w1.heap.size) := Lib.hid HB1.out.size
    clear hak
    unfold RetAf at HCt2
    have HFa := Lib.hid (fun A' c' w2 (h : Below w1.drew.heap.size w1.drew w2) (ho : w2.ownsRow w1.drew.heap.size 88 13 (.slice A' k'.ents.length c') k'.ents.length (ec k'.ents)) => And.intro (store_new11 w2 (kC k' (.slice A' k'.ents.length c')) rfl (kC_one _ _ _ _)) (Fin4.mk (fin_a (Z := kC k' (.slice A' k'.ents.length c')) HB1.out h rfl) (own_a (Z := kC k' (.slice A' k'.ents.length c')) ho)))
    have HFb := Lib.hid (fun A' c' w2 (h : Below ((w1.alloc (.cells zK 58)).drew).heap.size ((w1.alloc (.cells zK 58)).drew) w2) (ho : w2.ownsRow ((w1.alloc (.cells zK 58)).drew).heap.size 88 13 (.slice A' k'.ents.length c') k'.ents.length (ec k'.ents)) => And.intro (store_row11 w2 w1.heap.size (kC k' (.slice A' k'.ents.length c')) (row_v h) rfl (kC_one _ _ _ _)) (Fin4.mk (fin_b (Z := kC k' (.slice A' k'.ents.length c')) HB1.out h rfl) (own_b (Z := kC k' (.slice A' k'.ents.length c')) ho)))
    have HBv := Lib.hid (bel_v HB1.out)
    unfold zK at HFa HFb HBv
    have hZ11 : ∀ v, (kC k' v).size = 11 := fun _ => rfl
    go_upto_region 4 with (fail)
    go_region_law (first
      | (go_simp; go_at_call 66; refine (HCt2.out _ (below_drew HB1.out)).mono ?_; rintro e w2 ⟨A', c', rfl, ho2, hb2⟩; obtain ⟨hst, hfin⟩ := HFa.out A' c' w2 hb2 ho2; have HFn := Lib.hid hfin; clear hb2 ho2 hfin)
      | (go_simp; go_at_call 66; refine (HCt2.out _ HBv.out).mono ?_; rintro e w2 ⟨A', c', rfl, ho2, hb2⟩; obtain ⟨hst, hfin⟩ := HFb.out A' c' w2 hb2 ho2; have HFn := Lib.hid hfin; clear hb2 ho2 hfin))
    all_goals (
      go_upto_region 5 with (fail)
      clear x0 x1 x2 x3 x4 x5 x6 x7 x8 x9 x10 z0 z1 z2 z3 z4 z5 z6 z7 u0 u1 u2 u3 u4 u5 u6 u7 u8 u9 u10 v0 v1 v2 v3 v4 v5 v6 v7 hst
      first
        | (refine forget (Fin4 W w1.drew.heap.size k' A' c' w2.heap.size) HFn.out ?_; intro W4 H4; generalize w2.heap.size = gb at H4 ⊢)
        | (refine forget (Fin4 W w1.drew.heap.size k' A' c' w1.heap.size) HFn.out ?_; intro W4 H4; generalize w1.heap.size = gb at H4 ⊢)
      have HI4 := Lib.hid H4.f.row
      have Hgb := Lib.hid H4.f.le
      have HB4 := Lib.hid H4.f.bel
      have HO4 := Lib.hid H4.own
      clear H4 HFn
      have Hkin : Hid (KIn W4 k' A' c') := Lib.hid (kin_own HO4.out HSk.out.2 HSk.out.1)
      have Haw : Hid (Away (StS S q lq) A' (ec k'.ents)) := Lib.hid (away_own HO4.out fun x hx => Nat.lt_of_lt_of_le (HS.out.sr.lts HKd.out x hx) HB1s.out)
      obtain ⟨R, hRR⟩ : ∃ R, R = St.install d n b k.snap.idx k' := ⟨_, rfl⟩
      have HIn2 := Lib.hid (fun W5 h5 => HIn.out W4 HB4.out k' A' c' Hak.out Hkin.out Haw.out W5 h5)
      have Hrg : Hid (0 ≤ R.1 ∧ R.1 ≤ 1000) := Lib.hid (by rw [hRR]; exact inst_range _ _ _ _ _)
      rw [← hRR] at HIn2 E
      clear hRR HIn
      have HEn := Lib.hid (fun w5 (hg : Goes At W4 q p lq S k (.slice A k.ents.length c) R w5) W6 (h : Below w5.heap.size w5 W6) => ends_any (k' := k') (v' := .slice A' k'.ents.length c') rfl Hrg.out hg W6 h)
      have hcs := HI4.out
      have HC5 : Hid (∀ w5, Ko (StS S q lq) W4 w5 → Rw w5 gb (kC k' (.slice A' k'.ents.length c')) 58) := Lib.hid fun w5 hk => by
        refine hk.row (fun h => ?_) HI4.out
        have := HS.out.sr.lts HKd.out gb h
        have := Hgb.out
        omega
      obtain ⟨x0, x1, x2, x3, x4, x5, x6, x7, x8, x9, x10⟩ := kc_cells hcs
      unfold kC at HIn2 HEn
      clear hcs hZ11
      go_upto_region 7 with (fail)
      go_region_law (first
        | (go_simp; go_at_call 79; refine (HIn2.out _ (below_drew (Below.refl _ _))).mono ?_; rintro e w5 ⟨rfl, hg⟩; have hg' := Goes.after (below_drew (Below.refl _ _)) hg; have HG := Lib.hid hg'; obtain ⟨y0, y1, y2, y3, y4, y5, y6, y7, y8, y9, y10⟩ := kc_cells (HC5.out w5 hg'.ko); clear hg hg')
        | (go_simp; go_at_call 77; refine (HEn.out _ HG.out _ (Below.refl _ _)).mono ?_; rintro e w6 ⟨rfl, h6⟩; have H6 := Lib.hid h6; clear h6))
      all_goals (
        clear x0 x1 x2 x3 x4 x5 x6 x7 x8 x9 x10 y0 y1 y2 y3 y4 y5 y6 y7 y8 y9 y10
        go_wp2_with fail
        go_ret
        rw [E.out]
        obtain ⟨lq', S', s1, s2, s3, s4, s5⟩ := H6.out
        exact ⟨rfl, Stored.of HKd.out HS.out HB4.out s1 s2 s3 s4 (Below.refl _ _) Hkin.out Haw.out s5⟩))
end
end Go.Proofs.YtjhbpcecdhdnoaaGreatDoor
