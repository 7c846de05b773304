/-
  stable's Open walked.
-/
import Derived.Test.YtjhbpcecdhdnoaaGreatDoorRStOpenRZ
set_option linter.unusedSimpArgs false
set_option linter.unusedVariables false
namespace Go.Proofs.YtjhbpcecdhdnoaaGreatDoor
open Go.RowKit
theorem results_tct {P : Program} {fn : Func} {u p v : Tmp} {ty : TypeId} (h : fn.results = #[.tmp u, .cell p ty, .tmp v]) (tmps : Array Value) (w : World) (g : Nat) (t : TypeId) (cs : Array Value) (fr : Nat × Nat) (d : TypeDesc)
    (hp : tmps.getD p undef = .pointer (some ⟨g, 0, none⟩)) (hg : w.heap[g]? = some (.cells cs t fr))
    (hu : P.underlying ty = some d) (hd : (match d with | .struct _ | .array _ _ => true | _ => false) = true) (hi : (P.info? ty).map (·.size) = some cs.size) :
    (results fn tmps).run P w = .ok (.tuple #[tmps.getD u undef, .agg cs, tmps.getD v undef]) w := by
  have hp' : tmps[p]?.getD undef = .pointer (some ⟨g, 0, none⟩) := by simpa using hp
  simp [results, h, hp', asAddr, run_loadVar_row w g t ty cs fr d hg hu hd hi]
theorem opens_off {d : Dk.D} (h : d.off = true) : St.opens d = (7, d, none) := by unfold St.opens; rw [if_pos h]
theorem opens_bad1 {d : Dk.D} (h : d.off = false) (h1 : (St.bgn d (St.nextN (St.segs d)) (St.newest d (St.segs d))).1 ≠ .of .ok) : St.opens d = ((St.bgn d (St.nextN (St.segs d)) (St.newest d (St.segs d))).1.no, (St.bgn d (St.nextN (St.segs d)) (St.newest d (St.segs d))).2, none) := by
  unfold St.opens; rw [if_neg (by rw [h]; decide), if_neg h1]
theorem opens_bad2 {d : Dk.D} (h : d.off = false) {N : Nat} {k : St.K} {R : Wl.Er × Dk.D} {Sw : Dk.E × Dk.D} (hN : N = St.nextN (St.segs d)) (hk : k = St.newest d (St.segs d)) (hR : R = St.bgn d N k) (hS : Sw = St.sweep N k.snap.idx R.2 (Dk.list R.2)) (h1 : R.1 = .of .ok) (h2 : Sw.1 ≠ .ok) : St.opens d = (eno Sw.1, Sw.2, none) := by
  subst hN hk hR hS
  unfold St.opens; rw [if_neg (by rw [h]; decide), if_pos h1, if_neg h2]
theorem opens_ok {d : Dk.D} (h : d.off = false) {N : Nat} {k : St.K} {R : Wl.Er × Dk.D} {Sw : Dk.E × Dk.D} (hN : N = St.nextN (St.segs d)) (hk : k = St.newest d (St.segs d)) (hR : R = St.bgn d N k) (hS : Sw = St.sweep N k.snap.idx R.2 (Dk.list R.2)) (h1 : R.1 = .of .ok) (h2 : Sw.1 = .ok) : St.opens d = (0, Sw.2, some (N, k)) := by
  subst hN hk hR hS
  unfold St.opens; rw [if_neg (by rw [h]; decide), if_pos h1, if_pos h2]
theorem nextN_nil {L : List Nat} (h : L = []) : St.nextN L = 1 := by rw [h]; rfl
theorem nextN_last {L : List Nat} (h : 0 < L.length) : St.nextN L = L[L.length - 1] + 1 := by
  unfold St.nextN
  rw [List.getLast?_eq_getElem?, List.getElem?_eq_getElem (by omega)]
def RetOp9 (At : DkAt) (W : World) (p : Nat) (S : Nat → Prop) (o : Int × Dk.D × Option (Nat × St.K)) (e : Ending) (w' : World) : Prop := match o.2.2 with
  | none => e = .returned (.tuple #[.pointer none, .agg zK, .int .i64 o.1]) ∧ Now At W w' p S o.2.1
  | some (n, k) => ∃ q lq S' A c A2 c2, e = .returned (.tuple #[.pointer (some ⟨q, 0, none⟩), .agg (kC k (.slice A2 k.ents.length c2)), .int .i64 o.1]) ∧ Sto At w' q p lq n 0 S' o.2.1 k A c false ∧
      w'.ownsRow W.heap.size 88 13 (.slice A2 k.ents.length c2) k.ents.length (ec k.ents) ∧ (∀ x, S' x → S x ∨ W.heap.size ≤ x) ∧ W.heap.size ≤ q ∧ W.heap.size ≤ lq ∧ Ko S W w' ∧ ∀ b off, A2 = some ⟨b, off, none⟩ → ∀ x, StS S' q lq x → x < b
theorem own_not {W : World} {q p B n c : Nat} {lg v : Value} {k : St.K} {lost : Bool} {A : Option Addr} {xs : List Value} (ho : W.ownsRow B 88 13 (.slice A n c) n xs) (hR : StRow W q p lg k v lost) : ∀ b off, A = some ⟨b, off, none⟩ → B ≤ b ∧ b < W.heap.size ∧ b ≠ q := by
  rintro b off rfl
  have h1 := own_lt ho (b := b) rfl
  refine ⟨h1.2, h1.1, fun e => ?_⟩
  subst e
  rcases ho.2 with ⟨hv, _⟩ | ⟨g, cap, cur, hv, _, hg, _⟩
  · injection hv with h2; cases h2
  · injection hv with h2
    injection h2 with h2
    injection h2 with h2
    subst h2
    unfold StRow Rw at hR
    rw [hR] at hg
    injection hg with hg
    injection hg with _ h4
    exact absurd h4 (by decide)
section
variable {At : DkAt}
theorem Sto.ko (K : DiskK At) {T : Nat → Prop} {W W' : World} {q p lq n b : Nat} {S : Nat → Prop} {d : Dk.D} {k : St.K} {A : Option Addr} {c : Nat} {lost : Bool} (h : Sto At W q p lq n b S d k A c lost) (hk : Ko T W W') (hq : ¬ T q) (hl : ¬ T lq) (hS : ∀ x, S x → ¬ T x) (hA : Away T A (ec k.ents)) : Sto At W' q p lq n b S d k A c lost :=
  ⟨h.row.ko hk hq, h.log.ko hk hl, K.ko h.at_ hk hS, h.nq, h.nl, h.kin.ko hA hk, h.aw⟩
theorem Ko.putsN {S : Nat → Prop} {W w7 : World} {g : Nat} (hk : Ko S W w7) (hg : W.heap.size ≤ g) (vs : List Value) (i : Nat) : Ko S W (w7.setCells g i vs) :=
  (Ko.puts (T := fun x => S x ∨ x = g) (W' := W) (.inr rfl) vs i (hk.mono fun x _ h => .inl h)).mono fun x hx h => h.elim id fun e => by omega
theorem open_now (K : DiskK At) {W W6 w7 : World} {p g : Nat} {S S' : Nat → Prop} {D : Dk.D} (hA : ∀ x, S x → x < W.heap.size) (h6 : Bl W W6) (hat : At w7 p S' D) (hs : ∀ x, S' x → S x ∨ W6.heap.size ≤ x) (hk : Ko S W w7) (hg : W.heap.size ≤ g) (hg6 : g < W6.heap.size) (vs : List Value) : Now At W (w7.setCells g 0 vs) p S D :=
  ⟨⟨S', K.stays hat fun x hx => setCells_other (fun e => (hs x hx).elim (fun h => by have := hA x h; omega) (fun h => by omega)) _ _ _, fun x hx => (hs x hx).imp id (Nat.le_trans h6.le)⟩, hk.putsN hg vs 0⟩
set_option maxRecDepth 100000 in
set_option maxHeartbeats 8000000 in
theorem open_any (K : DiskK At) (W : World) (p tb : Nat) (S : Nat → Prop) (d : Dk.D) (hA : At W p S d) (hE : ∀ W', Ko S W W' → EnvT W' ∧ EnvE W') (hT : TabAt W tb)
    (HSg : ∀ W1, Below W.heap.size W W1 → Calls Tryz.prog 15 #[.pointer (some ⟨p, 0, none⟩)] W1 fun e w' => ∃ B c, e = .returned (.slice B (St.segs d).length c) ∧ Lies w' B (uc (St.segs d)) ∧ Below W1.heap.size W1 w')
    (hf : ∀ n ∈ St.segs d, Few d n) (hlen : (St.segs d).length ≤ 100000000) (hN : St.nextN (St.segs d) < Nm.top) (hsm : St.Small (St.newest d (St.segs d))) (hkl : (St.newest d (St.segs d)).ents.length ≤ 100000)
    (hc : Dk.load d + 100 + Wl.cost ((St.base (St.newest d (St.segs d))).map Wl.text) ≤ 100000000) :
    Calls Tryz.prog 29 #[.pointer (some ⟨p, 0, none⟩), .pointer (some ⟨tb, 0, none⟩)] W (RetOp9 At W p S (St.opens d)) := by
  have HKd := Lib.hid K
  have HA := Lib.hid hA
  have HEn := Lib.hid hE
  have HTb := Lib.hid hT
  have HDw := Lib.hid (fun W1 (h : Below W.heap.size W W1) => K.down W1 p S d (K.below hA h))
  have HSg := Lib.hid HSg
  have HNe := Lib.hid (fun W1 (h : Below W.heap.size W W1) B cb (hL : Lies W1 B (uc (St.segs d))) => newest_any K W1 p tb S d (St.segs d) B cb (K.below hA h) (hE W1 (Ko.bel h)).1 (hT.below h) hL hf hlen)
  have HB := Lib.hid (fun W1 q v (A : Option Addr) c (h : Below W.heap.size W W1) (hR : StRow W1 q p (.pointer none) (St.newest d (St.segs d)) v false) (hq : ¬ S q) (hK : KIn W1 (St.newest d (St.segs d)) A c) => sbegin_any K W1 q p (St.nextN (St.segs d)) S d (St.newest d (St.segs d)) v (.pointer none) false (St.newest d (St.segs d)) A c (K.below hA h) hR hq (hE W1 (Ko.bel h)).1 hN hK hc)
  have HO0 : Hid (d.off = true → St.opens d = (7, d, none)) := Lib.hid opens_off
  have HO1 := Lib.hid (fun h h1 => opens_bad1 (d := d) h h1)
  obtain ⟨L, hL⟩ : ∃ L, L = St.segs d := ⟨_, rfl⟩
  have HO2 := Lib.hid (fun (h : d.off = false) N k R Sw => opens_bad2 (d := d) h (N := N) (k := k) (R := R) (Sw := Sw))
  have HO3 := Lib.hid (fun (h : d.off = false) N k R Sw => opens_ok (d := d) h (N := N) (k := k) (R := R) (Sw := Sw))
  rw [← hL] at HSg HNe HB HO1 HO2 HO3 hN hsm hkl hlen hf
  obtain ⟨k, hk⟩ : ∃ k, k = St.newest d L := ⟨_, rfl⟩
  rw [← hk] at HNe HB HO1 HO2 HO3 hsm hkl
  obtain ⟨N, hNN⟩ : ∃ N, N = St.nextN L := ⟨_, rfl⟩
  rw [← hNN] at HB HO1 HO2 HO3 hN
  obtain ⟨R, hR⟩ : ∃ R, R = St.bgn d N k := ⟨_, rfl⟩
  rw [← hR] at HB HO1
  obtain ⟨G, hG⟩ : ∃ G, G = St.opens d := ⟨_, rfl⟩
  rw [← hG] at HO0 HO1 HO2 HO3 ⊢
  have HSk := Lib.hid (And.intro hsm hkl)
  have HN0 : Hid (L = [] → N = 1) := Lib.hid (by rw [hNN]; exact nextN_nil)
  have HN1 : Hid (∀ h : 0 < L.length, N = L[L.length - 1] + 1) := Lib.hid (by rw [hNN]; exact fun h => nextN_last h)
  have hNi : N ≤ 18446744073709551615 := by unfold Nm.top at hN; omega
  have HNt := Lib.hid hN
  have HR2 := Lib.hid hR
  clear hA hE hT hf hN hsm hkl hc hL hk hNN hR hG K
  go_enter Tryz.func29, Tryz.ntmps29
  go_upto_region 1 with (fail)
  refine forget (fun W1 => Rw W1 W.heap.size zK 58 ∧ Bl W W1 ∧ W.heap.size ≤ W.heap.size) ⟨Rw.new W zK _, (Bl.refl W).alloc _, Nat.le_refl _⟩ ?_
  intro W1 H1
  obtain ⟨g, hg⟩ : ∃ g, g = W.heap.size := ⟨_, rfl⟩
  rw [← hg] at H1 ⊢
  have HI := Lib.hid H1
  have Hg : Hid (W.heap.size ≤ g) := Lib.hid (by rw [hg]; exact Nat.le_refl _)
  have HSl : Hid (∀ x, S x → x < W.heap.size) := Lib.hid fun x hx => HKd.out.lt HA.out x hx
  clear H1 hg
  cases hoff : d.off with
  | true =>
    have E := Lib.hid (HO0.out hoff)
    rw [hoff] at HDw
    clear hoff
    go_wp2_with fail
    refine (HDw.out W1 HI.out.2.1.bel).mono ?_
    rintro e w2 ⟨rfl, hb2⟩
    have HR2 : Hid (Rw w2 g zK 58 ∧ Bl W w2) := Lib.hid ⟨HI.out.1.bel hb2, HI.out.2.1.next hb2⟩
    clear hb2
    go_wp2_with (first
      | (refine wpList_built rfl 58 _ rfl zK (by kernel_rfl) ?_)
      | (refine wpList_store_sub rfl 58 _ _ rfl g 0 rfl 58 zK zK rfl HR2.out.1 (Nat.le_refl 11) zK_size zK_one ?_))
    refine bodyPost_ret (results_tct (P := Tryz.prog) (fn := Tryz.f29) rfl _ _ g 58 zK (0, 0) _ rfl (HR2.out.1.over rfl) Tryz.underlying58 rfl zK_size) rfl ?_
    rw [E.out]
    exact ⟨rfl, HKd.out.now HA.out (HR2.out.2.puts Hg.out _ _).bel⟩
  | false =>
  have Hoff := Lib.hid hoff
  rw [hoff] at HDw
  clear hoff HO0
  go_wp2_with fail
  refine (HDw.out W1 HI.out.2.1.bel).mono ?_
  rintro e w2 ⟨rfl, hb2⟩
  have HR2 : Hid (Rw w2 g zK 58 ∧ Bl W w2) := Lib.hid ⟨HI.out.1.bel hb2, HI.out.2.1.next hb2⟩
  clear hb2 HI HDw
  go_wp2_with fail
  refine (HSg.out w2 HR2.out.2.bel).mono ?_
  rintro e w3 ⟨B, cb, rfl, hl3, hb3⟩
  have HR3 : Hid (Rw w3 g zK 58 ∧ Bl W w3) := Lib.hid ⟨HR2.out.1.bel hb3, HR2.out.2.next hb3⟩
  have HL3 := Lib.hid hl3
  have HT3 := Lib.hid (HTb.out.below HR3.out.2.bel)
  clear hb3 HR2 HSg hl3
  have HT6 := Lib.hid (fun W5 (h : Below w3.heap.size w3 W5) => HT3.out.below h)
  have HNe6 : Hid (∀ W5, Below w3.heap.size w3 W5 → Calls Tryz.prog 73 #[.pointer (some ⟨p, 0, none⟩), .pointer (some ⟨tb, 0, none⟩), .slice B L.length cb] W5 fun e w' => ∃ v, e = .returned v ∧ OpA w3.heap.size p k v w' ∧ Below W5.heap.size W5 w') := Lib.hid fun W5 h => by
    refine (HNe.out W5 (bnext HR3.out.2.bel h) B cb (HL3.out.below h)).mono ?_
    rintro e w' ⟨A, c, rfl, ho, hb⟩
    exact ⟨_, rfl, ⟨A, c, rfl, own_mono ho h.size⟩, hb⟩
  clear HNe
  go_upto_region 6 with (fail)
  refine sop p tb L.length cb B k w3 HT6.out HNe6.out _ ?_
  intro u7 u8 u9 u10 w6 hb6 hT6
  obtain ⟨q, A, c, rfl, hrow, hq3, hown⟩ := hT6
  have HR6 : Hid (Rw w6 g zK 58 ∧ Bl W w6) := Lib.hid ⟨HR3.out.1.bel hb6, HR3.out.2.next hb6⟩
  have HL6 := Lib.hid (HL3.out.below hb6)
  have HRow : Hid (StRow w6 q p (.pointer none) k (.slice A k.ents.length c) false) := Lib.hid hrow
  have HO6 := Lib.hid hown
  have Hq3 : Hid (w3.heap.size ≤ q ∧ W.heap.size ≤ w3.heap.size ∧ g < w3.heap.size) := Lib.hid ⟨hq3, HR3.out.2.le, Rw.lt HR3.out.1⟩
  have Hkin : Hid (KIn w6 k A c) := Lib.hid (kin_own hown HSk.out.2 HSk.out.1)
  have HnSq : Hid (¬ S q) := Lib.hid fun h => by have := HSl.out q h; have := Hq3.out; omega
  clear hb6 hrow hq3 hown HNe6 HT6 HT3 HR3 HL3
  obtain ⟨Y, hY⟩ : ∃ Y, Y = stC p (.pointer none) k (.slice A k.ents.length c) false := ⟨_, rfl⟩
  obtain ⟨X, hX⟩ : ∃ X, X = kC k (.slice A k.ents.length c) := ⟨_, rfl⟩
  have HX : Hid ((Tryz.prog.info? 58).map (·.size) = some X.size) := Lib.hid (by rw [hX]; exact sizeKept' _ _)
  have HSub : Hid (∀ j, j < X.size → Y[258 + j]? = X[j]?) := Lib.hid (by rw [hX, hY]; exact fun j hj => stC_k _ _ _ _ _ j hj)
  have HYr : Hid (Rw w6 q Y 99) := Lib.hid (by rw [hY]; exact HRow.out)
  have HBg := Lib.hid (HB.out w6 q (.slice A k.ents.length c) A c HR6.out.2.bel HRow.out HnSq.out Hkin.out)
  rw [← hX] at HBg
  clear hY hX HB
  have hx : (L.length = 0 ∧ (N : Int) = 1) ∨ (∃ m n bb oo, L.length = m + 1 ∧ B = some ⟨bb, oo, none⟩ ∧ w6.cell? ⟨bb, oo + m, none⟩ = some (.int .u64 ((n : Nat) : Int)) ∧ (n : Int) + 1 = (N : Int) ∧ n ≤ 18446744073709551615) := by
    by_cases h0 : L = []
    · exact .inl ⟨by rw [h0]; rfl, by rw [HN0.out h0]; rfl⟩
    · have hp : 0 < L.length := List.length_pos_iff.2 h0
      have hn := HN1.out hp
      rcases HL6.out with h | ⟨bb, oo, rfl, _, hc⟩
      · exact absurd (by have := congrArg List.length h; simp [uc] at this; exact this) h0
      · exact .inr ⟨L.length - 1, L[L.length - 1], bb, oo, by omega, rfl, hc _ _ (by unfold uc; rw [List.getElem?_map, List.getElem?_eq_getElem (by omega)]; rfl), by omega, by omega⟩
  obtain ⟨M, hM⟩ : ∃ M, M = L.length := ⟨_, rfl⟩
  have hlM : M ≤ 100000000 := by rw [hM]; exact hlen
  rw [← hM] at hx ⊢
  clear HN0 HN1 hM hlen HSg
  rcases hx with ⟨rfl, hN1⟩ | ⟨m, n, bb, oo, rfl, rfl, hcell, hn1, hni⟩
  all_goals (
    first
      | (rw [hN1] at HBg; go_upto_region 10 with (fail))
      | (go_upto_region 10 with (fail))
    go_wp2_with (refine wpList_load_sub rfl 58 _ rfl q 258 rfl 99 Y X (0, 0) _ HYr.out HSub.out Tryz.underlying58 rfl HX.out ?_)
    refine HBg.out.mono ?_
    rintro e w7 ⟨rfl, hbg⟩
    obtain ⟨lg', S', r1, r2, r3, r4, r5, r6, r7⟩ := hbg
    have H7 := Lib.hid (And.intro r1 (And.intro r2 (And.intro r3 (And.intro r4 (And.intro r5 (And.intro r6 r7))))))
    have HKo7 : Hid (Ko S W w7) := Lib.hid ((Ko.bel HR6.out.2.bel).trans (T := fun x => S x ∨ x = q) r5 fun x hx => hx.imp id fun e => by have := Hq3.out; omega)
    have HR7 : Hid (Rw w7 g zK 58) := Lib.hid (r5.row (fun h => h.elim (fun h2 => by have := HSl.out g h2; have := Hg.out; omega) (fun e => by have := Hq3.out; omega)) HR6.out.1)
    have HAb := Lib.hid (own_not HO6.out HRow.out)
    clear r1 r2 r3 r4 r5 r6 r7
    by_cases hok : R.1 = .of .ok
    case neg =>
      obtain ⟨z1, z2, z3⟩ := er_no hok
      have E := Lib.hid (HO1.out Hoff.out hok)
      obtain ⟨nv, hnv⟩ : ∃ nv, nv = R.1.no := ⟨_, rfl⟩
      rw [← hnv] at z2 z1 z3 ⊢
      have Hnv := Lib.hid hnv
      clear hok hnv
      go_wp2_with (first
        | (refine wpList_built rfl 58 _ rfl zK (by kernel_rfl) ?_)
        | (refine wpList_store_sub rfl 58 _ _ rfl g 0 rfl 58 zK zK rfl HR7.out (Nat.le_refl 11) zK_size zK_one ?_))
      refine bodyPost_ret (results_tct (P := Tryz.prog) (fn := Tryz.f29) rfl _ _ g 58 zK (0, 0) _ rfl (HR7.out.over rfl) Tryz.underlying58 rfl zK_size) rfl ?_
      rw [E.out]
      exact ⟨by rw [← Hnv.out]; rfl, open_now HKd.out HSl.out HR6.out.2 H7.out.2.1 H7.out.2.2.1 HKo7.out Hg.out (Rw.lt HR6.out.1) _⟩
    obtain ⟨lq, rfl, hlog, hlq, hSlq⟩ := H7.out.2.2.2.2.2.1 hok
    have hno : R.1.no = 0 := by rw [hok]; rfl
    rw [hno]
    have HSr : Hid (Sr At w7 q p lq N 0 S' R.2 k (.slice A k.ents.length c)) := Lib.hid ⟨H7.out.1, hlog, H7.out.2.1, H7.out.2.2.2.1, hSlq⟩
    have Hok := Lib.hid hok
    have Hlq := Lib.hid hlq
    have HUp : Hid (∀ x, S' x → S x ∨ W.heap.size ≤ x) := Lib.hid fun x hx => (H7.out.2.2.1 x hx).imp id (Nat.le_trans HR6.out.2.le)
    have HSw := Lib.hid (sweep_any HKd.out w7 q p lq N 0 S' R.2 k _ HSr.out (fun W' h => HEn.out W' (HKo7.out.trans (T := S') h HUp.out)) HSk.out.1.six HNt.out)
    obtain ⟨Sw, hSw⟩ : ∃ Sw, Sw = St.sweep N k.snap.idx R.2 (Dk.list R.2) := ⟨_, rfl⟩
    rw [← hSw] at HSw
    have HSe := Lib.hid hSw
    clear hok hno hlog hlq hSlq hSw HBg
    go_wp2_with fail
    refine HSw.out.mono ?_
    rintro e w8 ⟨rfl, hn8⟩
    obtain ⟨S8, t1, t2, t3⟩ := HSr.out.now hn8
    have H8 := Lib.hid (And.intro t1 (And.intro t2 hn8.ko))
    have HKo8 : Hid (Ko S W w8) := Lib.hid (HKo7.out.trans (T := S') hn8.ko HUp.out)
    have Hg6 : Hid (g < w6.heap.size) := Lib.hid (Rw.lt HR6.out.1)
    have HR8 : Hid (Rw w8 g zK 58) := Lib.hid (hn8.ko.row (fun h => (H7.out.2.2.1 g h).elim (fun h2 => by have := HSl.out g h2; have := Hg.out; omega) (fun e => by have := Hg6.out; omega)) HR7.out)
    have Hw67 : Hid (w6.heap.size ≤ w7.heap.size) := Lib.hid H7.out.2.2.2.2.1.size
    have HS8 : Hid (∀ x, S8 x → S x ∨ w6.heap.size ≤ x) := Lib.hid fun x hx => (t2 x hx).elim (fun h => H7.out.2.2.1 x h) (fun h => .inr (Nat.le_trans Hw67.out h))
    clear t1 t2 t3 hn8 HSw
    by_cases hsw : Sw.1 = .ok
    case neg =>
      obtain ⟨z1, z2, z3⟩ := eno_ne hsw
      have E := Lib.hid (HO2.out Hoff.out N k R Sw rfl rfl HR2.out HSe.out Hok.out hsw)
      obtain ⟨nv, hnv⟩ : ∃ nv, nv = eno Sw.1 := ⟨_, rfl⟩
      rw [← hnv] at z2 z1 z3 ⊢
      have Hnv := Lib.hid hnv
      clear hsw hnv
      go_wp2_with (first
        | (refine wpList_built rfl 58 _ rfl zK (by kernel_rfl) ?_)
        | (refine wpList_store_sub rfl 58 _ _ rfl g 0 rfl 58 zK zK rfl HR8.out (Nat.le_refl 11) zK_size zK_one ?_))
      refine bodyPost_ret (results_tct (P := Tryz.prog) (fn := Tryz.f29) rfl _ _ g 58 zK (0, 0) _ rfl (HR8.out.over rfl) Tryz.underlying58 rfl zK_size) rfl ?_
      rw [E.out]
      exact ⟨by rw [← Hnv.out]; rfl, open_now HKd.out HSl.out HR6.out.2 H8.out.1.at_ HS8.out HKo8.out Hg.out Hg6.out _⟩
    have E := Lib.hid (HO3.out Hoff.out N k R Sw rfl rfl HR2.out HSe.out Hok.out hsw)
    have hno : eno Sw.1 = 0 := by rw [hsw]; rfl
    rw [hno]
    have HAw : Hid (∀ T : Nat → Prop, (∀ x, T x → S x ∨ w6.heap.size ≤ x ∨ x = q ∨ x = g) → Away T A (ec k.ents)) := Lib.hid fun T hT b off _ hA hb => by
      obtain ⟨a1, a2, a3⟩ := HAb.out b off hA
      have := Hq3.out
      rcases hT b hb with h | h | h | h
      · have := HSl.out b h; omega
      · omega
      · exact a3 h
      · omega
    have HSt : Hid (Sto At w8 q p lq N 0 S8 Sw.2 k A c false) := Lib.hid
      ⟨H8.out.1.row, H8.out.1.log, H8.out.1.at_, H8.out.1.nq, H8.out.1.nl, (Hkin.out.ko (HAw.out _ fun x hx => hx.elim .inl (fun e => .inr (.inr (.inl e)))) H7.out.2.2.2.2.1).ko (HAw.out _ fun x hx => (H7.out.2.2.1 x hx).imp id .inl) H8.out.2.2, HAw.out _ fun x hx => by
        rcases hx with hx | hx | hx
        · exact (HS8.out x hx).imp id .inl
        · exact .inr (.inr (.inl hx))
        · exact .inr (.inl (by rw [hx]; exact Hlq.out))⟩
    have HKp := Lib.hid (kept_any w8 q p lq N 0 S8 Sw.2 k A c false HSt.out)
    clear hsw hno
    go_wp2_with fail
    refine HKp.out.mono ?_
    rintro e w9 ⟨A2, c2, rfl, ho9, hb9⟩
    have HR9 : Hid (Rw w9 g zK 58) := Lib.hid (HR8.out.bel hb9)
    have HO9 := Lib.hid ho9
    have HB9 := Lib.hid hb9
    clear ho9 hb9 HKp
    obtain ⟨Z, hZ⟩ : ∃ Z, Z = kC k (.slice A2 k.ents.length c2) := ⟨_, rfl⟩
    have HZZ : Hid (Z.size = 11 ∧ Z.all (·.oneCell') = true ∧ (Tryz.prog.info? 58).map (·.size) = some Z.size) := Lib.hid (by rw [hZ]; exact ⟨rfl, kC_one _ _ _ _, sizeKept' _ _⟩)
    have hZ2 := Lib.hid hZ
    rw [← hZ]
    clear hZ
    go_wp2_with (refine wpList_store_sub rfl 58 _ _ rfl g 0 rfl 58 zK Z rfl HR9.out (by rw [HZZ.out.1]; exact Nat.le_refl 11) HZZ.out.2.2 HZZ.out.2.1 ?_)
    refine bodyPost_ret (results_tct (P := Tryz.prog) (fn := Tryz.f29) rfl _ _ g 58 Z (0, 0) _ rfl (HR9.out.over (by rw [HZZ.out.1]; rfl)) Tryz.underlying58 rfl HZZ.out.2.2) rfl ?_
    rw [E.out]
    have hg6 := Hg6.out
    have hq3 := Hq3.out
    have hlq := Hlq.out
    have hw8 : w6.heap.size ≤ w8.heap.size := Nat.le_trans Hw67.out H8.out.2.2.size
    have hkg : Ko (fun x => x = g) w9 (w9.setCells g 0 Z.toList) := Ko.puts (T := fun x => x = g) (W' := w9) rfl _ _ (Ko.refl _ _)
    refine ⟨q, lq, S8, A, c, A2, c2, by rw [← hZ2.out]; rfl, (HSt.out.bel HKd.out HB9.out).ko HKd.out hkg (by omega) (by omega) (fun x hx e => (HS8.out x hx).elim (fun h => by have := HSl.out x h; have := Hg.out; omega) (fun h => by omega)) (HAw.out _ fun x hx => .inr (.inr (.inr hx))), own_mono (own_kept HO9.out fun j hj => setCells_other (by have := (own_lt HO9.out hj).2; omega) _ _ _) (Nat.le_trans HR6.out.2.le hw8), fun x hx => (HS8.out x hx).imp id (Nat.le_trans HR6.out.2.le), by omega, Nat.le_trans HR6.out.2.le hlq, (HKo8.out.trans (T := S) (Ko.bel HB9.out) fun _ h => .inl h).putsN Hg.out _ _, fun b off hA x hx => Nat.lt_of_lt_of_le (HSt.out.sr.lts HKd.out x hx) (own_lt HO9.out (b := b) (by rw [hA]; rfl)).2⟩)
end
end Go.Proofs.YtjhbpcecdhdnoaaGreatDoor
