/-
  The store's turn walked.
  The store's add, install and end walked.
  The store's install walked.
  The store's end walked.
  A store at rest, and what it is behind a call that wrote.
-/
import Derived.Test.YtjhbpcecdhdnoaaGreatDoorRWwBeginTZ
import Derived.Test.YtjhbpcecdhdnoaaGreatDoorRWwNumbZ
import Derived.Test.YtjhbpcecdhdnoaaGreatDoorRStAfter
import Derived.Test.YtjhbpcecdhdnoaaGreatDoorRStSaveZ
set_option linter.unusedSimpArgs false
set_option linter.unusedVariables false
namespace Go.Proofs.YtjhbpcecdhdnoaaGreatDoor
open Go.RowKit
def StS (S : Nat → Prop) (q lq : Nat) : Nat → Prop := fun x => S x ∨ x = q ∨ x = lq
structure Sr (At : DkAt) (W : World) (q p lq n b : Nat) (S : Nat → Prop) (d : Dk.D) (k : St.K) (v : Value) : Prop where
  row : StRow W q p (.pointer (some ⟨lq, 0, none⟩)) k v false
  log : LogAt W lq p n b
  at_ : At W p S d
  nq : ¬ S q
  nl : ¬ S lq
structure Goes (At : DkAt) (W : World) (q p lq : Nat) (S : Nat → Prop) (k : St.K) (v : Value) (R : Int × Dk.D × (Nat × Nat)) (w' : World) : Prop where
  ex : ∃ lq' S', Sr At w' q p lq' R.2.2.1 R.2.2.2 S' R.2.1 k v ∧ (∀ x, S' x → S x ∨ W.heap.size ≤ x) ∧ (lq' = lq ∨ W.heap.size ≤ lq')
  ko : Ko (StS S q lq) W w'
section
variable {At : DkAt}
theorem Sr.ql {W : World} {q p lq n b : Nat} {S : Nat → Prop} {d : Dk.D} {k : St.K} {v : Value} (h : Sr At W q p lq n b S d k v) : q ≠ lq := fun e => by
  have h1 := h.row
  have h2 := h.log
  unfold StRow Rw at h1
  unfold LogAt at h2
  rw [e, h2] at h1
  injection h1 with h1
  injection h1 with h3 h4
  exact absurd h4 (by decide)
theorem Sr.bel (K : DiskK At) {W W' : World} {q p lq n b : Nat} {S : Nat → Prop} {d : Dk.D} {k : St.K} {v : Value} (h : Sr At W q p lq n b S d k v) (hb : Below W.heap.size W W') : Sr At W' q p lq n b S d k v :=
  ⟨h.row.bel hb, h.log.below hb, K.below h.at_ hb, h.nq, h.nl⟩
theorem Goes.start {W W' : World} (K : DiskK At) {q p lq n b : Nat} {S : Nat → Prop} {d : Dk.D} {k : St.K} {v : Value} (h : Sr At W q p lq n b S d k v) (hb : Below W.heap.size W W') (e : Int) : Goes At W q p lq S k v (e, d, (n, b)) W' :=
  ⟨⟨lq, S, h.bel K hb, fun _ hx => .inl hx, .inl rfl⟩, Ko.bel hb⟩
theorem Goes.trans {W W1 w' : World} {q p lq lq1 : Nat} {S S1 : Nat → Prop} {k k1 : St.K} {v v1 : Value} {R : Int × Dk.D × (Nat × Nat)} (hk : Ko (StS S q lq) W W1) (hs : ∀ x, S1 x → S x ∨ W.heap.size ≤ x) (hl : lq1 = lq ∨ W.heap.size ≤ lq1) (hg : Goes At W1 q p lq1 S1 k v R w') : Goes At W q p lq S k v R w' := by
  obtain ⟨⟨lq', S', h1, h2, h3⟩, h4⟩ := hg
  have hsz := hk.size
  refine ⟨⟨lq', S', h1, fun x hx => (h2 x hx).elim (hs x) (fun h => .inr (Nat.le_trans hsz h)), ?_⟩, hk.trans h4 fun x hx => ?_⟩
  · rcases h3 with rfl | h
    · exact hl
    · exact .inr (Nat.le_trans hsz h)
  · rcases hx with hx | rfl | rfl
    · exact (hs x hx).imp .inl id
    · exact .inl (.inr (.inl rfl))
    · exact hl.imp (fun e => .inr (.inr e)) id
theorem Goes.after {W W1 w' : World} {q p lq : Nat} {S : Nat → Prop} {k : St.K} {v : Value} {R : Int × Dk.D × (Nat × Nat)} (hb : Below W.heap.size W W1) (hg : Goes At W1 q p lq S k v R w') : Goes At W q p lq S k v R w' :=
  Goes.trans (k1 := k) (v1 := v) (Ko.bel hb) (fun _ h => .inl h) (.inl rfl) hg
theorem turn_no {d : Dk.D} {n b : Nat} {k : St.K} (h : (St.bgn d (n + 1) k).1 ≠ .of .ok) : St.turn d n b k = ((St.bgn d (n + 1) k).1.no, (St.bgn d (n + 1) k).2, (n, b)) := by unfold St.turn; rw [if_neg h]
theorem turn_yes {d : Dk.D} {n b : Nat} {k : St.K} (h : (St.bgn d (n + 1) k).1 = .of .ok) : St.turn d n b k = (eno (St.remove (St.bgn d (n + 1) k).2 (Wl.name n)).1, (St.remove (St.bgn d (n + 1) k).2 (Wl.name n)).2, (n + 1, 0)) := by unfold St.turn; rw [if_pos h]
set_option maxRecDepth 100000 in
set_option maxHeartbeats 8000000 in
theorem turn_any (K : DiskK At) (W : World) (q p lq n b : Nat) (S : Nat → Prop) (d : Dk.D) (k : St.K) (v : Value) (k2 : St.K) (A : Option Addr) (c : Nat) (hS : Sr At W q p lq n b S d k v) (hE : ∀ W', Ko (StS S q lq) W W' → EnvT W') (hn : n + 1 < Nm.top) (hK : KIn W k2 A c)
    (hc : Dk.load d + 100 + Wl.cost ((St.base k2).map Wl.text) ≤ 100000000) :
    Calls Tryz.prog 129 #[.pointer (some ⟨q, 0, none⟩), .agg (kC k2 (.slice A k2.ents.length c))] W fun e w' => e = .returned (.int .i64 (St.turn d n b k2).1) ∧ Goes At W q p lq S k v (St.turn d n b k2) w' := by
  have HKd := Lib.hid K
  have HS := Lib.hid hS
  have HE := Lib.hid hE
  have HN := Lib.hid (fun W1 (hb : Below W.heap.size W W1) => logN_any W1 lq p n b (hS.log.below hb))
  have HB := Lib.hid (fun W1 (hb : Below W.heap.size W W1) => sbegin_any K W1 q p (n + 1) S d k v (.pointer (some ⟨lq, 0, none⟩)) false k2 A c (K.below hS.at_ hb) (hS.row.bel hb) hS.nq (hE W1 (Ko.bel hb)) hn (hK.bel hb) hc)
  have hni : n + 1 ≤ 18446744073709551615 := by unfold Nm.top at hn; omega
  have hnt : n < Nm.top := by omega
  have HNm := Lib.hid (fun W1 (h : Ko (StS S q lq) W W1) => nameSays n W1 hnt (hE W1 h))
  have hnz := (Wl.name_size hnt).2
  obtain ⟨R, hR⟩ : ∃ R, R = St.bgn d (n + 1) k2 := ⟨_, rfl⟩
  have HNo : Hid (R.1 ≠ .of .ok → St.turn d n b k2 = (R.1.no, R.2, (n, b))) := Lib.hid (by rw [hR]; exact turn_no)
  have HYe : Hid (R.1 = .of .ok → St.turn d n b k2 = (eno (St.remove R.2 (Wl.name n)).1, (St.remove R.2 (Wl.name n)).2, (n + 1, 0))) := Lib.hid (by rw [hR]; exact turn_yes)
  rw [← hR] at HB
  obtain ⟨nm, hnm⟩ : ∃ nm, nm = Wl.name n := ⟨_, rfl⟩
  rw [← hnm] at HNm HYe hnz
  obtain ⟨n1, hn1⟩ : ∃ n1, n1 = n + 1 := ⟨_, rfl⟩
  rw [← hn1] at HB HYe
  have hn1i : (n : Int) + 1 = (n1 : Int) := by omega
  obtain ⟨X, hX⟩ : ∃ X, X = kC k2 (.slice A k2.ents.length c) := ⟨_, rfl⟩
  have HX : Hid ((Tryz.prog.info? 58).map (·.size) = some X.size) := Lib.hid (by rw [hX]; exact sizeKept' _ _)
  rw [← hX] at HB ⊢
  clear hS hE hn hK hc K hnm hR hX hn1 hnt
  go_enter Tryz.func129, Tryz.ntmps129
  go_upto_region 1 with (fail)
  refine forget (fun W1 => Rw W1 W.heap.size X 58 ∧ Bl W W1 ∧ W.heap.size ≤ W.heap.size) ⟨Rw.new W X _, (Bl.refl W).alloc _, Nat.le_refl _⟩ ?_
  intro W1 H1
  obtain ⟨gb, hgb⟩ : ∃ gb, gb = W.heap.size := ⟨_, rfl⟩
  rw [← hgb] at H1 ⊢
  clear hgb
  have HI := Lib.hid H1
  have cl := (HS.out.row.bel H1.2.1.bel).clg
  clear H1
  go_wp2_with fail
  refine (HN.out W1 HI.out.2.1.bel).mono ?_
  rintro e w2 ⟨rfl, rfl⟩
  clear cl
  go_wp2_with (refine wpList_load_sub rfl 58 _ rfl gb 0 rfl 58 X X (0, 0) _ HI.out.1 (fun j hj => by rw [Nat.zero_add]) Tryz.underlying58 rfl HX.out ?_)
  refine (HB.out W1 HI.out.2.1.bel).mono ?_
  rintro e w3 ⟨rfl, hbg⟩
  obtain ⟨lg', S', r1, r2, r3, r4, r5, r6, r7⟩ := hbg
  have H3 := Lib.hid (And.intro r1 (And.intro r2 (And.intro r3 (And.intro r4 (And.intro r5 (And.intro r6 r7))))))
  clear r1 r2 r3 r4 r5 r6 r7
  by_cases hok : R.1 = .of .ok
  case neg =>
    obtain ⟨z1, z2, z3⟩ := er_no hok
    have E := Lib.hid (HNo.out hok)
    have hlg := H3.out.2.2.2.2.2.2 hok
    have HF : Hid (Goes At W q p lq S k v (R.1.no, R.2, (n, b)) w3) := Lib.hid (by
      have hb := HI.out.2.1.bel
      have hlS : ¬ S' lq := fun h => (H3.out.2.2.1 lq h).elim HS.out.nl (fun h2 => absurd (HS.out.log.below hb).lt (by omega))
      refine Goes.after hb ⟨⟨lq, S', ⟨by rw [← hlg]; exact H3.out.1, ?_, H3.out.2.1, H3.out.2.2.2.1, hlS⟩, H3.out.2.2.1, .inl rfl⟩, H3.out.2.2.2.2.1.mono fun x _ h => h.elim .inl (fun e => .inr (.inl e))⟩
      exact (HS.out.log.below hb).ko H3.out.2.2.2.2.1 (fun h => h.elim HS.out.nl (fun e => HS.out.ql e.symm)))
    obtain ⟨nv, hnv⟩ : ∃ nv, nv = R.1.no := ⟨_, rfl⟩
    rw [← hnv] at z2 z1 z3 ⊢
    have Hnv := Lib.hid hnv
    clear hok H3 hlg hnv
    go_wp2_with fail
    go_ret
    rw [E.out]
    exact ⟨by rw [← Hnv.out]; rfl, HF.out⟩
  have E := Lib.hid (HYe.out hok)
  have hno : R.1.no = 0 := by rw [hok]; rfl
  obtain ⟨lq', rfl, hlog, hlq, hSl⟩ := H3.out.2.2.2.2.2.1 hok
  rw [hno]
  have HL := Lib.hid (And.intro hlog (And.intro hlq hSl))
  have c0 := H3.out.1.c0
  have HRm := Lib.hid (fun W4 (h : Below w3.heap.size w3 W4) => remove_any HKd.out w3 W4 p S' R.2 nm (HKd.out.now H3.out.2.1 h) (by omega))
  have HNm2 : Hid (∀ W4, Below w3.heap.size w3 W4 → Calls Tryz.prog 90 #[.int .u64 (n : Int)] W4 fun e w' => e = .returned (.string nm) ∧ Below W4.heap.size W4 w') := Lib.hid fun W4 h => HNm.out W4 ((Ko.bel HI.out.2.1.bel).trans (T := StS S q lq) ((H3.out.2.2.2.2.1.mono fun x _ h => h.elim .inl (fun e => .inr (.inl e))).trans (T := StS S q lq) (Ko.bel h) fun _ h => .inl h) fun _ h => .inl h)
  have H5 : ∀ w5, Below w3.heap.size w3 w5 → w5.cell? ⟨q, 0, none⟩ = some (.pointer (some ⟨p, 0, none⟩)) := fun w5 hb => later hb c0
  have HH5 := Lib.hid H5
  clear hok hno hlog hlq hSl H5
  go_upto_region 5 with (fail)
  go_region_law (first
    | (go_simp; go_at_call 90; refine (HNm2.out _ (below_drew (Below.refl _ _))).mono ?_; rintro e w5 ⟨rfl, hb5⟩; have hb5' := bnext (below_drew (Below.refl _ _)) hb5; have c05 := HH5.out w5 hb5'; have HW5 := Lib.hid hb5'; clear hb5 hb5')
    | (go_simp; go_at_call 131; refine (HRm.out _ HW5.out).mono ?_; rintro e w6 ⟨rfl, hn6⟩; have H6 := Lib.hid hn6; clear hn6))
  all_goals (
    go_wp2_with fail
    go_ret
    rw [E.out]
    refine ⟨rfl, ?_⟩
    obtain ⟨⟨S6, a6, s6⟩, k6⟩ := H6.out
    have hb := HI.out.2.1.bel
    have hw3 := H3.out.2.2.2.2.1.size
    refine Goes.after hb ⟨⟨lq', S6, ⟨H3.out.1.ko k6 H3.out.2.2.2.1, HL.out.1.ko k6 HL.out.2.2, a6, fun h => (s6 q h).elim H3.out.2.2.2.1 (fun h2 => absurd (Rw.lt H3.out.1) (by omega)), fun h => (s6 lq' h).elim HL.out.2.2 (fun h2 => absurd HL.out.1.lt (by omega))⟩, fun x hx => (s6 x hx).elim (H3.out.2.2.1 x) (fun h2 => .inr (Nat.le_trans hw3 h2)), .inr HL.out.2.1⟩, ?_⟩
    exact (H3.out.2.2.2.2.1.mono fun x _ h => h.elim .inl (fun e => .inr (.inl e))).trans (T := S') k6 fun x hx => (H3.out.2.2.1 x hx).imp .inl id)
end
end Go.Proofs.YtjhbpcecdhdnoaaGreatDoor
namespace Go.Proofs.YtjhbpcecdhdnoaaGreatDoor
open Go.RowKit
theorem KIn.ko {S : Nat → Prop} {W W' : World} {k : St.K} {A : Option Addr} {c : Nat} (h : KIn W k A c) (ha : Away S A (ec k.ents)) (hk : Ko S W W') : KIn W' k A c := ⟨h.lies.ko ha hk, h.nil, h.cap, h.len, h.small⟩
theorem StS.up {S S' : Nat → Prop} {q lq B : Nat} (hs : ∀ x, S' x → S x ∨ B ≤ x) (x : Nat) (hx : StS S' q lq x) : StS S q lq x ∨ B ≤ x := by
  rcases hx with hx | hx | hx
  · exact (hs x hx).imp .inl id
  · exact .inl (.inr (.inl hx))
  · exact .inl (.inr (.inr hx))
section
variable {At : DkAt}
theorem Sr.logged {W W' : World} {q p lq n b b2 : Nat} {S : Nat → Prop} {d d2 : Dk.D} {k : St.K} {v : Value} (h : Sr At W q p lq n b S d k v) (hg : Logged At W W' p lq n b2 S d2) :
    ∃ S', Sr At W' q p lq n b2 S' d2 k v ∧ (∀ x, S' x → S x ∨ W.heap.size ≤ x) ∧ Ko (StS S q lq) W W' := by
  obtain ⟨⟨S', h1, h2, h3⟩, h4, h5⟩ := hg
  refine ⟨S', ⟨h.row.ko h5 (fun hx => hx.elim h.nq h.ql), h4, h1, fun hx => (h2 q hx).elim h.nq (fun h6 => absurd (Rw.lt h.row) (by omega)), h3⟩, h2, h5.mono fun x _ hx => hx.elim .inl (fun e => .inr (.inr e))⟩
theorem sadd_no {d : Dk.D} {n b : Nat} {l : List Wl.R} {k : St.K} (h : (Wl.add d n l).1 ≠ .ok) : St.add d n b l k = (eno (Wl.add d n l).1, (Wl.add d n l).2, (n, b)) := by unfold St.add; rw [if_neg h]
theorem sadd_few {d : Dk.D} {n b : Nat} {l : List Wl.R} {k : St.K} (h : (Wl.add d n l).1 = .ok) (hb : b + l.length < 32) : St.add d n b l k = (0, (Wl.add d n l).2, (n, b + l.length)) := by unfold St.add; rw [if_pos h, if_pos hb]
theorem sadd_turn {d : Dk.D} {n b : Nat} {l : List Wl.R} {k : St.K} (h : (Wl.add d n l).1 = .ok) (hb : ¬ b + l.length < 32) : St.add d n b l k = St.turn (Wl.add d n l).2 n (b + l.length) k := by unfold St.add; rw [if_pos h, if_neg hb]
set_option maxRecDepth 100000 in
set_option maxHeartbeats 8000000 in
theorem sadd_any (K : DiskK At) (W : World) (q p lq n b : Nat) (S : Nat → Prop) (d : Dk.D) (k : St.K) (v : Value) (k2 : St.K) (A : Option Addr) (c : Nat) (l : List Wl.R) (AR : Option Addr) (cr : Nat) (hS : Sr At W q p lq n b S d k v) (hE : ∀ W', Ko (StS S q lq) W W' → EnvT W') (hn : n + 1 < Nm.top) (hK : KIn W k2 A c) (haw : Away (StS S q lq) A (ec k2.ents))
    (hR : Lies W AR (wrs l)) (hl : Wl.Ok l) (hb : b + l.length ≤ 1000000000)
    (hc : Dk.load d + Wl.cost (l.map Wl.text) ≤ 100000000) (hc2 : Dk.load (Wl.add d n l).2 + 100 + Wl.cost ((St.base k2).map Wl.text) ≤ 100000000) :
    Calls Tryz.prog 78 #[.pointer (some ⟨q, 0, none⟩), .slice AR l.length cr, .agg (kC k2 (.slice A k2.ents.length c))] W fun e w' => e = .returned (.int .i64 (St.add d n b l k2).1) ∧ Goes At W q p lq S k v (St.add d n b l k2) w' := by
  have HS := Lib.hid hS
  have HAd := Lib.hid (fun W1 (h : Below W.heap.size W W1) => add_any K nameSays W1 lq p n b S d l AR cr (hE W1 (Ko.bel h)) (by omega) (hS.log.below h) (K.below hS.at_ h) hS.nl (hR.below h) hl hc (by omega))
  have HBh := Lib.hid (fun W2 (h : LogAt W2 lq p n (b + l.length)) => behind_any W2 lq p n (b + l.length) h)
  have HTn := Lib.hid (fun W2 S2 (h : Sr At W2 q p lq n (b + l.length) S2 (Wl.add d n l).2 k v) (hs : ∀ x, S2 x → S x ∨ W.heap.size ≤ x) (hk : Ko (StS S q lq) W W2) => turn_any K W2 q p lq n (b + l.length) S2 (Wl.add d n l).2 k v k2 A c h (fun W3 h3 => hE W3 (hk.trans h3 (StS.up hs))) hn (hK.ko haw hk) hc2)
  have HKd := Lib.hid K
  obtain ⟨R, hRR⟩ : ∃ R, R = Wl.add d n l := ⟨_, rfl⟩
  have HNo : Hid (R.1 ≠ .ok → St.add d n b l k2 = (eno R.1, R.2, (n, b))) := Lib.hid (by rw [hRR]; exact sadd_no)
  have HFew : Hid (R.1 = .ok → b + l.length < 32 → St.add d n b l k2 = (0, R.2, (n, b + l.length))) := Lib.hid (by rw [hRR]; exact sadd_few)
  have HTu : Hid (R.1 = .ok → ¬ b + l.length < 32 → St.add d n b l k2 = St.turn R.2 n (b + l.length) k2) := Lib.hid (by rw [hRR]; exact sadd_turn)
  rw [← hRR] at HAd HTn
  obtain ⟨T, hT⟩ : ∃ T, T = St.turn R.2 n (b + l.length) k2 := ⟨_, rfl⟩
  rw [← hT] at HTn HTu
  obtain ⟨X, hX⟩ : ∃ X, X = kC k2 (.slice A k2.ents.length c) := ⟨_, rfl⟩
  have HX : Hid ((Tryz.prog.info? 58).map (·.size) = some X.size) := Lib.hid (by rw [hX]; exact sizeKept' _ _)
  rw [← hX] at HTn ⊢
  obtain ⟨G, hG⟩ : ∃ G, G = St.add d n b l k2 := ⟨_, rfl⟩
  rw [← hG] at HNo HFew HTu ⊢
  have hbi : (b + l.length : Nat) ≤ 1000000000 := hb
  obtain ⟨m, hm⟩ : ∃ m, m = b + l.length := ⟨_, rfl⟩
  rw [← hm] at HBh HTn HFew HTu hbi
  have Hbeh : Hid (Wl.beh .ok b l.length = m) := Lib.hid (by rw [hm]; rfl)
  clear hS hE hn hK hc hc2 K hRR hX hT hG hR hl haw hb hm
  go_enter Tryz.func78, Tryz.ntmps78
  go_upto_region 1 with (fail)
  refine forget (fun W1 => Rw W1 W.heap.size X 58 ∧ Bl W W1 ∧ W.heap.size ≤ W.heap.size) ⟨Rw.new W X _, (Bl.refl W).alloc _, Nat.le_refl _⟩ ?_
  intro W1 H1
  obtain ⟨gb, hgb⟩ : ∃ gb, gb = W.heap.size := ⟨_, rfl⟩
  rw [← hgb] at H1 ⊢
  have HI := Lib.hid H1
  have Hgb := Lib.hid hgb
  have cl := (HS.out.row.bel H1.2.1.bel).clg
  clear H1 hgb
  go_wp2_with fail
  refine (HAd.out W1 HI.out.2.1.bel).mono ?_
  rintro e w2 ⟨rfl, hlg⟩
  have H2 := Lib.hid ((HS.out.bel HKd.out HI.out.2.1.bel).logged hlg)
  clear hlg cl
  by_cases hok : R.1 = .ok
  case neg =>
    obtain ⟨z1, z2, z3⟩ := eno_ne hok
    have E := Lib.hid (HNo.out hok)
    have HF : Hid (Goes At W q p lq S k v (eno R.1, R.2, (n, b)) w2) := Lib.hid (by
      obtain ⟨S', s1, s2, s3⟩ := H2.out
      rw [Wl.beh_no hok] at s1
      exact Goes.after HI.out.2.1.bel ⟨⟨lq, S', s1, s2, .inl rfl⟩, s3⟩)
    obtain ⟨nv, hnv⟩ : ∃ nv, nv = eno R.1 := ⟨_, rfl⟩
    rw [← hnv] at z2 z1 z3 ⊢
    have Hnv := Lib.hid hnv
    clear hok hnv
    go_wp2_with fail
    go_ret
    rw [E.out]
    exact ⟨by rw [← Hnv.out]; rfl, HF.out⟩
  have hno : eno R.1 = 0 := by rw [hok]; rfl
  have H3 : Hid (∃ S', Sr At w2 q p lq n m S' R.2 k v ∧ (∀ x, S' x → S x ∨ W1.heap.size ≤ x) ∧ Ko (StS S q lq) W1 w2) := Lib.hid (by have := H2.out; rwa [hok, Hbeh.out] at this)
  obtain ⟨S', s1, s2, s3⟩ := H3.out
  have H4 := Lib.hid (And.intro s1 (And.intro s2 s3))
  have cl := s1.row.clg
  have hW1 : W.heap.size ≤ W1.heap.size := HI.out.2.1.bel.size
  have Hk2 : Hid (Ko (StS S q lq) W w2) := Lib.hid ((Ko.bel HI.out.2.1.bel).trans (T := StS S q lq) s3 fun x h => .inl h)
  have Hs2 : Hid (∀ x, S' x → S x ∨ W.heap.size ≤ x) := Lib.hid fun x hx => (s2 x hx).imp id (Nat.le_trans hW1)
  rw [hno]
  have Hok := Lib.hid hok
  clear hok hno s1 s2 s3 H3 H2
  by_cases hb : m < 32
  · have E := Lib.hid (HFew.out Hok.out hb)
    have hbz : decide ((m : Int) < 32) = true := decide_eq_true (by omega)
    have hbz2 : ((m : Int) < 32) = True := eq_true (by omega)
    have Hb := Lib.hid hb
    clear hb
    go_wp2_with fail
    refine (HBh.out _ H4.out.1.log).mono ?_
    rintro e w3 ⟨rfl, rfl⟩
    go_wp2_with fail
    go_ret
    rw [E.out]
    exact ⟨rfl, ⟨⟨lq, S', H4.out.1, Hs2.out, .inl rfl⟩, Hk2.out⟩⟩
  · have E := Lib.hid (HTu.out Hok.out hb)
    have hbz : decide ((m : Int) < 32) = false := decide_eq_false (by omega)
    have hbz2 : ((m : Int) < 32) = False := eq_false (by omega)
    have Hb := Lib.hid hb
    have HIr : Hid (Rw w2 gb X 58) := Lib.hid (by
      refine H4.out.2.2.row ?_ HI.out.1
      have hgb := Hgb.out
      have hgS : ∀ x, S x → x < W.heap.size := fun x hx => HKd.out.lt HS.out.at_ x hx
      rintro (h | h | h)
      · have := hgS _ h; omega
      · have := Rw.lt HS.out.row; omega
      · have := HS.out.log.lt; omega)
    clear hb
    go_wp2_with fail
    refine (HBh.out _ H4.out.1.log).mono ?_
    rintro e w3 ⟨rfl, rfl⟩
    go_wp2_with (refine wpList_load_sub rfl 58 _ rfl gb 0 rfl 58 X X (0, 0) _ HIr.out (fun j hj => by rw [Nat.zero_add]) Tryz.underlying58 rfl HX.out ?_)
    refine (HTn.out _ S' H4.out.1 Hs2.out Hk2.out).mono ?_
    rintro e w4 ⟨rfl, hg⟩
    have HG := Lib.hid hg
    clear hg
    go_wp2_with fail
    go_ret
    rw [E.out]
    exact ⟨rfl, Goes.trans (k1 := k) (v1 := v) Hk2.out Hs2.out (.inl rfl) HG.out⟩
end
end Go.Proofs.YtjhbpcecdhdnoaaGreatDoor
namespace Go.Proofs.YtjhbpcecdhdnoaaGreatDoor
open Go.RowKit
section
variable {At : DkAt}
theorem Sr.lts {W : World} {q p lq n b : Nat} {S : Nat → Prop} {d : Dk.D} {k : St.K} {v : Value} (K : DiskK At) (h : Sr At W q p lq n b S d k v) : ∀ x, StS S q lq x → x < W.heap.size := by
  rintro x (hx | rfl | rfl)
  · exact K.lt h.at_ x hx
  · exact Rw.lt h.row
  · exact h.log.lt
theorem Sr.now {W W' : World} {q p lq n b : Nat} {S : Nat → Prop} {d d2 : Dk.D} {k : St.K} {v : Value} (h : Sr At W q p lq n b S d k v) (hg : Now At W W' p S d2) :
    ∃ S', Sr At W' q p lq n b S' d2 k v ∧ (∀ x, S' x → S x ∨ W.heap.size ≤ x) ∧ Ko (StS S q lq) W W' := by
  obtain ⟨⟨S', h1, h2⟩, h5⟩ := hg
  have hq : q < W.heap.size := Rw.lt h.row
  have hl : lq < W.heap.size := h.log.lt
  refine ⟨S', ⟨h.row.ko h5 h.nq, h.log.ko h5 h.nl, h1, fun hx => (h2 q hx).elim h.nq (fun h6 => absurd hq (by omega)), fun hx => (h2 lq hx).elim h.nl (fun h6 => absurd hl (by omega))⟩, h2, h5.mono fun x _ hx => .inl hx⟩
theorem inst_no {d : Dk.D} {n b o : Nat} {k : St.K} (h : (St.writeSnap d k.snap).1 ≠ .ok) : St.install d n b o k = (eno (St.writeSnap d k.snap).1, (St.writeSnap d k.snap).2, (n, b)) := by unfold St.install; rw [if_neg h]
theorem inst_turn {d : Dk.D} {n b o : Nat} {k : St.K} (h : (St.writeSnap d k.snap).1 = .ok) (h2 : (St.turn (St.writeSnap d k.snap).2 n b k).1 ≠ 0) : St.install d n b o k = St.turn (St.writeSnap d k.snap).2 n b k := by unfold St.install; rw [if_pos h, if_neg h2]
theorem inst_yes {d : Dk.D} {n b o : Nat} {k : St.K} (h : (St.writeSnap d k.snap).1 = .ok) (h2 : (St.turn (St.writeSnap d k.snap).2 n b k).1 = 0) : St.install d n b o k = (eno (St.remove (St.turn (St.writeSnap d k.snap).2 n b k).2.1 (St.sname o)).1, (St.remove (St.turn (St.writeSnap d k.snap).2 n b k).2.1 (St.sname o)).2, (St.turn (St.writeSnap d k.snap).2 n b k).2.2) := by unfold St.install; rw [if_pos h, if_pos h2]
set_option maxRecDepth 100000 in
set_option maxHeartbeats 8000000 in
theorem sinstall_any (K : DiskK At) (W : World) (q p lq n b : Nat) (S : Nat → Prop) (d : Dk.D) (k : St.K) (v : Value) (k2 : St.K) (A : Option Addr) (c : Nat) (hS : Sr At W q p lq n b S d k v) (hE : ∀ W', Ko (StS S q lq) W W' → EnvT W') (hn : n + 1 < Nm.top) (hK : KIn W k2 A c) (haw : Away (StS S q lq) A (ec k2.ents))
    (hf : St.SnFits k2.snap) (hki : k.snap.idx < Nm.top)
    (hc : Dk.load d + 200 + Wl.cost (St.srow k2.snap) ≤ 100000000) (hc2 : Dk.load (St.writeSnap d k2.snap).2 + 100 + Wl.cost ((St.base k2).map Wl.text) ≤ 100000000) :
    Calls Tryz.prog 79 #[.pointer (some ⟨q, 0, none⟩), .agg (kC k2 (.slice A k2.ents.length c))] W fun e w' => e = .returned (.int .i64 (St.install d n b k.snap.idx k2).1) ∧ Goes At W q p lq S k v (St.install d n b k.snap.idx k2) w' := by
  have HS := Lib.hid hS
  have HKd := Lib.hid K
  have HW := Lib.hid (fun W1 (h : Below W.heap.size W W1) => writeSnap_any K W1 p q 1 S d k2.snap (K.below hS.at_ h) ⟨fun W' hk => hE W' ((Ko.bel h).trans (T := S) hk fun x hx => .inl (.inl hx)), (hS.row.bel h).tab, hS.nq⟩ hf hc)
  have HTn := Lib.hid (fun W2 S2 (h : Sr At W2 q p lq n b S2 (St.writeSnap d k2.snap).2 k v) (hs : ∀ x, S2 x → S x ∨ W.heap.size ≤ x) (hk : Ko (StS S q lq) W W2) => turn_any K W2 q p lq n b S2 (St.writeSnap d k2.snap).2 k v k2 A c h (fun W3 h3 => hE W3 (hk.trans h3 (StS.up hs))) hn (hK.ko haw hk) hc2)
  have HSn := Lib.hid (fun W1 (h : Ko (StS S q lq) W W1) => snapName_any k.snap.idx W1 hki (hE W1 h))
  have hnz := (St.sname_size hki).2
  have hki2 : k.snap.idx ≤ 18446744073709551615 := by unfold Nm.top at hki; omega
  obtain ⟨R, hRR⟩ : ∃ R, R = St.writeSnap d k2.snap := ⟨_, rfl⟩
  have HNo : Hid (R.1 ≠ .ok → St.install d n b k.snap.idx k2 = (eno R.1, R.2, (n, b))) := Lib.hid (by rw [hRR]; exact inst_no)
  have HTu : Hid (R.1 = .ok → (St.turn R.2 n b k2).1 ≠ 0 → St.install d n b k.snap.idx k2 = St.turn R.2 n b k2) := Lib.hid (by rw [hRR]; exact inst_turn)
  have HYe : Hid (R.1 = .ok → (St.turn R.2 n b k2).1 = 0 → St.install d n b k.snap.idx k2 = (eno (St.remove (St.turn R.2 n b k2).2.1 (St.sname k.snap.idx)).1, (St.remove (St.turn R.2 n b k2).2.1 (St.sname k.snap.idx)).2, (St.turn R.2 n b k2).2.2)) := Lib.hid (by rw [hRR]; exact inst_yes)
  rw [← hRR] at HW HTn
  obtain ⟨T, hT⟩ : ∃ T, T = St.turn R.2 n b k2 := ⟨_, rfl⟩
  rw [← hT] at HTn HTu HYe
  obtain ⟨nm, hnm⟩ : ∃ nm, nm = St.sname k.snap.idx := ⟨_, rfl⟩
  rw [← hnm] at HSn hnz HYe
  obtain ⟨G, hG⟩ : ∃ G, G = St.install d n b k.snap.idx k2 := ⟨_, rfl⟩
  rw [← hG] at HNo HTu HYe ⊢
  obtain ⟨X, hX⟩ : ∃ X, X = kC k2 (.slice A k2.ents.length c) := ⟨_, rfl⟩
  have HX : Hid ((Tryz.prog.info? 58).map (·.size) = some X.size) := Lib.hid (by rw [hX]; exact sizeKept' _ _)
  have HXe := Lib.hid hX
  rw [← hX] at HTn ⊢
  clear hS hE hn hK hc hc2 K hRR hX hT hG hnm hf haw hki
  go_enter Tryz.func79, Tryz.ntmps79
  go_upto_region 1 with (fail)
  refine forget (fun W1 => Rw W1 W.heap.size X 58 ∧ Bl W W1 ∧ W.heap.size ≤ W.heap.size) ⟨Rw.new W X _, (Bl.refl W).alloc _, Nat.le_refl _⟩ ?_
  intro W1 H1
  obtain ⟨gb, hgb⟩ : ∃ gb, gb = W.heap.size := ⟨_, rfl⟩
  rw [← hgb] at H1 ⊢
  have HI := Lib.hid H1
  have Hgb := Lib.hid hgb
  have hcs := H1.1
  rw [HXe.out] at hcs
  obtain ⟨x0, x1, x2, x3, x4, x5, x6, x7, x8, x9, x10⟩ := kc_cells hcs
  have q0 := (HS.out.row.bel H1.2.1.bel).c0
  have HW2 := HW
  unfold snC at HW2
  clear hcs H1 hgb
  go_region_law (
    (go_simp; go_at_call 130; refine (HW2.out _ (below_drew HI.out.2.1.bel)).mono ?_; rintro e w2 ⟨rfl, hn2⟩; have H2 := Lib.hid (Now.after (below_drew (Below.refl _ _)) hn2); clear hn2))
  all_goals (
    clear q0 x0 x1 x2 x3 x4 x5 x6 x7 x8 x9 x10
    have H2b := Lib.hid ((HS.out.bel HKd.out HI.out.2.1.bel).now H2.out)
    clear H2
    by_cases hok : R.1 = .ok
    case neg =>
      obtain ⟨z1, z2, z3⟩ := eno_ne hok
      have E := Lib.hid (HNo.out hok)
      have HF : Hid (Goes At W q p lq S k v (eno R.1, R.2, (n, b)) w2) := Lib.hid (by
        obtain ⟨S', s1, s2, s3⟩ := H2b.out
        exact Goes.after HI.out.2.1.bel ⟨⟨lq, S', s1, s2, .inl rfl⟩, s3⟩)
      obtain ⟨nv, hnv⟩ : ∃ nv, nv = eno R.1 := ⟨_, rfl⟩
      rw [← hnv] at z2 z1 z3 ⊢
      have Hnv := Lib.hid hnv
      clear hok hnv H2b
      go_wp2_with fail
      go_ret
      rw [E.out]
      exact ⟨by rw [← Hnv.out]; rfl, HF.out⟩
    have hno : eno R.1 = 0 := by rw [hok]; rfl
    obtain ⟨S', s1, s2, s3⟩ := H2b.out
    have H4 := Lib.hid (And.intro s1 (And.intro s2 s3))
    have hW1 : W.heap.size ≤ W1.heap.size := HI.out.2.1.bel.size
    have Hk2 : Hid (Ko (StS S q lq) W w2) := Lib.hid ((Ko.bel HI.out.2.1.bel).trans (T := StS S q lq) s3 fun x h => .inl h)
    have Hs2 : Hid (∀ x, S' x → S x ∨ W.heap.size ≤ x) := Lib.hid fun x hx => (s2 x hx).imp id (Nat.le_trans hW1)
    rw [hno]
    have Hok := Lib.hid hok
    have HIr : Hid (Rw w2 gb X 58) := Lib.hid (s3.row (fun h => by
      have := HS.out.lts HKd.out gb h
      have := Hgb.out
      omega) HI.out.1)
    clear hok hno s1 s2 s3 H2b
    go_wp2_with (refine wpList_load_sub rfl 58 _ rfl gb 0 rfl 58 X X (0, 0) _ HIr.out (fun j hj => by rw [Nat.zero_add]) Tryz.underlying58 rfl HX.out ?_)
    refine (HTn.out _ S' H4.out.1 Hs2.out Hk2.out).mono ?_
    rintro e w4 ⟨rfl, hg⟩
    have HG := Lib.hid hg
    clear hg
    by_cases ht : T.1 = 0
    case neg =>
      have z1 : (T.1 != 0) = true := bne_iff_ne.2 ht
      have z2 : (T.1 == 0) = false := beq_eq_false_iff_ne.2 ht
      have z3 : (T.1 = 0) = False := eq_false ht
      have E := Lib.hid (HTu.out Hok.out ht)
      obtain ⟨nv, hnv⟩ : ∃ nv, nv = T.1 := ⟨_, rfl⟩
      rw [← hnv] at z2 z1 z3 ⊢
      have Hnv := Lib.hid hnv
      clear ht hnv
      go_wp2_with fail
      go_ret
      rw [E.out]
      exact ⟨by rw [← Hnv.out]; rfl, Goes.trans (k1 := k) (v1 := v) Hk2.out Hs2.out (.inl rfl) HG.out⟩
    have E := Lib.hid (HYe.out Hok.out ht)
    rw [ht]
    obtain ⟨⟨lq', S5, t1, t2, t3⟩, t4⟩ := HG.out
    have H5 := Lib.hid (And.intro t1 (And.intro t2 (And.intro t3 t4)))
    have c0 := t1.row.c0
    have c260 := t1.row.csnap
    have HRm := Lib.hid (fun W5 (h : Below w4.heap.size w4 W5) => remove_any HKd.out w4 W5 p S5 T.2.1 nm (HKd.out.now H5.out.1.at_ h) (by omega))
    have HSn2 : Hid (∀ W5, Below w4.heap.size w4 W5 → Calls Tryz.prog 132 #[.int .u64 (k.snap.idx : Int)] W5 fun e w' => e = .returned (.string nm) ∧ Below W5.heap.size W5 w') := Lib.hid fun W5 h => HSn.out W5 ((Hk2.out.trans (T := StS S' q lq) H5.out.2.2.2 (StS.up Hs2.out)).trans (T := StS S q lq) (Ko.bel h) fun _ h => .inl h)
    have HH5 : Hid (∀ w5, Below w4.heap.size w4 w5 → w5.cell? ⟨q, 0, none⟩ = some (.pointer (some ⟨p, 0, none⟩))) := Lib.hid fun w5 hb => later hb H5.out.1.row.c0
    clear ht t1 t2 t3 t4 HG
    go_upto_region 7 with (fail)
    go_region_law (first
      | (go_simp; go_at_call 132; refine (HSn2.out _ (below_drew (Below.refl _ _))).mono ?_; rintro e w5 ⟨rfl, hb5⟩; have hb5' := bnext (below_drew (Below.refl _ _)) hb5; have c05 := HH5.out w5 hb5'; have HW5 := Lib.hid hb5'; clear hb5 hb5')
      | (go_simp; go_at_call 131; refine (HRm.out _ HW5.out).mono ?_; rintro e w6 ⟨rfl, hn6⟩; have H6 := Lib.hid hn6; clear hn6))
    all_goals (
      go_wp2_with fail
      go_ret
      rw [E.out]
      refine ⟨rfl, ?_⟩
      obtain ⟨S6, a6, s6, k6⟩ := H5.out.1.now H6.out
      exact Goes.trans (k1 := k) (v1 := v) Hk2.out Hs2.out (.inl rfl) ⟨⟨lq', S6, a6, fun x hx => (s6 x hx).elim (H5.out.2.1 x) (fun h2 => .inr (Nat.le_trans H5.out.2.2.2.size h2)), H5.out.2.2.1⟩, H5.out.2.2.2.trans (T := S5) H6.out.ko fun x hx => (H5.out.2.1 x hx).imp .inl id⟩))
end
end Go.Proofs.YtjhbpcecdhdnoaaGreatDoor
namespace Go.Proofs.YtjhbpcecdhdnoaaGreatDoor
open Go.RowKit
def Ended (W w' : World) (q p : Nat) (lg : Value) (k : St.K) (v : Value) (lost : Bool) (k2 : St.K) (v2 : Value) (e : Int) : Prop :=
  Ko (fun x => x = q) W w' ∧ (e = 0 → StRow w' q p lg k2 v2 lost) ∧ (e = 7 → StRow w' q p lg k v true) ∧ (e ≠ 0 → e ≠ 7 → StRow w' q p lg k v lost)
set_option maxRecDepth 100000 in
set_option maxHeartbeats 4000000 in
theorem send_any (W : World) (q p : Nat) (lg : Value) (k : St.K) (v : Value) (lost : Bool) (k2 : St.K) (v2 : Value) (e : Int) (hR : StRow W q p lg k v lost) (hv : v2.oneCell' = true) (he : 0 ≤ e ∧ e ≤ 1000) :
    Calls Tryz.prog 77 #[.pointer (some ⟨q, 0, none⟩), .agg (kC k2 v2), .int .i64 e] W fun r w' => r = .returned (.int .i64 e) ∧ Ended W w' q p lg k v lost k2 v2 e := by
  have HR := Lib.hid hR
  have HSz := Lib.hid (stC_size p lg k v lost)
  obtain ⟨X, hX⟩ : ∃ X, X = kC k2 v2 := ⟨_, rfl⟩
  have HX : Hid ((Tryz.prog.info? 58).map (·.size) = some X.size ∧ X.all (·.oneCell') = true ∧ X.size = 11) := Lib.hid (by rw [hX]; exact ⟨sizeKept, by simp [kC, Value.oneCell']; exact hv, rfl⟩)
  have HPk : Hid (∀ W2, StRow W2 q p lg k v lost → StRow (W2.setCells q 258 X.toList) q p lg k2 v2 lost) := Lib.hid (by rw [hX]; exact fun W2 h => h.putk k2 v2)
  rw [← hX]
  obtain ⟨Y, hY⟩ : ∃ Y, Y = stC p lg k v lost := ⟨_, rfl⟩
  have HY : Hid (Y.size = 270 ∧ ∀ W2, StRow W2 q p lg k v lost → Rw W2 q Y 99) := Lib.hid (by rw [hY]; exact ⟨stC_size .., fun _ h => h⟩)
  clear hX hR hY
  go_enter Tryz.func77, Tryz.ntmps77
  go_upto_region 1 with (fail)
  refine forget (fun W1 => Rw W1 W.heap.size X 58 ∧ Bl W W1 ∧ W.heap.size ≤ W.heap.size) ⟨Rw.new W X _, (Bl.refl W).alloc _, Nat.le_refl _⟩ ?_
  intro W1 H1
  obtain ⟨gb, hgb⟩ : ∃ gb, gb = W.heap.size := ⟨_, rfl⟩
  rw [← hgb] at H1 ⊢
  have HI := Lib.hid H1
  have HR1 := Lib.hid (HR.out.bel H1.2.1.bel)
  have fr := Rw.free HR1.out 269
  have cl := HR1.out.clost
  clear H1 hgb
  by_cases h0 : e = 0
  · subst h0
    go_wp2_with (first
      | (refine wpList_load_sub rfl 58 _ rfl gb 0 rfl 58 X X (0, 0) _ HI.out.1 (fun j hj => by rw [Nat.zero_add]) Tryz.underlying58 rfl HX.out.1 ?_)
      | (refine wpList_store_sub rfl 58 _ _ rfl q 258 rfl 99 Y X rfl (HY.out.2 _ HR1.out) (by rw [HX.out.2.2, HY.out.1]; decide) HX.out.1 HX.out.2.1 ?_))
    go_ret
    exact ⟨rfl, Ko.puts (T := fun x => x = q) (W' := W) rfl _ _ (Ko.bel HI.out.2.1.bel), fun _ => HPk.out _ HR1.out, fun h => absurd h (by decide), fun h => absurd rfl h⟩
  by_cases h7 : e = 7
  · subst h7
    go_wp2_with fail
    go_ret
    exact ⟨rfl, Ko.put (T := fun x => x = q) (Ko.bel HI.out.2.1.bel) rfl _ _, fun h => absurd h (by decide), fun _ => HR1.out.putlost true, fun _ h => absurd rfl h⟩
  · have z1 : (e == 0) = false := beq_eq_false_iff_ne.2 h0
    have z2 : (e = 0) = False := eq_false h0
    have z3 : (e == 7) = false := beq_eq_false_iff_ne.2 h7
    have z4 : (e = 7) = False := eq_false h7
    have H0 := Lib.hid h0
    have H7 := Lib.hid h7
    clear h0 h7
    go_wp2_with fail
    go_ret
    exact ⟨rfl, Ko.bel HI.out.2.1.bel, fun h => absurd h H0.out, fun h => absurd h H7.out, fun _ _ => HR1.out⟩
end Go.Proofs.YtjhbpcecdhdnoaaGreatDoor
namespace Go.Proofs.YtjhbpcecdhdnoaaGreatDoor
open Go.RowKit
namespace St
def done (R : Int × Dk.D × (Nat × Nat)) (k k' : K) : Int × Dk.D × (Nat × Nat) × K × Bool := (R.1, R.2.1, R.2.2, (if R.1 = 0 then k' else k), decide (R.1 = 7))
def save (d : Dk.D) (n b : Nat) (k : K) (l : List Wl.R) : Int × Dk.D × (Nat × Nat) × K × Bool :=
  if d.off then (7, d, (n, b), k, false) else match after k l with
  | none => (1, d, (n, b), k, false)
  | some k' => if l = [] then (0, d, (n, b), k, false) else done (add d n b l k') k k'
def scut (d : Dk.D) (n b : Nat) (k : K) (s : Sn) : Int × Dk.D × (Nat × Nat) × K × Bool :=
  if d.off then (7, d, (n, b), k, false) else match cut k s with
  | none => (10, d, (n, b), k, false)
  | some k' => done (install d n b k.snap.idx k') k k'
end St
structure Sto (At : DkAt) (W : World) (q p lq n b : Nat) (S : Nat → Prop) (d : Dk.D) (k : St.K) (A : Option Addr) (c : Nat) (lost : Bool) : Prop where
  row : StRow W q p (.pointer (some ⟨lq, 0, none⟩)) k (.slice A k.ents.length c) lost
  log : LogAt W lq p n b
  at_ : At W p S d
  nq : ¬ S q
  nl : ¬ S lq
  kin : KIn W k A c
  aw : Away (StS S q lq) A (ec k.ents)
def Stored (At : DkAt) (W : World) (q p lq : Nat) (S : Nat → Prop) (x : Int × Dk.D × (Nat × Nat) × St.K × Bool) (w' : World) : Prop :=
  ∃ lq' S' A' c', Sto At w' q p lq' x.2.2.1.1 x.2.2.1.2 S' x.2.1 x.2.2.2.1 A' c' x.2.2.2.2 ∧ (∀ y, S' y → S y ∨ W.heap.size ≤ y) ∧ (lq' = lq ∨ W.heap.size ≤ lq') ∧ Ko (StS S q lq) W w'
theorem own_cap13 {w : World} {base : Nat} {e : TypeId} {s : Nat} {A : Option Addr} {n c : Nat} {xs : List Value} (h : w.ownsRow base e s (.slice A n c) n xs) : n ≤ c := by
  rcases h.2 with ⟨hv, hn⟩ | ⟨g, cap, cur, hv, _, _, hc, _⟩
  · omega
  · injection hv with _ _ h3; omega
theorem own_form {w : World} {base : Nat} {e : TypeId} {s : Nat} {A : Option Addr} {n c : Nat} {xs : List Value} (h : w.ownsRow base e s (.slice A n c) n xs) : (∃ b off, A = some ⟨b, off, none⟩) ∨ (A = none ∧ c = 0) := by
  rcases h.2 with ⟨hv, hn⟩ | ⟨g, cap, cur, hv, _⟩
  · injection hv with h1 _ h3
    exact .inr ⟨h1, h3⟩
  · injection hv with h1
    exact .inl ⟨g, 0, h1⟩
theorem kin_own {w : World} {B : Nat} {k : St.K} {A : Option Addr} {c : Nat} (h : w.ownsRow B 88 13 (.slice A k.ents.length c) k.ents.length (ec k.ents)) (hl : k.ents.length ≤ 100000) (hs : St.Small k) : KIn w k A c :=
  ⟨lies_own13 h, own_form h, own_cap13 h, hl, hs⟩
theorem away_own {w : World} {B : Nat} {T : Nat → Prop} {A : Option Addr} {n c : Nat} {e : TypeId} {s : Nat} {xs : List Value} (h : w.ownsRow B e s (.slice A n c) n xs) (hT : ∀ x, T x → x < B) : Away T A xs := by
  rintro b off _ rfl hb
  have h1 := (own_lt h (b := b) rfl).2
  have := hT b hb
  omega
section
variable {At : DkAt}
theorem Sto.sr {W : World} {q p lq n b : Nat} {S : Nat → Prop} {d : Dk.D} {k : St.K} {A : Option Addr} {c : Nat} (h : Sto At W q p lq n b S d k A c false) : Sr At W q p lq n b S d k (.slice A k.ents.length c) := ⟨h.row, h.log, h.at_, h.nq, h.nl⟩
theorem Sto.bel (K : DiskK At) {W W' : World} {q p lq n b : Nat} {S : Nat → Prop} {d : Dk.D} {k : St.K} {A : Option Addr} {c : Nat} {lost : Bool} (h : Sto At W q p lq n b S d k A c lost) (hb : Below W.heap.size W W') : Sto At W' q p lq n b S d k A c lost :=
  ⟨h.row.bel hb, h.log.below hb, K.below h.at_ hb, h.nq, h.nl, h.kin.bel hb, h.aw⟩
theorem Stored.same (K : DiskK At) {W w' : World} {q p lq n b : Nat} {S : Nat → Prop} {d : Dk.D} {k : St.K} {A : Option Addr} {c : Nat} {lost : Bool} (h : Sto At W q p lq n b S d k A c lost) (hb : Below W.heap.size W w') (e : Int) : Stored At W q p lq S (e, d, (n, b), k, lost) w' :=
  ⟨lq, S, A, c, h.bel K hb, fun _ hy => .inl hy, .inl rfl, Ko.bel hb⟩
theorem Stored.of (K : DiskK At) {W W4 w5 W6 w' : World} {q p lq lq' n b : Nat} {S S' : Nat → Prop} {d : Dk.D} {k k' : St.K} {A A' : Option Addr} {c c' : Nat} {R : Int × Dk.D × (Nat × Nat)} (h : Sto At W q p lq n b S d k A c false) (hb4 : Below W.heap.size W W4)
    (s5 : Sr At w5 q p lq' R.2.2.1 R.2.2.2 S' R.2.1 k (.slice A k.ents.length c)) (hs : ∀ x, S' x → S x ∨ W4.heap.size ≤ x) (hl : lq' = lq ∨ W4.heap.size ≤ lq') (hk5 : Ko (StS S q lq) W4 w5)
    (hb6 : Below w5.heap.size w5 W6) (kin : KIn W4 k' A' c') (haw : Away (StS S q lq) A' (ec k'.ents))
    (he : Ended W6 w' q p (.pointer (some ⟨lq', 0, none⟩)) k (.slice A k.ents.length c) false k' (.slice A' k'.ents.length c') R.1) : Stored At W q p lq S (St.done R k k') w' := by
  have hq6 : Ko (fun x => x = q) w5 w' := (Ko.bel hb6).trans (T := fun x => x = q) he.1 fun x hx => .inl hx
  have hko : Ko (StS S q lq) W w' := ((Ko.bel hb4).trans (T := StS S q lq) hk5 fun _ h => .inl h).trans (T := fun x => x = q) hq6 fun x hx => .inl (.inr (.inl hx))
  have log' := s5.log.ko hq6 fun e => s5.ql e.symm
  have at' := K.ko s5.at_ hq6 fun x hx e => s5.nq (by rw [← e]; exact hx)
  have up : ∀ x, StS S' q lq' x → StS S q lq x ∨ W4.heap.size ≤ x := by
    rintro x (hx | rfl | rfl)
    · exact (hs x hx).imp .inl id
    · exact .inl (.inr (.inl rfl))
    · exact hl.imp (fun e => .inr (.inr e)) id
  have fin : ∀ (k2 : St.K) (A2 : Option Addr) (c2 : Nat), KIn W4 k2 A2 c2 → Away (StS S q lq) A2 (ec k2.ents) → KIn w' k2 A2 c2 ∧ Away (StS S' q lq') A2 (ec k2.ents) := fun k2 A2 c2 h1 h2 =>
    ⟨(h1.ko h2 hk5).ko (S := fun x => x = q) (fun b off e1 e2 e3 => h2 b off e1 e2 (.inr (.inl e3))) hq6, h2.sub h1.lies (Nat.le_refl _) up⟩
  have hsub : ∀ y, S' y → S y ∨ W.heap.size ≤ y := fun y hy => (hs y hy).imp id (Nat.le_trans hb4.size)
  have hlq : lq' = lq ∨ W.heap.size ≤ lq' := hl.imp id (Nat.le_trans hb4.size)
  obtain ⟨_, e0, e7, en⟩ := he
  by_cases h0 : R.1 = 0
  · have hd : St.done R k k' = (R.1, R.2.1, R.2.2, k', false) := by unfold St.done; rw [if_pos h0, h0]; rfl
    rw [hd]
    obtain ⟨f1, f2⟩ := fin k' A' c' kin haw
    exact ⟨lq', S', A', c', ⟨e0 h0, log', at', s5.nq, s5.nl, f1, f2⟩, hsub, hlq, hko⟩
  · obtain ⟨f1, f2⟩ := fin k A c (h.kin.bel hb4) h.aw
    by_cases h7 : R.1 = 7
    · have hd : St.done R k k' = (R.1, R.2.1, R.2.2, k, true) := by unfold St.done; rw [if_neg h0, h7]; rfl
      rw [hd]
      exact ⟨lq', S', A, c, ⟨e7 h7, log', at', s5.nq, s5.nl, f1, f2⟩, hsub, hlq, hko⟩
    · have hd : St.done R k k' = (R.1, R.2.1, R.2.2, k, false) := by unfold St.done; rw [if_neg h0, decide_eq_false h7]
      rw [hd]
      exact ⟨lq', S', A, c, ⟨en h0 h7, log', at', s5.nq, s5.nl, f1, f2⟩, hsub, hlq, hko⟩
end
end Go.Proofs.YtjhbpcecdhdnoaaGreatDoor
