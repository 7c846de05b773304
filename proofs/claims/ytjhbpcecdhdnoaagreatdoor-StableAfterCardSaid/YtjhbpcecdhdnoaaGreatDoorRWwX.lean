/-
  wal.Read walked.
  A law's disk, table and log, from call to call.
  The statements' own state and awake walked.
-/
import Derived.Test.YtjhbpcecdhdnoaaGreatDoorRWwCZ
import Derived.Test.YtjhbpcecdhdnoaaGreatDoorRWrBZ
import Derived.Test.YtjhbpcecdhdnoaaGreatDoorRDkP
import Derived.Test.YtjhbpcecdhdnoaaGreatDoorRWwI
import Derived.Test.YtjhbpcecdhdnoaaGreatDoorRSum
import Derived.Test.YtjhbpcecdhdnoaaGreatDoorRWwN
import Derived.Test.YtjhbpcecdhdnoaaGreatDoorRWlBaseZ
set_option linter.unusedSimpArgs false
set_option linter.unusedVariables false
namespace Go.Proofs.YtjhbpcecdhdnoaaGreatDoor
open Go.RowKit
namespace Dk
theorem bytes_len8 {d : D} {n : ByteArray} {f : Fl} (h : find d.files n = some f) : (bytes f).length ≤ load d := by
  have h1 := fsLoad_mem (find_mem h)
  have h2 : (bytes f).length = sz f.recs + f.torn.size := by
    unfold bytes
    rw [List.length_append, cat_length, Lib.size_eq]
  have h3 : flLoad f = 1 + f.name.size + f.recs.length + sz f.recs + f.torn.size := rfl
  show _ ≤ fsLoad d.files
  omega
theorem read_len8 (d : D) (n : ByteArray) : (read d n).1.length ≤ load d := by
  unfold read
  split
  · simp
  · split
    · simp
    · rename_i f hf
      exact bytes_len8 hf
end Dk
theorem results_tmp4 {fn : Func} {t u v x : Tmp} (h : fn.results = #[.tmp t, .tmp u, .tmp v, .tmp x]) (tmps : Array Value) (P : Program) (w : World) :
    (results fn tmps).run P w = .ok (.tuple #[tmps.getD t undef, tmps.getD u undef, tmps.getD v undef, tmps.getD x undef]) w := by
  simp [results, h]
def WRead (At : DkAt) (base : Nat) (o : (Nat × List Wl.R × Bool) × Dk.E) (W : World) (e : Ending) (w' : World) : Prop :=
  ∃ A cap, e = .returned (.tuple #[.int .u64 (o.1.1 : Int), .slice A o.1.2.1.length cap, .bool o.1.2.2, .int .i64 (eno o.2)]) ∧ Lies w' A (wrs o.1.2.1) ∧ (∀ b off, A = some ⟨b, off, none⟩ → base ≤ b) ∧ o.1.2.1.length ≤ cap ∧ Below base W w'
theorem own_cap {w : World} {B : Nat} {e : TypeId} {s : Nat} {A : Option Addr} {n c : Nat} {xs : List Value} (h : w.ownsRow B e s (.slice A n c) n xs) : n ≤ c := by
  rcases h.2 with ⟨hv, h0⟩ | ⟨g, cap, cur, hv, _, _, h1, _⟩
  · omega
  · injection hv with _ _ h3
    omega
theorem rows_len8 (l : List UInt8) : (Wl.rows l).length ≤ l.length := by
  obtain ⟨n, hn⟩ : ∃ n, n = l.length := ⟨_, rfl⟩
  induction n using Nat.strongRecOn generalizing l with
  | _ n ih =>
    cases h : Wl.row1 l with
    | none => rw [Wl.rows_none h]; exact Nat.zero_le _
    | some x =>
      obtain ⟨t, r⟩ := x
      have h3 := row1_len h
      obtain ⟨h1, h2⟩ := (Wl.row1_iff _ _ _).1 h
      have e : Wl.rows l = t :: Wl.rows r := by rw [h2, Wl.rows_cons h1]
      rw [e, List.length_cons]
      have := ih r.length (by omega) r rfl
      omega
section
variable {At : DkAt}
set_option maxRecDepth 100000 in
set_option maxHeartbeats 2000000 in
theorem wread_any (K : DiskK At) (HNm : NameSays) (W : World) (p tb n : Nat) (S : Nat → Prop) (d : Dk.D) (hE : EnvT W) (hn : n < Nm.top) (hT : TabAt W tb) (hA : At W p S d) :
    Calls Tryz.prog 49 #[.pointer (some ⟨p, 0, none⟩), .pointer (some ⟨tb, 0, none⟩), .int .u64 (n : Int)] W (WRead At W.heap.size (Wl.readD d n) W) := by
  have HP := Lib.hid (wpower_any K W p tb S d hA)
  have hld := K.load hA
  obtain ⟨nm, hnm⟩ : ∃ nm, nm = Wl.name n := ⟨_, rfl⟩
  have hns : nm.size ≤ 24 := by rw [hnm]; exact (Wl.name_size hn).2
  have hdef : Wl.readD d n = if (Dk.read d nm).2 = .ok then (Wl.read (Dk.read d nm).1, .ok) else ((0, [], false), (Dk.read d nm).2) := by rw [hnm]; rfl
  rcases ho : d.off with _ | _
  case true =>
    have E : Hid (Wl.readD d n = ((0, [], false), .down)) := Lib.hid (by rw [hdef]; unfold Dk.read; rw [ho]; rfl)
    rw [ho] at HP
    clear hdef hnm ho hA hT hE hn K HNm
    go_enter Tryz.func49, Tryz.ntmps49
    go_wp2_with fail
    refine HP.out.mono ?_
    rintro e w1 ⟨rfl, hb1⟩
    go_wp2_with fail
    refine bodyPost_ret (results_tmp4 rfl _ _ _) rfl ?_
    rw [E.out]
    exact ⟨none, 0, rfl, .inl rfl, fun _ _ h => (by cases h), Nat.le_refl _, hb1⟩
  have HN := Lib.hid (fun W2 (hb : Below W.heap.size W W2) => HNm n W2 hn (hE.below hb (Nat.le_refl _)))
  rw [← hnm] at HN
  have HRd := Lib.hid (fun W2 (hb : Below W.heap.size W W2) => K.read W2 p S d nm (K.below hA hb) (by omega))
  have hrl := Dk.read_len8 d nm
  have HTb := Lib.hid (fun W2 (hb : Below W.heap.size W W2) => (show TabO W2 tb 0 Cr.tab from ⟨(hT.below hb).lt, fun i hi => by rw [Nat.zero_add]; exact (hT.below hb).cell i hi⟩))
  rw [ho] at HP
  obtain ⟨er, her⟩ : ∃ er, er = Dk.read d nm := ⟨_, rfl⟩
  rw [← her] at hdef HRd hrl
  obtain ⟨l, e⟩ := er
  simp only at hdef HRd hrl
  have Hdef := Lib.hid hdef
  clear hdef her hnm ho hA hT hE hn K HNm
  by_cases he : e = .ok
  case neg =>
    have z1 : (eno e != 0) = true := by simp; exact fun h => he ((eno_inj (b := .ok)).1 h)
    have z2 : (eno e = 0) = False := by simp; exact fun h => he ((eno_inj (b := .ok)).1 h)
    have E : Hid (Wl.readD d n = ((0, [], false), e)) := Lib.hid (by rw [Hdef.out, if_neg he])
    clear he
    generalize hev : eno e = ev at *
    go_enter Tryz.func49, Tryz.ntmps49
    go_wp2_with fail
    refine HP.out.mono ?_
    rintro e0 w1 ⟨rfl, hb1⟩
    have H1 := Lib.hid hb1
    clear hb1
    go_wp2_with fail
    refine (HN.out _ H1.out).mono ?_
    rintro e0 w2 ⟨rfl, hb2⟩
    have H2 := Lib.hid (bnext H1.out hb2)
    clear hb2
    go_wp2_with fail
    refine (HRd.out _ H2.out).mono ?_
    rintro e0 w3 ⟨rfl, hb3⟩
    have H3 := Lib.hid (bnext H2.out hb3)
    clear hb3
    go_wp2_with fail
    refine bodyPost_ret (results_tmp4 rfl _ _ _) rfl ?_
    rw [E.out]
    exact ⟨none, 0, by rw [← hev]; rfl, .inl rfl, fun _ _ h => (by cases h), Nat.le_refl _, H3.out⟩
  subst he
  simp only [if_true] at Hdef
  simp only [eno] at HRd
  obtain ⟨sb, hsb⟩ : ∃ sb : ByteArray, sb = ⟨l.toArray⟩ := ⟨_, rfl⟩
  have hsd : sb.data.toList = l := by rw [hsb]
  have hsz : sb.size ≤ 100000000 := by rw [Lib.size_eq, hsd]; omega
  rw [← hsb] at HRd
  have HRow := Lib.hid (fun W2 hb => readRow_any W2 tb 0 sb (HTb.out W2 hb) hsz)
  rw [hsd] at HRow
  clear hsb
  rcases h1 : Wl.row1 l with _ | ⟨t, r⟩
  · rw [h1] at HRow
    have E : Hid (Wl.readD d n = ((0, [], false), .ok)) := Lib.hid (by rw [Hdef.out, Wl.read_none h1])
    have HH := Lib.hid (fun W2 => wreadHead_any W2 ⟨#[]⟩ (by decide))
    have hh : Wl.headP (⟨#[]⟩ : ByteArray).data.toList = none := rfl
    rw [hh] at HH
    unfold HeadV at HH
    unfold RowV at HRow
    clear h1 hh
    go_enter Tryz.func49, Tryz.ntmps49
    go_wp2_with fail
    refine HP.out.mono ?_
    rintro e0 w1 ⟨rfl, hb1⟩
    have H1 := Lib.hid hb1
    clear hb1
    go_wp2_with fail
    refine (HN.out _ H1.out).mono ?_
    rintro e0 w2 ⟨rfl, hb2⟩
    have H2 := Lib.hid (bnext H1.out hb2)
    clear hb2
    go_wp2_with fail
    refine (HRd.out _ H2.out).mono ?_
    rintro e0 w3 ⟨rfl, hb3⟩
    have H3 := Lib.hid (bnext H2.out hb3)
    clear hb3
    go_wp2_with fail
    refine (HRow.out _ H3.out).mono ?_
    rintro e0 w4 ⟨rfl, hb4⟩
    have H4 := Lib.hid (bnext H3.out hb4)
    clear hb4
    go_wp2_with fail
    refine (HH.out _).mono ?_
    rintro e0 w5 ⟨rfl, rfl⟩
    go_wp2_with fail
    refine bodyPost_ret (results_tmp4 rfl _ _ _) rfl ?_
    rw [E.out]
    exact ⟨none, 0, rfl, .inl rfl, fun _ _ h => (by cases h), Nat.le_refl _, H4.out⟩
  obtain ⟨hrl1, hrl2⟩ := row1_len h1
  obtain ⟨hml, hme⟩ := row1_drop (x := sb) (by rw [hsd]; exact h1)
  rw [h1] at HRow
  unfold RowV at HRow
  obtain ⟨tx, htx⟩ : ∃ tx, tx = Wl.ba t := ⟨_, rfl⟩
  obtain ⟨rx, hrx⟩ : ∃ rx, rx = Wl.ba r := ⟨_, rfl⟩
  obtain ⟨mm, hmm⟩ : ∃ mm, mm = (Wl.row t).length := ⟨_, rfl⟩
  rw [← hmm] at hml hme
  rw [← hrx] at hme
  have Hme := Lib.hid hme
  have hm2 : (mm : Int) ≤ (sb.size : Int) := by omega
  have htd : tx.data.toList = t := by rw [htx, Wl.ba_data]
  have hrd : rx.data.toList = r := by rw [hrx, Wl.ba_data]
  have htz : tx.size ≤ 100000000 := by rw [htx, Wl.ba_size]; omega
  have hrz : rx.size ≤ 100000000 := by rw [hrx, Wl.ba_size]; omega
  simp only [← htx, ← hmm] at HRow
  have hrows : Wl.rows l = t :: Wl.rows r := by
    obtain ⟨h2, h3⟩ := (Wl.row1_iff _ _ _).1 h1
    rw [h3, Wl.rows_cons h2]
  have HH := Lib.hid (fun W2 => wreadHead_any W2 tx htz)
  rw [htd] at HH
  clear htx hrx h1 hmm hme
  rcases h2 : Wl.headP t with _ | ⟨b, m⟩
  · rw [h2] at HH
    have E : Hid (Wl.readD d n = ((0, [], false), .ok)) := Lib.hid (by rw [Hdef.out]; unfold Wl.read; rw [hrows]; simp only [h2])
    unfold HeadV at HH
    clear h2 hrows
    go_enter Tryz.func49, Tryz.ntmps49
    go_wp2_with fail
    refine HP.out.mono ?_
    rintro e0 w1 ⟨rfl, hb1⟩
    have H1 := Lib.hid hb1
    clear hb1
    go_wp2_with fail
    refine (HN.out _ H1.out).mono ?_
    rintro e0 w2 ⟨rfl, hb2⟩
    have H2 := Lib.hid (bnext H1.out hb2)
    clear hb2
    go_wp2_with fail
    refine (HRd.out _ H2.out).mono ?_
    rintro e0 w3 ⟨rfl, hb3⟩
    have H3 := Lib.hid (bnext H2.out hb3)
    clear hb3
    go_wp2_with fail
    refine (HRow.out _ H3.out).mono ?_
    rintro e0 w4 ⟨rfl, hb4⟩
    have H4 := Lib.hid (bnext H3.out hb4)
    clear hb4
    go_wp2_with fail
    refine (HH.out _).mono ?_
    rintro e0 w5 ⟨rfl, rfl⟩
    go_wp2_with fail
    refine bodyPost_ret (results_tmp4 rfl _ _ _) rfl ?_
    rw [E.out]
    exact ⟨none, 0, rfl, .inl rfl, fun _ _ h => (by cases h), Nat.le_refl _, H4.out⟩
  · rw [h2] at HH
    have E : Wl.readD d n = ((m, Wl.recs (Wl.rows r), decide (b ≤ (Wl.recs (Wl.rows r)).length)), .ok) := by rw [Hdef.out]; unfold Wl.read; rw [hrows]; simp only [h2]
    have HRs := Lib.hid (fun W2 hb => readRecords_any W2 tb 0 rx (HTb.out W2 hb) hrz)
    rw [hrd] at HRs
    have hrc : (Wl.recs (Wl.rows r)).length ≤ 100000000 := by
      have h3 := recs_len (Wl.rows r)
      have h4 := rows_len8 r
      omega
    obtain ⟨L, hL⟩ : ∃ L, L = Wl.recs (Wl.rows r) := ⟨_, rfl⟩
    rw [← hL] at E HRs hrc
    have hbt : b ≤ 18446744073709551615 := by
      have := ((Wl.head_iff _ _ _).1 h2).1.1
      unfold Nm.top at this; omega
    have E2 := Lib.hid E
    unfold HeadV at HH
    clear h2 hrows hL E
    rcases hbl : decide (b ≤ L.length) with _ | _
    all_goals rw [hbl] at E2
    all_goals have hbl2 := hbl
    all_goals simp only [decide_eq_true_eq, decide_eq_false_iff_not] at hbl2
    all_goals (
      go_enter Tryz.func49, Tryz.ntmps49
      go_wp2_with fail
      refine HP.out.mono ?_
      rintro e0 w1 ⟨rfl, hb1⟩
      have H1 := Lib.hid hb1
      clear hb1
      go_wp2_with fail
      refine (HN.out _ H1.out).mono ?_
      rintro e0 w2 ⟨rfl, hb2⟩
      have H2 := Lib.hid (bnext H1.out hb2)
      clear hb2
      go_wp2_with fail
      refine (HRd.out _ H2.out).mono ?_
      rintro e0 w3 ⟨rfl, hb3⟩
      have H3 := Lib.hid (bnext H2.out hb3)
      clear hb3
      go_wp2_with fail
      refine (HRow.out _ H3.out).mono ?_
      rintro e0 w4 ⟨rfl, hb4⟩
      have H4 := Lib.hid (bnext H3.out hb4)
      clear hb4
      go_wp2_with fail
      refine (HH.out _).mono ?_
      rintro e0 w5 ⟨rfl, rfl⟩
      go_wp2_with fail
      rw [Hme.out]
      refine (HRs.out _ H4.out).mono ?_
      rintro e0 w5 ⟨A, cap, rfl, ho5, hb5⟩
      have H5 := Lib.hid (And.intro (bnext H4.out hb5) (And.intro (lies_rec ho5) (And.intro (fun b' off (he : A = some ⟨b', off, none⟩) => Nat.le_trans H4.out.size (by obtain ⟨A', c', hv, hx⟩ := own_slice ho5; injection hv with h1 h2 h3; subst h1; exact (hx b' off he).1)) (own_cap ho5))))
      clear ho5 hb5
      go_wp2_with fail
      refine bodyPost_ret (results_tmp4 rfl _ _ _) rfl ?_
      rw [E2.out]
      exact ⟨A, cap, by rw [← hbl]; rfl, H5.out.2.1, H5.out.2.2.1, H5.out.2.2.2, H5.out.1⟩)
end
end Go.Proofs.YtjhbpcecdhdnoaaGreatDoor
namespace Go.Proofs.YtjhbpcecdhdnoaaGreatDoor
open Go.RowKit
structure Run (At : DkAt) (w0 W : World) (p tb : Nat) (S : Nat → Prop) (d : Dk.D) : Prop where
  at_ : At W p S d
  abv : ∀ k, S k → w0.heap.size ≤ k
  tab : TabAt W tb
  tbl : w0.heap.size ≤ tb
  ntb : ¬ S tb
  bel : Below w0.heap.size w0 W
structure RunL (At : DkAt) (w0 W : World) (p tb q n b : Nat) (S : Nat → Prop) (d : Dk.D) : Prop extends Run At w0 W p tb S d where
  log : LogAt W q p n b
  nq : ¬ S q
  ql : w0.heap.size ≤ q
structure Moved (T : Nat → Prop) (W W' : World) (T' : Nat → Prop) : Prop where
  ko : Ko T W W'
  sub : ∀ k, T' k → T k ∨ W.heap.size ≤ k
structure Kept (W : World) (T : Nat → Prop) (A : Option Addr) (vs : List Value) : Prop where
  lies : Lies W A vs
  away : Away T A vs
def atQ (S : Nat → Prop) (q : Nat) : Nat → Prop := fun k => S k ∨ k = q
theorem Kept.below {T : Nat → Prop} {W W' : World} {A : Option Addr} {vs : List Value} (h : Kept W T A vs) (hb : Below W.heap.size W W') : Kept W' T A vs := ⟨h.lies.below hb, h.away⟩
theorem Kept.old {T : Nat → Prop} {W W' : World} {A : Option Addr} {vs : List Value} (h : Lies W A vs) (hb : Below W.heap.size W W') (hT : ∀ k, T k → W.heap.size ≤ k) : Kept W' T A vs := ⟨h.below hb, Away.of_lt h (Nat.le_refl _) hT⟩
section
variable {At : DkAt} {w0 W W' : World} {p tb q n b : Nat} {S : Nat → Prop} {d d' : Dk.D}
theorem tab_ne_log {W : World} {tb q p n b : Nat} (h : TabAt W tb) (h2 : LogAt W q p n b) : tb ≠ q := fun e => by
  subst e
  unfold TabAt at h
  unfold LogAt at h2
  rw [h] at h2
  injection h2 with h2
  injection h2 with h3 h4
  exact absurd h4 (by decide)
theorem Run.lt (K : DiskK At) (h : Run At w0 W p tb S d) : ∀ k, S k → k < W.heap.size := fun k hk => K.lt h.at_ k hk
theorem RunL.lt (K : DiskK At) (h : RunL At w0 W p tb q n b S d) : ∀ k, atQ S q k → k < W.heap.size := fun k hk => hk.elim (K.lt h.at_ k) fun e => by rw [e]; exact h.log.lt
theorem Run.more (K : DiskK At) (h : Run At w0 W p tb S d) (hb : Below W.heap.size W W') : Run At w0 W' p tb S d :=
  ⟨K.below h.at_ hb, h.abv, h.tab.below hb, h.tbl, h.ntb, h.bel.trans (hb.mono h.bel.size)⟩
theorem RunL.more (K : DiskK At) (h : RunL At w0 W p tb q n b S d) (hb : Below W.heap.size W W') : RunL At w0 W' p tb q n b S d :=
  ⟨h.toRun.more K hb, h.log.below hb, h.nq, h.ql⟩
theorem Run.step (h : Run At w0 W p tb S d) (hn : Now At W W' p S d') : ∃ S', Run At w0 W' p tb S' d' ∧ Moved S W W' S' := by
  obtain ⟨⟨S', h1, h2⟩, h3⟩ := hn
  refine ⟨S', ⟨h1, fun k hk => (h2 k hk).elim (h.abv k) fun h4 => Nat.le_trans h.bel.size h4, h3.row h.ntb h.tab, h.tbl, fun hk => (h2 tb hk).elim h.ntb fun h4 => absurd h.tab.lt (Nat.not_lt.2 h4), ?_⟩, h3, h2⟩
  exact h3.below h.bel h.bel.size h.abv
theorem RunL.step (h : RunL At w0 W p tb q n b S d) (hn : Now At W W' p S d') : ∃ S', RunL At w0 W' p tb q n b S' d' ∧ Moved (atQ S q) W W' (atQ S' q) := by
  obtain ⟨S', h1, h2⟩ := h.toRun.step hn
  refine ⟨S', ⟨h1, h.log.ko h2.ko h.nq, fun hk => (h2.sub q hk).elim h.nq fun h4 => absurd h.log.lt (Nat.not_lt.2 h4), h.ql⟩, h2.ko.mono fun k _ hk => .inl hk, fun k hk => hk.elim (fun h5 => (h2.sub k h5).elim (fun h6 => .inl (.inl h6)) .inr) fun e => .inl (.inr e)⟩
theorem Run.logged (h : Run At w0 W p tb S d) (hg : Logged At W W' p q n b S d') (hq : W.heap.size ≤ q) : ∃ S', RunL At w0 W' p tb q n b S' d' ∧ Moved S W W' (atQ S' q) := by
  obtain ⟨⟨S', h1, h2, h3⟩, h4, h5⟩ := hg
  have hql : w0.heap.size ≤ q := Nat.le_trans h.bel.size hq
  have hntq : tb ≠ q := fun e => absurd h.tab.lt (by omega)
  have h6 : Ko S W W' := ⟨h5.os, h5.tape, h5.output, h5.size, fun k hk hn => h5.block k hk fun h7 => h7.elim hn fun e => by omega⟩
  refine ⟨S', ⟨⟨h1, fun k hk => (h2 k hk).elim (h.abv k) fun h7 => Nat.le_trans h.bel.size h7, h6.row h.ntb h.tab, h.tbl, fun hk => (h2 tb hk).elim h.ntb fun h7 => absurd h.tab.lt (Nat.not_lt.2 h7), h6.below h.bel h.bel.size h.abv⟩, h4, h3, hql⟩, h6, fun k hk => hk.elim (h2 k) fun e => .inr (by omega)⟩
theorem RunL.logged {c : Nat} (h : RunL At w0 W p tb q n b S d) (hg : Logged At W W' p q n c S d') : ∃ S', RunL At w0 W' p tb q n c S' d' ∧ Moved (atQ S q) W W' (atQ S' q) := by
  obtain ⟨⟨S', h1, h2, h3⟩, h4, h5⟩ := hg
  have hntq := tab_ne_log h.tab h.log
  refine ⟨S', ⟨⟨h1, fun k hk => (h2 k hk).elim (h.abv k) fun h7 => Nat.le_trans h.bel.size h7, h5.row (fun hk => hk.elim h.ntb hntq) h.tab, h.tbl, fun hk => (h2 tb hk).elim h.ntb fun h7 => absurd h.tab.lt (Nat.not_lt.2 h7), h5.below h.bel h.bel.size fun k hk => hk.elim (h.abv k) fun e => by rw [e]; exact h.ql⟩, h4, h3, h.ql⟩, h5, fun k hk => hk.elim (fun h6 => (h2 k h6).elim (fun h7 => .inl (.inl h7)) .inr) fun e => .inl (.inr e)⟩
end
end Go.Proofs.YtjhbpcecdhdnoaaGreatDoor
namespace Go.Proofs.YtjhbpcecdhdnoaaGreatDoor
open Go.RowKit
section
open Go.Sort
variable {P : Program} {ops : Array Oper} {Q : Act → Prop} {a : Act} {o : Oper} {rest : List Oper}
end
namespace Wl
def s52 : R := ⟨2, 5, 2, En.zero⟩
def s60 : R := ⟨2, 6, 0, En.zero⟩
def aw1 : Er × Dk.D := begins Dk.D.new 1 4 [s52]
def aw3 : Dk.E × Dk.D := add (Dk.fuse aw1.2 2) 1 [s60]
def aw4 : Dk.D := Dk.start (Dk.crash aw3.2 [] [])
end Wl
theorem crash_nil {At : DkAt} (K : DiskK At) (W : World) (p : Nat) (S : Nat → Prop) (d : Dk.D) (h : At W p S d) : Calls Tryz.prog 40 #[.pointer (some ⟨p, 0, none⟩), .agg #[.slice none 0 0, .slice none 0 0]] W fun e w' => e = .returned (.tuple #[]) ∧ Now At W w' p S (Dk.crash d [] []) :=
  K.crash W p S d [] [] none none 0 0 h ⟨.inl rfl, .inl rfl, fun n hn => (by cases hn), fun n hn => (by cases hn), by simp [maxLen], by simp [maxLen]⟩ (fun _ _ h _ => absurd rfl h) (fun _ _ h _ => absurd rfl h)
section
variable {At : DkAt}
end
end Go.Proofs.YtjhbpcecdhdnoaaGreatDoor
