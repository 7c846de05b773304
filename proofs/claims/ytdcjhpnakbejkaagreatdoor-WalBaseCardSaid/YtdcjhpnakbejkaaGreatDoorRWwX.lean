/-
  wal.Read walked.
  A law's disk, table and log, from call to call.
  The statements' own state and awake walked.
-/
import Derived.Test.YtdcjhpnakbejkaaGreatDoorRWwC
import Derived.Test.YtdcjhpnakbejkaaGreatDoorRWwT
import Derived.Test.YtdcjhpnakbejkaaGreatDoorRDkP
import Derived.Test.YtdcjhpnakbejkaaGreatDoorRWwI
import Derived.Test.YtdcjhpnakbejkaaGreatDoorRSum
import Derived.Test.YtdcjhpnakbejkaaGreatDoorRWwN
import Derived.Test.YtdcjhpnakbejkaaGreatDoorRDkB
import Derived.Test.YtdcjhpnakbejkaaGreatDoorRWrB
set_option linter.unusedSimpArgs false
set_option linter.unusedVariables false
namespace Go.Proofs.YtdcjhpnakbejkaaGreatDoor
open Go.RowKit
namespace Dk
theorem bytes_len8 {d : D} {n : ByteArray} {f : Fl} (h : find d.files n = some f) : (bytes f).length ≤ load d := by
  have h1 := fsLoad_mem (find_mem h)
  have h2 : (bytes f).length = sz f.recs + f.torn.size := by
    unfold bytes
    rw [List.length_append, cat_length, Lib.size_eq]
  have h3 : flLoad f = 1 + f.name.size + f.recs.length + sz f.recs + f.torn.size := rfl
  show _ ≤ fsLoad d.files
  omega
theorem read_len8 (d : D) (n : ByteArray) : (read d n).1.length ≤ load d := by
  unfold read
  split
  · simp
  · split
    · simp
    · rename_i f hf
      exact bytes_len8 hf
end Dk
theorem results_tmp4 {fn : Func} {t u v x : Tmp} (h : fn.results = #[.tmp t, .tmp u, .tmp v, .tmp x]) (tmps : Array Value) (P : Program) (w : World) :
    (results fn tmps).run P w = .ok (.tuple #[tmps.getD t undef, tmps.getD u undef, tmps.getD v undef, tmps.getD x undef]) w := by
  simp [results, h]
/-- What Read hands back of these records. -/
def WRead (At : DkAt) (base : Nat) (o : (Nat × List Wl.R × Bool) × Dk.E) (W : World) (e : Ending) (w' : World) : Prop :=
  ∃ A cap, e = .returned (.tuple #[.int .u64 (o.1.1 : Int), .slice A o.1.2.1.length cap, .bool o.1.2.2, .int .i64 (eno o.2)]) ∧ Lies w' A (wrs o.1.2.1) ∧ (∀ b off, A = some ⟨b, off, none⟩ → base ≤ b) ∧ o.1.2.1.length ≤ cap ∧ Below base W w'
theorem own_cap {w : World} {B : Nat} {e : TypeId} {s : Nat} {A : Option Addr} {n c : Nat} {xs : List Value} (h : w.ownsRow B e s (.slice A n c) n xs) : n ≤ c := by
  rcases h.2 with ⟨hv, h0⟩ | ⟨g, cap, cur, hv, _, _, h1, _⟩
  · omega
  · injection hv with _ _ h3
    omega
theorem rows_len8 (l : List UInt8) : (Wl.rows l).length ≤ l.length := by
  obtain ⟨n, hn⟩ : ∃ n, n = l.length := ⟨_, rfl⟩
  induction n using Nat.strongRecOn generalizing l with
  | _ n ih =>
    cases h : Wl.row1 l with
    | none => rw [Wl.rows_none h]; exact Nat.zero_le _
    | some x =>
      obtain ⟨t, r⟩ := x
      have h3 := row1_len h
      obtain ⟨h1, h2⟩ := (Wl.row1_iff _ _ _).1 h
      have e : Wl.rows l = t :: Wl.rows r := by rw [h2, Wl.rows_cons h1]
      rw [e, List.length_cons]
      have := ih r.length (by omega) r rfl
      omega
section
variable {At : DkAt}
set_option maxRecDepth 100000 in
set_option maxHeartbeats 2000000 in
theorem wread_any (K : DiskK At) (HNm : NameSays) (W : World) (p tb n : Nat) (S : Nat → Prop) (d : Dk.D) (hE : EnvT W) (hn : n < Nm.top) (hT : TabAt W tb) (hA : At W p S d) :
    Calls Tryz.prog 28 #[.pointer (some ⟨p, 0, none⟩), .pointer (some ⟨tb, 0, none⟩), .int .u64 (n : Int)] W (WRead At W.heap.size (Wl.readD d n) W) := by
  have HP := Lib.hid (wpower_any K W p tb S d hA)
  have hld := K.load hA
  obtain ⟨nm, hnm⟩ : ∃ nm, nm = Wl.name n := ⟨_, rfl⟩
  have hns : nm.size ≤ 24 := by rw [hnm]; exact (Wl.name_size hn).2
  have hdef : Wl.readD d n = if (Dk.read d nm).2 = .ok then (Wl.read (Dk.read d nm).1, .ok) else ((0, [], false), (Dk.read d nm).2) := by rw [hnm]; rfl
  rcases ho : d.off with _ | _
  case true =>
    have E : Hid (Wl.readD d n = ((0, [], false), .down)) := Lib.hid (by rw [hdef]; unfold Dk.read; rw [ho]; rfl)
    rw [ho] at HP
    clear hdef hnm ho hA hT hE hn K HNm
    go_enter Tryz.func28, Tryz.ntmps28
    go_wp2_with fail
    refine HP.out.mono ?_
    rintro e w1 ⟨rfl, hb1⟩
    go_wp2_with fail
    refine bodyPost_ret (results_tmp4 rfl _ _ _) rfl ?_
    rw [E.out]
    exact ⟨none, 0, rfl, .inl rfl, fun _ _ h => (by cases h), Nat.le_refl _, hb1⟩
  have HN := Lib.hid (fun W2 (hb : Below W.heap.size W W2) => HNm n W2 hn (hE.below hb (Nat.le_refl _)))
  rw [← hnm] at HN
  have HRd := Lib.hid (fun W2 (hb : Below W.heap.size W W2) => K.read W2 p S d nm (K.below hA hb) (by omega))
  have hrl := Dk.read_len8 d nm
  have HTb := Lib.hid (fun W2 (hb : Below W.heap.size W W2) => (show TabO W2 tb 0 Cr.tab from ⟨(hT.below hb).lt, fun i hi => by rw [Nat.zero_add]; exact (hT.below hb).cell i hi⟩))
  rw [ho] at HP
  obtain ⟨er, her⟩ : ∃ er, er = Dk.read d nm := ⟨_, rfl⟩
  rw [← her] at hdef HRd hrl
  obtain ⟨l, e⟩ := er
  simp only at hdef HRd hrl
  have Hdef := Lib.hid hdef
  clear hdef her hnm ho hA hT hE hn K HNm
  by_cases he : e = .ok
  case neg =>
    have z1 : (eno e != 0) = true := by simp; exact fun h => he ((eno_inj (b := .ok)).1 h)
    have z2 : (eno e = 0) = False := by simp; exact fun h => he ((eno_inj (b := .ok)).1 h)
    have E : Hid (Wl.readD d n = ((0, [], false), e)) := Lib.hid (by rw [Hdef.out, if_neg he])
    clear he
    generalize hev : eno e = ev at *
    go_enter Tryz.func28, Tryz.ntmps28
    go_wp2_with fail
    refine HP.out.mono ?_
    rintro e0 w1 ⟨rfl, hb1⟩
    have H1 := Lib.hid hb1
    clear hb1
    go_wp2_with fail
    refine (HN.out _ H1.out).mono ?_
    rintro e0 w2 ⟨rfl, hb2⟩
    have H2 := Lib.hid (bnext H1.out hb2)
    clear hb2
    go_wp2_with fail
    refine (HRd.out _ H2.out).mono ?_
    rintro e0 w3 ⟨rfl, hb3⟩
    have H3 := Lib.hid (bnext H2.out hb3)
    clear hb3
    go_wp2_with fail
    refine bodyPost_ret (results_tmp4 rfl _ _ _) rfl ?_
    rw [E.out]
    exact ⟨none, 0, by rw [← hev]; rfl, .inl rfl, fun _ _ h => (by cases h), Nat.le_refl _, H3.out⟩
  subst he
  simp only [if_true] at Hdef
  simp only [eno] at HRd
  obtain ⟨sb, hsb⟩ : ∃ sb : ByteArray, sb = ⟨l.toArray⟩ := ⟨_, rfl⟩
  have hsd : sb.data.toList = l := by rw [hsb]
  have hsz : sb.size ≤ 100000000 := by rw [Lib.size_eq, hsd]; omega
  rw [← hsb] at HRd
  have HRow := Lib.hid (fun W2 hb => readRow_any W2 tb 0 sb (HTb.out W2 hb) hsz)
  rw [hsd] at HRow
  clear hsb
  rcases h1 : Wl.row1 l with _ | ⟨t, r⟩
  · rw [h1] at HRow
    have E : Hid (Wl.readD d n = ((0, [], false), .ok)) := Lib.hid (by rw [Hdef.out, Wl.read_none h1])
    have HH := Lib.hid (fun W2 => wreadHead_any W2 ⟨#[]⟩ (by decide))
    have hh : Wl.headP (⟨#[]⟩ : ByteArray).data.toList = none := rfl
    rw [hh] at HH
    unfold HeadV at HH
    unfold RowV at HRow
    clear h1 hh
    go_enter Tryz.func28, Tryz.ntmps28
    go_wp2_with fail
    refine HP.out.mono ?_
    rintro e0 w1 ⟨rfl, hb1⟩
    have H1 := Lib.hid hb1
    clear hb1
    go_wp2_with fail
    refine (HN.out _ H1.out).mono ?_
    rintro e0 w2 ⟨rfl, hb2⟩
    have H2 := Lib.hid (bnext H1.out hb2)
    clear hb2
    go_wp2_with fail
    refine (HRd.out _ H2.out).mono ?_
    rintro e0 w3 ⟨rfl, hb3⟩
    have H3 := Lib.hid (bnext H2.out hb3)
    clear hb3
    go_wp2_with fail
    refine (HRow.out _ H3.out).mono ?_
    rintro e0 w4 ⟨rfl, hb4⟩
    have H4 := Lib.hid (bnext H3.out hb4)
    clear hb4
    go_wp2_with fail
    refine (HH.out _).mono ?_
    rintro e0 w5 ⟨rfl, rfl⟩
    go_wp2_with fail
    refine bodyPost_ret (results_tmp4 rfl _ _ _) rfl ?_
    rw [E.out]
    exact ⟨none, 0, rfl, .inl rfl, fun _ _ h => (by cases h), Nat.le_refl _, H4.out⟩
  obtain ⟨hrl1, hrl2⟩ := row1_len h1
  obtain ⟨hml, hme⟩ := row1_drop (x := sb) (by rw [hsd]; exact h1)
  rw [h1] at HRow
  unfold RowV at HRow
  obtain ⟨tx, htx⟩ : ∃ tx, tx = Wl.ba t := ⟨_, rfl⟩
  obtain ⟨rx, hrx⟩ : ∃ rx, rx = Wl.ba r := ⟨_, rfl⟩
  obtain ⟨mm, hmm⟩ : ∃ mm, mm = (Wl.row t).length := ⟨_, rfl⟩
  rw [← hmm] at hml hme
  rw [← hrx] at hme
  have Hme := Lib.hid hme
  have hm2 : (mm : Int) ≤ (sb.size : Int) := by omega
  have htd : tx.data.toList = t := by rw [htx, Wl.ba_data]
  have hrd : rx.data.toList = r := by rw [hrx, Wl.ba_data]
  have htz : tx.size ≤ 100000000 := by rw [htx, Wl.ba_size]; omega
  have hrz : rx.size ≤ 100000000 := by rw [hrx, Wl.ba_size]; omega
  simp only [← htx, ← hmm] at HRow
  have hrows : Wl.rows l = t :: Wl.rows r := by
    obtain ⟨h2, h3⟩ := (Wl.row1_iff _ _ _).1 h1
    rw [h3, Wl.rows_cons h2]
  have HH := Lib.hid (fun W2 => wreadHead_any W2 tx htz)
  rw [htd] at HH
  clear htx hrx h1 hmm hme
  rcases h2 : Wl.headP t with _ | ⟨b, m⟩
  · rw [h2] at HH
    have E : Hid (Wl.readD d n = ((0, [], false), .ok)) := Lib.hid (by rw [Hdef.out]; unfold Wl.read; rw [hrows]; simp only [h2])
    unfold HeadV at HH
    clear h2 hrows
    go_enter Tryz.func28, Tryz.ntmps28
    go_wp2_with fail
    refine HP.out.mono ?_
    rintro e0 w1 ⟨rfl, hb1⟩
    have H1 := Lib.hid hb1
    clear hb1
    go_wp2_with fail
    refine (HN.out _ H1.out).mono ?_
    rintro e0 w2 ⟨rfl, hb2⟩
    have H2 := Lib.hid (bnext H1.out hb2)
    clear hb2
    go_wp2_with fail
    refine (HRd.out _ H2.out).mono ?_
    rintro e0 w3 ⟨rfl, hb3⟩
    have H3 := Lib.hid (bnext H2.out hb3)
    clear hb3
    go_wp2_with fail
    refine (HRow.out _ H3.out).mono ?_
    rintro e0 w4 ⟨rfl, hb4⟩
    have H4 := Lib.hid (bnext H3.out hb4)
    clear hb4
    go_wp2_with fail
    refine (HH.out _).mono ?_
    rintro e0 w5 ⟨rfl, rfl⟩
    go_wp2_with fail
    refine bodyPost_ret (results_tmp4 rfl _ _ _) rfl ?_
    rw [E.out]
    exact ⟨none, 0, rfl, .inl rfl, fun _ _ h => (by cases h), Nat.le_refl _, H4.out⟩
  · rw [h2] at HH
    have E : Wl.readD d n = ((m, Wl.recs (Wl.rows r), decide (b ≤ (Wl.recs (Wl.rows r)).length)), .ok) := by rw [Hdef.out]; unfold Wl.read; rw [hrows]; simp only [h2]
    have HRs := Lib.hid (fun W2 hb => readRecords_any W2 tb 0 rx (HTb.out W2 hb) hrz)
    rw [hrd] at HRs
    have hrc : (Wl.recs (Wl.rows r)).length ≤ 100000000 := by
      have h3 := recs_len (Wl.rows r)
      have h4 := rows_len8 r
      omega
    obtain ⟨L, hL⟩ : ∃ L, L = Wl.recs (Wl.rows r) := ⟨_, rfl⟩
    rw [← hL] at E HRs hrc
    have hbt : b ≤ 18446744073709551615 := by
      have := ((Wl.head_iff _ _ _).1 h2).1.1
      unfold Nm.top at this; omega
    have E2 := Lib.hid E
    unfold HeadV at HH
    clear h2 hrows hL E
    rcases hbl : decide (b ≤ L.length) with _ | _
    all_goals rw [hbl] at E2
    all_goals have hbl2 := hbl
    all_goals simp only [decide_eq_true_eq, decide_eq_false_iff_not] at hbl2
    all_goals (
      go_enter Tryz.func28, Tryz.ntmps28
      go_wp2_with fail
      refine HP.out.mono ?_
      rintro e0 w1 ⟨rfl, hb1⟩
      have H1 := Lib.hid hb1
      clear hb1
      go_wp2_with fail
      refine (HN.out _ H1.out).mono ?_
      rintro e0 w2 ⟨rfl, hb2⟩
      have H2 := Lib.hid (bnext H1.out hb2)
      clear hb2
      go_wp2_with fail
      refine (HRd.out _ H2.out).mono ?_
      rintro e0 w3 ⟨rfl, hb3⟩
      have H3 := Lib.hid (bnext H2.out hb3)
      clear hb3
      go_wp2_with fail
      refine (HRow.out _ H3.out).mono ?_
      rintro e0 w4 ⟨rfl, hb4⟩
      have H4 := Lib.hid (bnext H3.out hb4)
      clear hb4
      go_wp2_with fail
      refine (HH.out _).mono ?_
      rintro e0 w5 ⟨rfl, rfl⟩
      go_wp2_with fail
      rw [Hme.out]
      refine (HRs.out _ H4.out).mono ?_
      rintro e0 w5 ⟨A, cap, rfl, ho5, hb5⟩
      have H5 := Lib.hid (And.intro (bnext H4.out hb5) (And.intro (lies_rec ho5) (And.intro (fun b' off (he : A = some ⟨b', off, none⟩) => Nat.le_trans H4.out.size (by obtain ⟨A', c', hv, hx⟩ := own_slice ho5; injection hv with h1 h2 h3; subst h1; exact (hx b' off he).1)) (own_cap ho5))))
      clear ho5 hb5
      go_wp2_with fail
      refine bodyPost_ret (results_tmp4 rfl _ _ _) rfl ?_
      rw [E2.out]
      exact ⟨A, cap, by rw [← hbl]; rfl, H5.out.2.1, H5.out.2.2.1, H5.out.2.2.2, H5.out.1⟩)
end
end Go.Proofs.YtdcjhpnakbejkaaGreatDoor
namespace Go.Proofs.YtdcjhpnakbejkaaGreatDoor
open Go.RowKit
/-- A disk and a table that a law has made. -/
structure Run (At : DkAt) (w0 W : World) (p tb : Nat) (S : Nat → Prop) (d : Dk.D) : Prop where
  at_ : At W p S d
  abv : ∀ k, S k → w0.heap.size ≤ k
  tab : TabAt W tb
  tbl : w0.heap.size ≤ tb
  ntb : ¬ S tb
  bel : Below w0.heap.size w0 W
/-- .. and a log. -/
structure RunL (At : DkAt) (w0 W : World) (p tb q n b : Nat) (S : Nat → Prop) (d : Dk.D) : Prop extends Run At w0 W p tb S d where
  log : LogAt W q p n b
  nq : ¬ S q
  ql : w0.heap.size ≤ q
/-- What may have turned, and where a disk lies then. -/
structure Moved (T : Nat → Prop) (W W' : World) (T' : Nat → Prop) : Prop where
  ko : Ko T W W'
  sub : ∀ k, T' k → T k ∨ W.heap.size ≤ k
/-- A slice that nothing of a law's turns. -/
structure Kept (W : World) (T : Nat → Prop) (A : Option Addr) (vs : List Value) : Prop where
  lies : Lies W A vs
  away : Away T A vs
def atQ (S : Nat → Prop) (q : Nat) : Nat → Prop := fun k => S k ∨ k = q
theorem Kept.moved {T T' : Nat → Prop} {W W' : World} {A : Option Addr} {vs : List Value} (h : Kept W T A vs) (m : Moved T W W' T') : Kept W' T' A vs :=
  ⟨h.lies.ko h.away m.ko, h.away.sub h.lies (Nat.le_refl _) m.sub⟩
theorem Kept.below {T : Nat → Prop} {W W' : World} {A : Option Addr} {vs : List Value} (h : Kept W T A vs) (hb : Below W.heap.size W W') : Kept W' T A vs := ⟨h.lies.below hb, h.away⟩
theorem Kept.old {T : Nat → Prop} {W W' : World} {A : Option Addr} {vs : List Value} (h : Lies W A vs) (hb : Below W.heap.size W W') (hT : ∀ k, T k → W.heap.size ≤ k) : Kept W' T A vs := ⟨h.below hb, Away.of_lt h (Nat.le_refl _) hT⟩
/-- A slice in new blocks. -/
theorem Kept.fresh {T : Nat → Prop} {W W' : World} {A : Option Addr} {vs : List Value} (h : Lies W' A vs) (hT : ∀ k, T k → k < W.heap.size) (hA : ∀ b off, A = some ⟨b, off, none⟩ → W.heap.size ≤ b) : Kept W' T A vs :=
  ⟨h, fun b off _ he ht => by have := hT b ht; have := hA b off he; omega⟩
section
variable {At : DkAt} {w0 W W' : World} {p tb q n b : Nat} {S : Nat → Prop} {d d' : Dk.D}
theorem tab_ne_log {W : World} {tb q p n b : Nat} (h : TabAt W tb) (h2 : LogAt W q p n b) : tb ≠ q := fun e => by
  subst e
  unfold TabAt at h
  unfold LogAt at h2
  rw [h] at h2
  injection h2 with h2
  injection h2 with h3 h4
  exact absurd h4 (by decide)
theorem Run.lt (K : DiskK At) (h : Run At w0 W p tb S d) : ∀ k, S k → k < W.heap.size := fun k hk => K.lt h.at_ k hk
theorem RunL.lt (K : DiskK At) (h : RunL At w0 W p tb q n b S d) : ∀ k, atQ S q k → k < W.heap.size := fun k hk => hk.elim (K.lt h.at_ k) fun e => by rw [e]; exact h.log.lt
theorem Run.more (K : DiskK At) (h : Run At w0 W p tb S d) (hb : Below W.heap.size W W') : Run At w0 W' p tb S d :=
  ⟨K.below h.at_ hb, h.abv, h.tab.below hb, h.tbl, h.ntb, h.bel.trans (hb.mono h.bel.size)⟩
theorem RunL.more (K : DiskK At) (h : RunL At w0 W p tb q n b S d) (hb : Below W.heap.size W W') : RunL At w0 W' p tb q n b S d :=
  ⟨h.toRun.more K hb, h.log.below hb, h.nq, h.ql⟩
theorem Run.step (h : Run At w0 W p tb S d) (hn : Now At W W' p S d') : ∃ S', Run At w0 W' p tb S' d' ∧ Moved S W W' S' := by
  obtain ⟨⟨S', h1, h2⟩, h3⟩ := hn
  refine ⟨S', ⟨h1, fun k hk => (h2 k hk).elim (h.abv k) fun h4 => Nat.le_trans h.bel.size h4, h3.row h.ntb h.tab, h.tbl, fun hk => (h2 tb hk).elim h.ntb fun h4 => absurd h.tab.lt (Nat.not_lt.2 h4), ?_⟩, h3, h2⟩
  exact h3.below h.bel h.bel.size h.abv
theorem RunL.step (h : RunL At w0 W p tb q n b S d) (hn : Now At W W' p S d') : ∃ S', RunL At w0 W' p tb q n b S' d' ∧ Moved (atQ S q) W W' (atQ S' q) := by
  obtain ⟨S', h1, h2⟩ := h.toRun.step hn
  refine ⟨S', ⟨h1, h.log.ko h2.ko h.nq, fun hk => (h2.sub q hk).elim h.nq fun h4 => absurd h.log.lt (Nat.not_lt.2 h4), h.ql⟩, h2.ko.mono fun k _ hk => .inl hk, fun k hk => hk.elim (fun h5 => (h2.sub k h5).elim (fun h6 => .inl (.inl h6)) .inr) fun e => .inl (.inr e)⟩
/-- A log was begun. -/
theorem Run.logged (h : Run At w0 W p tb S d) (hg : Logged At W W' p q n b S d') (hq : W.heap.size ≤ q) : ∃ S', RunL At w0 W' p tb q n b S' d' ∧ Moved S W W' (atQ S' q) := by
  obtain ⟨⟨S', h1, h2, h3⟩, h4, h5⟩ := hg
  have hql : w0.heap.size ≤ q := Nat.le_trans h.bel.size hq
  have hntq : tb ≠ q := fun e => absurd h.tab.lt (by omega)
  have h6 : Ko S W W' := ⟨h5.os, h5.tape, h5.output, h5.size, fun k hk hn => h5.block k hk fun h7 => h7.elim hn fun e => by omega⟩
  refine ⟨S', ⟨⟨h1, fun k hk => (h2 k hk).elim (h.abv k) fun h7 => Nat.le_trans h.bel.size h7, h6.row h.ntb h.tab, h.tbl, fun hk => (h2 tb hk).elim h.ntb fun h7 => absurd h.tab.lt (Nat.not_lt.2 h7), h6.below h.bel h.bel.size h.abv⟩, h4, h3, hql⟩, h6, fun k hk => hk.elim (h2 k) fun e => .inr (by omega)⟩
/-- A log goes on. -/
theorem RunL.logged {c : Nat} (h : RunL At w0 W p tb q n b S d) (hg : Logged At W W' p q n c S d') : ∃ S', RunL At w0 W' p tb q n c S' d' ∧ Moved (atQ S q) W W' (atQ S' q) := by
  obtain ⟨⟨S', h1, h2, h3⟩, h4, h5⟩ := hg
  have hntq := tab_ne_log h.tab h.log
  refine ⟨S', ⟨⟨h1, fun k hk => (h2 k hk).elim (h.abv k) fun h7 => Nat.le_trans h.bel.size h7, h5.row (fun hk => hk.elim h.ntb hntq) h.tab, h.tbl, fun hk => (h2 tb hk).elim h.ntb fun h7 => absurd h.tab.lt (Nat.not_lt.2 h7), h5.below h.bel h.bel.size fun k hk => hk.elim (h.abv k) fun e => by rw [e]; exact h.ql⟩, h4, h3, h.ql⟩, h5, fun k hk => hk.elim (fun h6 => (h2 k h6).elim (fun h7 => .inl (.inl h7)) .inr) fun e => .inl (.inr e)⟩
end
end Go.Proofs.YtdcjhpnakbejkaaGreatDoor
namespace Go.Proofs.YtdcjhpnakbejkaaGreatDoor
open Go.RowKit
theorem state_any (t v : Nat) (w : World) : Calls Tryz.prog 26 #[.int .u64 (t : Int), .int .u8 (v : Int)] w fun e w' => e = .returned (.agg (recC ⟨2, t, v, En.zero⟩)) ∧ Below w.heap.size w w' := by
  have hres := results_cell_row (P := Tryz.prog) (fn := Tryz.f26) rfl
  have hr0 : Rc (w.alloc (.cells (recC Wl.rzero) 62)) w.heap.size Wl.rzero := heap_alloc_new w _
  have hb0 : Below w.heap.size w (w.alloc (.cells (recC Wl.rzero) 62)) := bnew (Below.refl _ _) _
  have HH := Lib.hid (And.intro hr0 hb0)
  clear hr0 hb0
  go_enter Tryz.func26, Tryz.ntmps26
  go_wp2_with (refine wpList_store_sub rfl 62 _ _ rfl w.heap.size 0 rfl 62 (recC Wl.rzero) (recC ⟨2, t, v, En.zero⟩) rfl HH.out.1 (Nat.le_refl _) sizeRec (recC_one _) ?_)
  refine bodyPost_ret (hres _ _ w.heap.size 62 (recC ⟨2, t, v, En.zero⟩) (0, 0) _ rfl (HH.out.1.store _) Tryz.underlying62 rfl sizeRec) rfl ⟨rfl, setCells_below (Nat.le_refl _) _ _ _ HH.out.2⟩
section
open Go.Sort
variable {P : Program} {ops : Array Oper} {Q : Act → Prop} {a : Act} {o : Oper} {rest : List Oper}
/-- A struct that lies in an old block is loaded. -/
theorem wpQuiet_load_rng {w : World} (hw : Region.wanted o (yielded ops a.tmps) = true) (ty : TypeId) (x : Operand) (ho : o.op = .load ty x)
    (g k : Nat) (hx : a.eval x = .pointer (some ⟨g, k, none⟩)) (Y : Array Value) (d : TypeDesc) (hg : g < w.heap.size) (hY : w.rangeAt g k Y.toList)
    (hu : P.underlying ty = some d) (hd : d.isRow = true) (hi : (P.info? ty).map (·.size) = some Y.size)
    (h : wpQuiet P ops (fun w' => ∃ p : Regrown, w' = grow (redrawn w p.d) p.os) Q rest (a.put o.dst (.agg Y))) : wpQuiet P ops (fun w' => ∃ p : Regrown, w' = grow (redrawn w p.d) p.os) Q (o :: rest) a :=
  BigFrame.wpQuiet_want hw fun K hK => ⟨.agg Y, fun w' hw' => by
    obtain ⟨p, rfl⟩ := hw'
    unfold Oper.quietAt execOp
    have hY2 : (grow (redrawn w p.d) p.os).rangeAt g k Y.toList := fun j v hv => ((below_regrown w p.d p.os).cell (p := ⟨g, k + j, none⟩) hg).trans (hY j v hv)
    have hr := run_loadVar_mid (P := P) (grow (redrawn w p.d) p.os) g k ty Y.toList d hY2 hu hd (by simpa using hi)
    simp only [ho, hx, Instr.loadAt, Instr.sureAddr, Sem.run_bind, Sem.run_pure, Result.andThen_ok, hr]
    exact ⟨rfl, rfl⟩, hK _ h⟩
end
namespace Wl
def s52 : R := ⟨2, 5, 2, En.zero⟩
def s60 : R := ⟨2, 6, 0, En.zero⟩
def aw1 : Er × Dk.D := begins Dk.D.new 1 4 [s52]
def aw3 : Dk.E × Dk.D := add (Dk.fuse aw1.2 2) 1 [s60]
def aw4 : Dk.D := Dk.start (Dk.crash aw3.2 [] [])
theorem aw1_ok : aw1.1 = .of .ok := by decide +kernel
theorem aw1_load : Dk.load aw1.2 ≤ 1000 := by decide +kernel
theorem aw3_down : aw3.1 = .down := by decide +kernel
theorem aw4_read : readD aw4 1 = ((4, [s52], true), .ok) := by decide +kernel
theorem s52_ok : Ok [s52] := ⟨fun r hr => by rw [List.mem_singleton.1 hr]; exact ⟨⟨by decide, by decide, by decide, En.zero_fits, by decide⟩, by decide⟩, by decide⟩
theorem s60_ok : Ok [s60] := ⟨fun r hr => by rw [List.mem_singleton.1 hr]; exact ⟨⟨by decide, by decide, by decide, En.zero_fits, by decide⟩, by decide⟩, by decide⟩
end Wl
theorem crash_nil {At : DkAt} (K : DiskK At) (W : World) (p : Nat) (S : Nat → Prop) (d : Dk.D) (h : At W p S d) : Calls Tryz.prog 37 #[.pointer (some ⟨p, 0, none⟩), .agg #[.slice none 0 0, .slice none 0 0]] W fun e w' => e = .returned (.tuple #[]) ∧ Now At W w' p S (Dk.crash d [] []) :=
  K.crash W p S d [] [] none none 0 0 h ⟨.inl rfl, .inl rfl, fun n hn => (by cases hn), fun n hn => (by cases hn), by simp [maxLen], by simp [maxLen]⟩ (fun _ _ h _ => absurd rfl h) (fun _ _ h _ => absurd rfl h)
section
variable {At : DkAt}
set_option maxRecDepth 100000 in
set_option maxHeartbeats 2000000 in
theorem walAwake_any (K : DiskK At) (w : World) (hE : EnvT w) : Calls Tryz.prog 16 #[] w fun e w' => e = .returned (.bool true) ∧ Below w.heap.size w w' := by
  have HK := Lib.hid K
  have HEn := Lib.hid (fun W' (hb : Below w.heap.size w W') => hE.below hb (Nat.le_refl _))
  have HS5 : Hid (∀ W, Calls Tryz.prog 26 #[.int .u64 5, .int .u8 2] W fun e w' => e = .returned (.agg (recC Wl.s52)) ∧ Below W.heap.size W w') := Lib.hid fun W => state_any 5 2 W
  have HS5o := HS5
  have HS6 : Hid (∀ W, Calls Tryz.prog 26 #[.int .u64 6, .int .u8 0] W fun e w' => e = .returned (.agg (recC Wl.s60)) ∧ Below W.heap.size W w') := Lib.hid fun W => state_any 6 0 W
  unfold recC Wl.s52 at HS5
  unfold recC Wl.s60 at HS6
  have hzt := zeroTable
  have hst := storeTabA
  have hsz := tabA_size
  clear K hE
  go_enter Tryz.func16, Tryz.ntmps16
  go_wp2_with fail
  refine (HK.out.new _).mono ?_
  rintro e w1 ⟨p, S, rfl, a1, a2, a3⟩
  have H1 := Lib.hid (And.intro a1 (And.intro a2 a3))
  clear a1 a2 a3
  go_wp2_with fail
  refine (make_any _).mono ?_
  rintro e w2 ⟨rfl, hb2⟩
  have HR0 : Hid (Run At w (w2.alloc (.cells tabA 27)) p w2.heap.size S Dk.D.new) := Lib.hid (by
    obtain ⟨h1, h2, h3⟩ := H1.out
    have hb3 := bnew hb2 (.cells tabA 27)
    exact ⟨HK.out.below h1 hb3, h2, TabAt.new w2, Nat.le_trans h3.size hb2.size, fun hk => absurd (HK.out.lt h1 _ hk) (Nat.not_lt.2 hb2.size), bnext h3 hb3⟩)
  clear hb2
  go_wp2_with fail
  refine (HS5.out _).mono ?_
  rintro e w4 ⟨rfl, hb4⟩
  have HR1 : Hid (Run At w (w4.alloc (.cells (wrs [Wl.s52]).toArray 62)) p w2.heap.size S Dk.D.new) := Lib.hid (HR0.out.more HK.out (bnew hb4 _))
  clear hb4
  go_wp2_with fail
  have hB1 := begin_any HK.out nameSays (w4.alloc (.cells (wrs [Wl.s52]).toArray 62)) p w2.heap.size 1 4 S Dk.D.new [Wl.s52] (some ⟨w4.heap.size, 0, none⟩) 1 (HEn.out _ HR1.out.bel) (by decide) (by decide) HR1.out.tab HR1.out.at_ (Lies.new w4 (wrs [Wl.s52]) 62) Wl.s52_ok (by decide +kernel)
  refine hB1.mono ?_
  rintro e w5 ⟨v, rfl, hq, _, _⟩
  obtain ⟨q, rfl, hlg, hqW⟩ := hq Wl.aw1_ok
  obtain ⟨S5, hr5, _⟩ := HR1.out.logged hlg hqW
  have HR5 : Hid (RunL At w w5 p w2.heap.size q 1 0 S5 Wl.aw1.2) := Lib.hid hr5
  have hno : (Wl.begins Dk.D.new 1 4 [Wl.s52]).1.no = 0 := by
    have := Wl.aw1_ok
    unfold Wl.aw1 at this
    rw [this]; rfl
  rw [hno]
  clear hno hq hlg hqW hr5 hB1 HR0 HR1 H1
  go_wp2_with fail
  refine (HK.out.fuse _ p S5 _ 2 HR5.out.at_ (by decide)).mono ?_
  rintro e w6 ⟨rfl, hn6⟩
  obtain ⟨S6, hr6, _⟩ := HR5.out.step hn6
  have HR6 := Lib.hid hr6
  clear hn6 hr6 HR5
  go_wp2_with fail
  refine (HS6.out _).mono ?_
  rintro e w7 ⟨rfl, hb7⟩
  have HR7 : Hid (RunL At w (w7.alloc (.cells (wrs [Wl.s60]).toArray 62)) p w2.heap.size q 1 0 S6 (Dk.fuse Wl.aw1.2 2)) := Lib.hid (HR6.out.more HK.out (bnew hb7 _))
  clear hb7
  go_wp2_with fail
  have hA1 := add_any HK.out nameSays (w7.alloc (.cells (wrs [Wl.s60]).toArray 62)) q p 1 0 S6 (Dk.fuse Wl.aw1.2 2) [Wl.s60] (some ⟨w7.heap.size, 0, none⟩) 1 (HEn.out _ HR7.out.bel) (by decide) HR7.out.log HR7.out.at_ HR7.out.nq (Lies.new w7 (wrs [Wl.s60]) 62) Wl.s60_ok (by have := Wl.aw1_load; show Dk.load Wl.aw1.2 + _ ≤ _; have e : Wl.cost ([Wl.s60].map Wl.text) = 63 := (by decide +kernel); omega) (by decide)
  refine hA1.mono ?_
  rintro e w8 ⟨rfl, hlg⟩
  obtain ⟨S8, hr8, _⟩ := HR7.out.logged hlg
  have hdn : (Wl.add (Dk.fuse Wl.aw1.2 2) 1 [Wl.s60]).1 = .down := Wl.aw3_down
  rw [hdn] at hr8 ⊢
  rw [Wl.beh_no (fun h => by cases h)] at hr8
  have HR8 : Hid (RunL At w w8 p w2.heap.size q 1 0 S8 Wl.aw3.2) := Lib.hid hr8
  clear hlg hr8 hA1 HR6 HR7 hdn
  simp only [eno]
  go_wp2_with fail
  refine (crash_nil HK.out _ p S8 _ HR8.out.at_).mono ?_
  rintro e w9 ⟨rfl, hn9⟩
  obtain ⟨S9, hr9, _⟩ := HR8.out.step hn9
  have HR9 := Lib.hid hr9
  clear hn9 hr9 HR8
  go_wp2_with fail
  refine (HK.out.start _ p S9 _ HR9.out.at_).mono ?_
  rintro e w10 ⟨rfl, hn10⟩
  obtain ⟨S10, hr10, _⟩ := HR9.out.step hn10
  have HR10 : Hid (RunL At w w10 p w2.heap.size q 1 0 S10 Wl.aw4) := Lib.hid hr10
  clear hn10 hr10 HR9
  go_wp2_with fail
  have hrd := wread_any HK.out nameSays w10 p w2.heap.size 1 S10 Wl.aw4 (HEn.out _ HR10.out.bel) (by decide) HR10.out.tab HR10.out.at_
  rw [Wl.aw4_read] at hrd
  refine hrd.mono ?_
  rintro e w11 ⟨A, cap, rfl, hl11, _, _, hb11⟩
  have HR11 := Lib.hid (And.intro hl11 (HR10.out.more HK.out hb11))
  clear hl11 hb11 hrd HR10
  simp only [eno]
  go_wp2_with fail
  obtain ⟨bb, oo, rfl, hP⟩ := HR11.out.1.recd 0 (by decide)
  have hY := hP.rng
  have hbl := hP.lt
  have HNn : Hid (∀ W, Below w11.heap.size w11 W → Calls Tryz.prog 32 #[.pointer (some ⟨q, 0, none⟩)] W fun e w' => e = .returned (.int .u64 1) ∧ Below W.heap.size W w') := Lib.hid fun W hb => (logN_any W q p 1 0 (HR11.out.2.log.below hb)).mono fun e w' ⟨h1, h2⟩ => ⟨h1, by rw [← h2]; exact Below.refl _ _⟩
  have HBh : Hid (∀ W, Below w11.heap.size w11 W → Calls Tryz.prog 30 #[.pointer (some ⟨q, 0, none⟩)] W fun e w' => e = .returned (.int .i64 0) ∧ Below W.heap.size W w') := Lib.hid fun W hb => (behind_any W q p 1 0 (HR11.out.2.log.below hb)).mono fun e w' ⟨h1, h2⟩ => ⟨h1, by rw [← h2]; exact Below.refl _ _⟩
  have heq : ∀ W, (binOp .eql 62 (.agg (recC Wl.s52)) (.agg (recC Wl.s52))).run Tryz.prog W = .ok (.bool true) W := fun W => by
    have := rec_eql Wl.s52 Wl.s52 W
    simpa using this
  have HYz : Hid ((Tryz.prog.info? 62).map (·.size) = some (recC Wl.s52).size) := Lib.hid sizeRec
  have e0 : oo + 0 * 16 = oo := by omega
  rw [e0] at hY
  have hY : w11.rangeAt bb oo (recC Wl.s52).toList := hY
  have HY := Lib.hid hY
  clear hY hP e0 HS5 HS6 HK
  generalize recC Wl.s52 = Y at HS5o heq HYz HY
  refine wp_region_quiet_below (by kernel_rfl) (by kernel_rfl) ?_
  repeat (first | (refine wpQuiet_load_rng rfl 62 _ rfl bb oo rfl Y _ hbl HY.out Tryz.underlying62 rfl HYz.out ?_; (conv => arg 6; simp [Act.put])) | (go_big_quiet_step (first | (go_at_call 26; exact Calls.regrown_of (HS5o.out _)) | (go_at_call 32; exact Calls.regrown_of (HNn.out _ (below_regrown _ _ _))) | (go_at_call 30; exact Calls.regrown_of (HBh.out _ (below_regrown _ _ _))))))
  refine wpQuiet_nil ?_
  intro _ hw'
  obtain ⟨pq, hw''⟩ := hw'
  subst hw''
  have hb12 := below_regrown w11 pq.d pq.os
  generalize Go.Sort.grow (redrawn w11 pq.d) pq.os = w12 at *
  go_wp2_with fail
  go_ret
  exact ⟨rfl, bnext HR11.out.2.bel hb12⟩
end
end Go.Proofs.YtdcjhpnakbejkaaGreatDoor
