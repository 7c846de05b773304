/-
  What the library's sort does to at most twelve numbers, as wal.Segments wants it.
  A law's disk, table and store, from call to call.
  What the statements' awake of layer 9 comes to, as plain mathematics.
  The document's Same walked; two snapshots held against each other.
  The document's Same walked.
-/
import Derived.Test.YtjhbpcecdhdnoaaGreatDoorRWlStZ
import Derived.Test.YtjhbpcecdhdnoaaGreatDoorRStSortMZ
import Derived.Test.YtjhbpcecdhdnoaaGreatDoorRStOpenW
import Derived.Test.YtjhbpcecdhdnoaaGreatDoorRStSaveWZ
import Derived.Test.YtjhbpcecdhdnoaaGreatDoorRWwX
import Derived.Test.YtjhbpcecdhdnoaaGreatDoorRStTurnZ
import Derived.Test.YtjhbpcecdhdnoaaGreatDoorRStFoundWZ
import Derived.Test.YtjhbpcecdhdnoaaGreatDoorRStSaveZ
import Derived.Test.YtjhbpcecdhdnoaaGreatDoorRWwBeginTZ
import Derived.BigQuiet
import Derived.Deep.QuietTactic
import Derived.Deep.CutBlock
import Derived.Deep.DeepCutAuto
set_option linter.unusedSimpArgs false
set_option linter.unusedVariables false
namespace Go.Proofs.YtjhbpcecdhdnoaaGreatDoor
open Go.RowKit
theorem sortU12 : SortU 12 := fun B v ns w ho _ hn hl => (so_own ho hl).mono fun e w' ⟨he, s, ho2, hp, hs, hb⟩ => by
  have := St.sorted_eq hp hs hn
  subst this
  exact ⟨he, by rw [hp.length_eq] at ho2; exact ho2, hb⟩
end Go.Proofs.YtjhbpcecdhdnoaaGreatDoor
namespace Go.Proofs.YtjhbpcecdhdnoaaGreatDoor
open Go.RowKit
structure RunS (At : DkAt) (w0 W : World) (p tb q lq n b : Nat) (S : Nat → Prop) (d : Dk.D) (k : St.K) (A : Option Addr) (c : Nat) (lost : Bool) : Prop where
  sto : Sto At W q p lq n b S d k A c lost
  abv : ∀ x, StS S q lq x → w0.heap.size ≤ x
  tab : TabAt W tb
  tbl : w0.heap.size ≤ tb
  ntb : ¬ StS S q lq tb
  bel : Below w0.heap.size w0 W
section
variable {At : DkAt} {w0 W W' : World} {p tb q lq n b : Nat} {S : Nat → Prop} {d d' : Dk.D} {k : St.K} {A : Option Addr} {c : Nat} {lost : Bool}
theorem RunS.run (h : RunS At w0 W p tb q lq n b S d k A c lost) : Run At w0 W p tb S d := ⟨h.sto.at_, fun x hx => h.abv x (.inl hx), h.tab, h.tbl, fun hx => h.ntb (.inl hx), h.bel⟩
theorem RunS.more (K : DiskK At) (h : RunS At w0 W p tb q lq n b S d k A c lost) (hb : Below W.heap.size W W') : RunS At w0 W' p tb q lq n b S d k A c lost :=
  ⟨h.sto.bel K hb, h.abv, h.tab.below hb, h.tbl, h.ntb, h.bel.trans (hb.mono h.bel.size)⟩
theorem RunS.call (h : RunS At w0 W p tb q lq n b S d k A c lost) {x : Int × Dk.D × (Nat × Nat) × St.K × Bool} (hs : Stored At W q p lq S x W') :
    ∃ lq' S' A' c', RunS At w0 W' p tb q lq' x.2.2.1.1 x.2.2.1.2 S' x.2.1 x.2.2.2.1 A' c' x.2.2.2.2 ∧ Moved (StS S q lq) W W' (StS S' q lq') := by
  obtain ⟨lq', S', A', c', h1, h2, h3, h4⟩ := hs
  have up : ∀ y, StS S' q lq' y → StS S q lq y ∨ W.heap.size ≤ y := by
    rintro y (hy | rfl | rfl)
    · exact (h2 y hy).imp .inl id
    · exact .inl (.inr (.inl rfl))
    · exact h3.imp (fun e => .inr (.inr e)) id
  exact ⟨lq', S', A', c', ⟨h1, fun y hy => (up y hy).elim (h.abv y) fun e => Nat.le_trans h.bel.size e, h4.row h.ntb h.tab, h.tbl, fun hy => (up tb hy).elim h.ntb fun e => absurd h.tab.lt (Nat.not_lt.2 e), h4.below h.bel h.bel.size h.abv⟩, h4, up⟩
theorem RunS.step (h : RunS At w0 W p tb q lq n b S d k A c lost) (hn : Now At W W' p S d') : ∃ S', RunS At w0 W' p tb q lq n b S' d' k A c lost ∧ Moved (StS S q lq) W W' (StS S' q lq) := by
  obtain ⟨⟨S', h1, h2⟩, h3⟩ := hn
  have hko : Ko (StS S q lq) W W' := h3.mono fun x _ hx => .inl hx
  have hq : q < W.heap.size := h.sto.row.lt
  have hl : lq < W.heap.size := h.sto.log.lt
  have up : ∀ y, StS S' q lq y → StS S q lq y ∨ W.heap.size ≤ y := by
    rintro y (hy | rfl | rfl)
    · exact (h2 y hy).imp .inl id
    · exact .inl (.inr (.inl rfl))
    · exact .inl (.inr (.inr rfl))
  refine ⟨S', ⟨⟨h3.row h.sto.nq h.sto.row, h.sto.log.ko h3 h.sto.nl, h1, fun hx => (h2 q hx).elim h.sto.nq fun e => absurd hq (Nat.not_lt.2 e), fun hx => (h2 lq hx).elim h.sto.nl fun e => absurd hl (Nat.not_lt.2 e), h.sto.kin.ko (fun b off e1 e2 e3 => h.sto.aw b off e1 e2 (.inl e3)) h3, h.sto.aw.sub h.sto.kin.lies (Nat.le_refl _) up⟩,
    fun y hy => (up y hy).elim (h.abv y) fun e => Nat.le_trans h.bel.size e, hko.row h.ntb h.tab, h.tbl, fun hy => (up tb hy).elim h.ntb fun e => absurd h.tab.lt (Nat.not_lt.2 e), hko.below h.bel h.bel.size h.abv⟩, hko, up⟩
theorem Run.envs (h : Run At w0 W p tb S d) (hE : EnvT w0 ∧ EnvE w0) : ∀ W', Ko S W W' → EnvT W' ∧ EnvE W' := fun W' hk =>
  have hb := hk.below h.bel h.bel.size h.abv
  ⟨hE.1.below hb (Nat.le_refl _), hE.2.below hb (Nat.le_refl _)⟩
theorem RunS.envs (h : RunS At w0 W p tb q lq n b S d k A c lost) (hE : EnvT w0) : ∀ W', Ko (StS S q lq) W W' → EnvT W' := fun W' hk => hE.below (hk.below h.bel h.bel.size h.abv) (Nat.le_refl _)
theorem Run.opened (K : DiskK At) (h : Run At w0 W p tb S d) {S' : Nat → Prop} (hs : Sto At W' q p lq n b S' d' k A c lost) (h1 : ∀ x, S' x → S x ∨ W.heap.size ≤ x) (h2 : W.heap.size ≤ q) (h3 : W.heap.size ≤ lq) (h4 : Ko S W W') :
    RunS At w0 W' p tb q lq n b S' d' k A c lost ∧ Moved S W W' (StS S' q lq) := by
  have up : ∀ y, StS S' q lq y → S y ∨ W.heap.size ≤ y := by
    rintro y (hy | rfl | rfl)
    · exact h1 y hy
    · exact .inr h2
    · exact .inr h3
  exact ⟨⟨hs, fun y hy => (up y hy).elim (h.abv y) fun e => Nat.le_trans h.bel.size e, h4.row h.ntb h.tab, h.tbl, fun hy => (up tb hy).elim h.ntb fun e => absurd h.tab.lt (Nat.not_lt.2 e), h4.below h.bel h.bel.size h.abv⟩, h4, up⟩
end
structure OpD (d : Dk.D) : Prop where
  few : ∀ n ∈ St.segs d, Few d n
  len : (St.segs d).length ≤ 12
  next : St.nextN (St.segs d) < Nm.top
  small : St.Small (St.newest d (St.segs d))
  ents : (St.newest d (St.segs d)).ents.length ≤ 100000
  load : Dk.load d + 100 + Wl.cost ((St.base (St.newest d (St.segs d))).map Wl.text) ≤ 100000000
section
variable {At : DkAt}
def RetRO (At : DkAt) (w0 W : World) (p tb : Nat) (S : Nat → Prop) (o : Int × Dk.D × Option (Nat × St.K)) (e : Ending) (w' : World) : Prop := match o.2.2 with
  | none => ∃ S', e = .returned (.tuple #[.pointer none, .agg zK, .int .i64 o.1]) ∧ Run At w0 w' p tb S' o.2.1 ∧ Moved S W w' S'
  | some (n, k) => ∃ q lq S' A c A2 c2, e = .returned (.tuple #[.pointer (some ⟨q, 0, none⟩), .agg (kC k (.slice A2 k.ents.length c2)), .int .i64 o.1]) ∧ RunS At w0 w' p tb q lq n 0 S' o.2.1 k A c false ∧
      w'.ownsRow W.heap.size 88 13 (.slice A2 k.ents.length c2) k.ents.length (ec k.ents) ∧ Away (StS S' q lq) A2 (ec k.ents) ∧ Moved S W w' (StS S' q lq)
theorem segs_len (d : Dk.D) : (St.segs d).length = ((Dk.list d).filterMap St.number).length := by unfold St.segs; exact sortU_length _
theorem ropen_any (K : DiskK At) (w0 W : World) (p tb : Nat) (S : Nat → Prop) (d : Dk.D) (h : Run At w0 W p tb S d) (hE : EnvT w0 ∧ EnvE w0) (hB : OpD d) :
    Calls Tryz.prog 29 #[.pointer (some ⟨p, 0, none⟩), .pointer (some ⟨tb, 0, none⟩)] W (RetRO At w0 W p tb S (St.opens d)) := by
  have h12 := hB.len
  refine (open_any K W p tb S d h.at_ (h.envs hE) h.tab (fun W1 hb => segs_any sortU12 K W1 p S d (K.below h.at_ hb) (h.envs hE W1 (Ko.bel hb)).1 (h.envs hE W1 (Ko.bel hb)).2 (by rw [← segs_len]; exact h12)) hB.few (by omega) hB.next hB.small hB.ents hB.load).mono fun e w' hr => ?_
  unfold RetOp9 at hr
  unfold RetRO
  cases ho : (St.opens d).2.2 with
  | none =>
    rw [ho] at hr
    obtain ⟨he, hn⟩ := hr
    obtain ⟨S', h1, h2⟩ := h.step hn
    exact ⟨S', he, h1, h2⟩
  | some x =>
    obtain ⟨n, k⟩ := x
    rw [ho] at hr
    obtain ⟨q, lq, S', A, c, A2, c2, he, hs, ho2, h1, h2, h3, h4, h5⟩ := hr
    obtain ⟨r1, r2⟩ := h.opened K hs h1 h2 h3 h4
    exact ⟨q, lq, S', A, c, A2, c2, he, r1, ho2, fun b off _ hA hx => Nat.lt_irrefl _ (h5 b off hA b hx), r2⟩
end
end Go.Proofs.YtjhbpcecdhdnoaaGreatDoor
namespace Go.Proofs.YtjhbpcecdhdnoaaGreatDoor
namespace St
instance : DecidableEq K := fun a b => decidable_of_iff (a.trm = b.trm ∧ a.vote = b.vote ∧ a.snap = b.snap ∧ a.ents = b.ents)
  ⟨fun h => by cases a; cases b; simp at h; obtain ⟨rfl, rfl, rfl, rfl⟩ := h; rfl, fun h => by subst h; exact ⟨rfl, rfl, rfl, rfl⟩⟩
def stR (t v : Nat) : Wl.R := ⟨2, t, v, En.zero⟩
def noE (i t : Nat) : En.E := ⟨i, t, 1, 0, Og.Tk.zero, Dk.e0⟩
def noR (i t : Nat) : Wl.R := ⟨3, 0, 0, noE i t⟩
def snS (i t : Nat) : Sn := ⟨i, t, 7, [⟨#[97]⟩, ⟨#[]⟩, ⟨#[99]⟩, ⟨#[]⟩, ⟨#[]⟩]⟩
def awR : List Wl.R := [stR 1 2, noR 1 1, noR 2 1]
def q0 := opens Dk.D.new
def q1 := save q0.2.1 1 0 zero awR
def k1 : K := ⟨1, 2, zs, [noE 1 1, noE 2 1]⟩
def q2 := scut q1.2.1 1 3 k1 (snS 1 1)
def k2 : K := ⟨1, 2, snS 1 1, [noE 2 1]⟩
def q3 := Dk.start (Dk.crash q2.2.1 [] [])
def q4 := opens q3
theorem q0_is : q0.1 = 0 ∧ q0.2.2 = some (1, zero) := by decide +kernel
theorem q1_is : q1.1 = 0 ∧ q1.2.2 = ((1, 3), k1, false) := by decide +kernel
theorem q2_is : q2.1 = 0 ∧ q2.2.2 = ((2, 0), k2, false) := by decide +kernel
theorem q4_is : q4.1 = 0 ∧ q4.2.2 = some (3, k2) := by decide +kernel
theorem q_segs : segs Dk.D.new = [] ∧ segs q3 = [2] := by decide +kernel
theorem q_load : Dk.load Dk.D.new ≤ 5000 ∧ Dk.load q0.2.1 ≤ 5000 ∧ Dk.load (Wl.add q0.2.1 1 awR).2 ≤ 5000 ∧ Dk.load q1.2.1 ≤ 5000 ∧ Dk.load (writeSnap q1.2.1 (snS 1 1)).2 ≤ 5000 ∧ Dk.load q3 ≤ 5000 := by decide +kernel
theorem q_after : after zero awR = some k1 ∧ cut k1 (snS 1 1) = some k2 := by decide +kernel
theorem noE_fits (i t : Nat) (hi : i < Nm.top) (ht : t < Nm.top) : En.Fits (noE i t) := ⟨hi, ht, by show 1 < 256; decide, by show 0 < 256; decide⟩
theorem noR_fits (i t : Nat) (hi : i < Nm.top) (ht : t < Nm.top) : Wl.Fits (noR i t) := ⟨by show 3 < 256; decide, by show 0 < Nm.top; decide, by show 0 < 256; decide, noE_fits i t hi ht, by show 0 < Nm.top; decide⟩
theorem stR_fits (t v : Nat) (ht : t < Nm.top) (hv : v < 256) : Wl.Fits (stR t v) := ⟨by show 2 < 256; decide, ht, hv, En.zero_fits, by show 0 < Nm.top; decide⟩
theorem awR_fits : ∀ r ∈ awR, Wl.Fits r ∧ r.ent.body.size ≤ 0 := by
  intro r hr
  simp only [awR, List.mem_cons, List.mem_nil_iff, or_false] at hr
  rcases hr with rfl | rfl | rfl
  · exact ⟨stR_fits 1 2 (by decide) (by decide), by decide⟩
  · exact ⟨noR_fits 1 1 (by decide) (by decide), by decide⟩
  · exact ⟨noR_fits 2 1 (by decide) (by decide), by decide⟩
theorem awR_recs : Recs awR := ⟨fun r hr => ⟨(awR_fits r hr).1, by have := (awR_fits r hr).2; omega⟩, by decide⟩
theorem snS_fits (i t : Nat) (hi : i < Nm.top) (ht : t < Nm.top) : SnFits (snS i t) := by
  refine ⟨hi, ht, by show 7 < 256; decide, rfl, ?_⟩
  intro x hx
  have hx : x ∈ [(⟨#[97]⟩ : ByteArray), ⟨#[]⟩, ⟨#[99]⟩, ⟨#[]⟩, ⟨#[]⟩] := hx
  simp only [List.mem_cons, List.mem_nil_iff, or_false] at hx
  rcases hx with rfl | rfl | rfl | rfl | rfl <;> decide
theorem zero_small : Small zero := ⟨.inl rfl, by decide, by decide, fun e he => by cases he⟩
theorem k1_small : Small k1 := ⟨.inl rfl, by decide, by decide, fun e he => by
  have he : e ∈ [noE 1 1, noE 2 1] := he
  simp only [List.mem_cons, List.mem_nil_iff, or_false] at he
  rcases he with rfl | rfl
  · exact ⟨noE_fits 1 1 (by decide) (by decide), by decide⟩
  · exact ⟨noE_fits 2 1 (by decide) (by decide), by decide⟩⟩
theorem k2_small : Small k2 := ⟨.inr ⟨by decide, snS_fits 1 1 (by decide) (by decide)⟩, by decide, by decide, fun e he => by
  have he : e ∈ [noE 2 1] := he
  simp only [List.mem_cons, List.mem_nil_iff, or_false] at he
  subst he
  exact ⟨noE_fits 2 1 (by decide) (by decide), by decide⟩⟩
theorem q_cost : Wl.cost (awR.map Wl.text) ≤ 5000 ∧ Wl.cost ((base zero).map Wl.text) ≤ 5000 ∧ Wl.cost ((base k1).map Wl.text) ≤ 5000 ∧ Wl.cost ((base k2).map Wl.text) ≤ 5000 ∧ Wl.cost (srow (snS 1 1)) ≤ 5000 := by decide +kernel
theorem q_new : newest Dk.D.new [] = zero ∧ newest q3 [2] = k2 := by decide +kernel
theorem q3_read : (Wl.readD q3 2).1.1 = 1 ∧ (Wl.readD q3 2).1.2.1 = [stR 1 2, noR 2 1] := by decide +kernel
end St
theorem opD_new : OpD Dk.D.new := by
  have e : St.segs Dk.D.new = [] := St.q_segs.1
  refine ⟨fun n hn => (by rw [e] at hn; cases hn), by rw [e]; decide, by rw [e]; decide, ?_, ?_, ?_⟩
  · rw [e, St.q_new.1]; exact St.zero_small
  · rw [e, St.q_new.1]; decide
  · rw [e, St.q_new.1]; have := St.q_load.1; have := St.q_cost.2.1; omega
theorem opD_q3 : OpD St.q3 := by
  have e : St.segs St.q3 = [2] := St.q_segs.2
  refine ⟨fun n hn => ?_, by rw [e]; decide, by rw [e]; decide, ?_, ?_, ?_⟩
  · rw [e, List.mem_singleton] at hn
    subst hn
    refine ⟨by decide, by rw [St.q3_read.1]; decide, ?_⟩
    rw [St.q3_read.2]
    refine ⟨fun r hr => ?_, by decide⟩
    simp only [List.mem_cons, List.mem_nil_iff, or_false] at hr
    rcases hr with rfl | rfl
    · exact ⟨St.stR_fits 1 2 (by decide) (by decide), by decide⟩
    · exact ⟨St.noR_fits 2 1 (by decide) (by decide), by decide⟩
  · rw [e, St.q_new.2]; exact St.k2_small
  · rw [e, St.q_new.2]; decide
  · rw [e, St.q_new.2]; have := St.q_load.2.2.2.2.2; have := St.q_cost.2.2.2.1; omega
end Go.Proofs.YtjhbpcecdhdnoaaGreatDoor
namespace Go.Proofs.YtjhbpcecdhdnoaaGreatDoor
open Go.RowKit
def snE (s t : St.Sn) : Bool := decide (s.idx = t.idx) && (decide (s.trm = t.trm) && (decide (s.mem = t.mem) && (decide (St.sx s 0 = St.sx t 0) && (decide (St.sx s 1 = St.sx t 1) && (decide (St.sx s 2 = St.sx t 2) && (decide (St.sx s 3 = St.sx t 3) && decide (St.sx s 4 = St.sx t 4)))))))
theorem snE_refl (s : St.Sn) : snE s s = true := by unfold snE; simp
theorem sbytes_eq (a b : ByteArray) : (a.toList == b.toList) = decide (a = b) := by
  rw [ByteArray.toList_eq, ByteArray.toList_eq, Bool.eq_iff_iff, beq_iff_eq, decide_eq_true_iff]
  exact ⟨fun h => ByteArray.ext (Array.toList_inj.1 h), fun h => by rw [h]⟩
theorem strEq (d : Nat) (x y : ByteArray) (W : World) : (Op.equalIn (d + 1) 9 (.string x) (.string y)).run Tryz.prog W = .ok (decide (x = y)) W := by
  simp [go_sem, sbytes_eq]
theorem infoStr9 : (Tryz.prog.info? 9).map (fun i => (i.zero, i.size, i.bytes)) = some (some (.string ⟨#[]⟩), 1, 16) := by kernel_rfl
theorem sec_eq (d : Nat) (W : World) (a b c e f a' b' c' e' f' : ByteArray) : (Op.equalIn (d + 1 + 1) 53 (.agg #[.string a, .string b, .string c, .string e, .string f]) (.agg #[.string a', .string b', .string c', .string e', .string f'])).run Tryz.prog W = .ok (decide (a = a') && (decide (b = b') && (decide (c = c') && (decide (e = e') && decide (f = f'))))) W := by
  obtain ⟨i0, hi, hz0, hz1, hz2⟩ := info_parts infoStr9
  rw [run_equalIn_array W (d + 1) _ _ Tryz.underlying53 hi]
  rw [show List.range 5 = [0, 1, 2, 3, 4] from rfl]
  simp only [Op.eqItems]
  have hce : Tryz.prog.cellsOf 9 = 1 := by simp [Program.cellsOf, hi, hz1]
  rw [hce]
  simp [go_sem, strEq]
  repeat' split
  all_goals simp_all
theorem sn_eq (W : World) (x y : St.Sn) : (Op.equalIn 10000 55 (.agg (snC x)) (.agg (snC y))).run Tryz.prog W = .ok (snE x y) W := by
  rw [run_equalIn_agg W 9999 55 _ _ (by unfold Program.fieldsOf; rw [Tryz.underlying55]) (by kernel_rfl)]
  unfold Program.fieldsOf
  rw [Tryz.underlying55]
  have ht := fun W => sec_eq 9997 W (St.sx x 0) (St.sx x 1) (St.sx x 2) (St.sx x 3) (St.sx x 4) (St.sx y 0) (St.sx y 1) (St.sx y 2) (St.sx y 3) (St.sx y 4)
  unfold snC snE
  simp only [Op.eqFields]
  simp [go_sem, ht]
  repeat' split
  all_goals (simp_all <;> omega)
theorem sn_eql (x y : St.Sn) (W : World) : (binOp .eql 55 (.agg (snC x)) (.agg (snC y))).run Tryz.prog W = .ok (.bool (snE x y)) W := by
  rw [run_eql_struct, sn_eq, Result.andThen_ok]
end Go.Proofs.YtjhbpcecdhdnoaaGreatDoor
namespace Go.Proofs.YtjhbpcecdhdnoaaGreatDoor
open Go.RowKit
def kE (a b : St.K) : Bool := decide (a.ents = b.ents) && (decide (a.trm = b.trm) && (decide (a.vote = b.vote) && snE a.snap b.snap))
theorem kE_refl (a : St.K) : kE a a = true := by unfold kE; simp [snE_refl]
theorem rk_cells {W : World} {gb : Nat} {k : St.K} {v : Value} (h : Rw W gb (kC k v) 62) :
    W.cell? ⟨gb, 0, none⟩ = some (.int .u64 (k.trm : Int)) ∧ W.cell? ⟨gb, 1, none⟩ = some (.int .u8 (k.vote : Int)) ∧ W.cell? ⟨gb, 2, none⟩ = some (.int .u64 (k.snap.idx : Int)) ∧ W.cell? ⟨gb, 3, none⟩ = some (.int .u64 (k.snap.trm : Int)) ∧ W.cell? ⟨gb, 4, none⟩ = some (.int .u8 (k.snap.mem : Int)) ∧
    W.cell? ⟨gb, 5, none⟩ = some (.string (St.sx k.snap 0)) ∧ W.cell? ⟨gb, 6, none⟩ = some (.string (St.sx k.snap 1)) ∧ W.cell? ⟨gb, 7, none⟩ = some (.string (St.sx k.snap 2)) ∧ W.cell? ⟨gb, 8, none⟩ = some (.string (St.sx k.snap 3)) ∧ W.cell? ⟨gb, 9, none⟩ = some (.string (St.sx k.snap 4)) ∧ W.cell? ⟨gb, 10, none⟩ = some v :=
  ⟨h.cell 0 rfl, h.cell 1 rfl, h.cell 2 rfl, h.cell 3 rfl, h.cell 4 rfl, h.cell 5 rfl, h.cell 6 rfl, h.cell 7 rfl, h.cell 8 rfl, h.cell 9 rfl, h.cell 10 rfl⟩
theorem ents_dec {l m : List En.E} (h : l.length ≠ m.length) : decide (l = m) = false := by
  rw [decide_eq_false_iff_not]; intro e; exact h (by rw [e])
set_option maxRecDepth 100000 in
set_option maxHeartbeats 8000000 in
theorem same9_any (a b : St.K) (A B : Option Addr) (ca cb : Nat) (w : World) (hA : Lies w A (ec a.ents)) (hB : Lies w B (ec b.ents)) (hn : a.ents.length ≤ 1000000) (hm : b.ents.length ≤ 1000000) :
    Calls Tryz.prog 26 #[.agg (kC a (.slice A a.ents.length ca)), .agg (kC b (.slice B b.ents.length cb))] w fun e w' => e = .returned (.bool (kE a b)) ∧ Below w.heap.size w w' := by
  have HK : Hid (kE a b = (decide (a.ents = b.ents) && (decide (a.trm = b.trm) && (decide (a.vote = b.vote) && snE a.snap b.snap)))) := Lib.hid rfl
  obtain ⟨ps, hps⟩ : ∃ ps, ps = a.ents := ⟨_, rfl⟩
  obtain ⟨qs, hqs⟩ : ∃ qs, qs = b.ents := ⟨_, rfl⟩
  obtain ⟨X, hX⟩ : ∃ X, X = kC a (.slice A ps.length ca) := ⟨_, rfl⟩
  obtain ⟨Y, hY⟩ : ∃ Y, Y = kC b (.slice B qs.length cb) := ⟨_, rfl⟩
  rw [← hps] at hA hn HK
  rw [← hqs] at hB hm HK
  rw [← hps, ← hqs, ← hX, ← hY]
  have HA := Lib.hid hA
  have HB := Lib.hid hB
  have HX := Lib.hid hX
  have HY := Lib.hid hY
  have hxs : X.size = 11 := by rw [hX]; rfl
  have hys : Y.size = 11 := by rw [hY]; rfl
  have hx1 : X.all (·.oneCell') = true := by rw [hX]; exact kC_one _ _ _ _
  have hy1 : Y.all (·.oneCell') = true := by rw [hY]; exact kC_one _ _ _ _
  clear hA hB hps hqs hX hY
  go_enter Tryz.func26, Tryz.ntmps26
  go_upto_region 1 with (fail)
  have hsz : (w.alloc (.cells X 62)).heap.size = w.heap.size + 1 := by simp
  refine forget (fun W1 => Rw W1 w.heap.size X 62 ∧ Rw W1 (w.heap.size + 1) Y 62 ∧ Bl w W1) ⟨(Rw.new w X _).alloc _, by have := Rw.new (w.alloc (.cells X 62)) Y 62; rw [hsz] at this; exact this, ((Bl.refl w).alloc _).alloc _⟩ ?_
  intro W1 H1
  obtain ⟨g, hg⟩ : ∃ g, g = w.heap.size := ⟨_, rfl⟩
  try rw [hsz]
  rw [← hg] at H1 ⊢
  rw [HX.out, HY.out] at H1
  have HI := Lib.hid H1
  obtain ⟨x0, x1, x2, x3, x4, x5, x6, x7, x8, x9, x10⟩ := rk_cells H1.1
  obtain ⟨y0, y1, y2, y3, y4, y5, y6, y7, y8, y9, y10⟩ := rk_cells H1.2.1
  clear H1 hg hsz
  by_cases hl : ps.length = qs.length
  · have l1 : ((ps.length : Int) != (qs.length : Int)) = false := by simp [hl]
    have l2 : ((ps.length : Int) = (qs.length : Int)) = True := by simp [hl]
    have Hl := Lib.hid hl
    clear hl
    go_wp2_with fail
    clear l1 l2 x0 x1 x2 x3 x4 x5 x6 x7 x8 x9 x10 y0 y1 y2 y3 y4 y5 y6 y7 y8 y9 y10
    go_loopw [5] (fun i wr => ∃ k : Nat, k ≤ ps.length ∧ i = .int .i64 (k : Int) ∧ (∀ j, j < k → ps[j]? = qs[j]?) ∧ Below W1.heap.size W1 wr) (fun i _ => ps.length - (intOf i).toNat)
    case atStart => exact ⟨0, Nat.zero_le _, rfl, fun j hj => absurd hj (by omega), Below.refl _ _⟩
    case round =>
      obtain ⟨k, hk, rfl, hall, hb⟩ := hrel
      have Hall := Lib.hid hall
      have Hb := Lib.hid hb
      obtain ⟨x0, x1, x2, x3, x4, x5, x6, x7, x8, x9, x10⟩ := rk_cells (HI.out.1.bel hb)
      obtain ⟨y0, y1, y2, y3, y4, y5, y6, y7, y8, y9, y10⟩ := rk_cells (HI.out.2.1.bel hb)
      clear hall hb
      by_cases hlt : k < ps.length
      · have hlt2 : k < qs.length := by rw [← Hl.out]; exact hlt
        obtain ⟨ba, oa, rfl, hP⟩ := HA.out.ent k hlt
        obtain ⟨bb, ob, rfl, hQ⟩ := HB.out.ent k hlt2
        replace hP := (hP.bel HI.out.2.2.bel).bel Hb.out
        replace hQ := (hQ.bel HI.out.2.2.bel).bel Hb.out
        obtain ⟨p, hp⟩ : ∃ p, p = ps[k] := ⟨_, rfl⟩
        obtain ⟨q, hq⟩ : ∃ q, q = qs[k] := ⟨_, rfl⟩
        have hgp : ps[k]? = some p := by rw [hp, List.getElem?_eq_getElem]
        have hgq : qs[k]? = some q := by rw [hq, List.getElem?_eq_getElem]
        rw [← hp] at hP
        rw [← hq] at hQ
        have HG := Lib.hid (And.intro hgp hgq)
        obtain ⟨_, r0, r1, r2, r3, r4, r5, r6, r7, r8, r9, r10, r11, r12⟩ := hP
        obtain ⟨_, s0, s1, s2, s3, s4, s5, s6, s7, s8, s9, s10, s11, s12⟩ := hQ
        clear hp hq hgp hgq x0 x1 x2 x3 x4 x5 x6 x7 x8 x9 y0 y1 y2 y3 y4 y5 y6 y7 y8 y9
        have hne := ent_neq p q
        unfold entC at hne
        have HDt : ∀ (i : Decidable (p = q)), p = q → @decide (p = q) i = true := fun i h => @decide_eq_true _ i h
        have HDf : ∀ (i : Decidable (p = q)), ¬ p = q → @decide (p = q) i = false := fun i h => @decide_eq_false _ i h
        by_cases hs : ¬ p = q
        · rw [HDf _ hs] at hne
          clear HDt HDf
          have Hfin : Hid (kE a b = false) := Lib.hid (by
            have : decide (ps = qs) = false := by
              rw [decide_eq_false_iff_not]
              intro e
              apply hs
              have h1 := HG.out.1
              rw [e, HG.out.2] at h1
              injection h1 with h1; exact h1.symm
            rw [HK.out, this]; rfl)
          clear hs
          go_wp2_with fail
          go_quiet (fail)
          go_wp2_with fail
          go_ret
          exact ⟨by rw [Hfin.out]; rfl, below_drewN (HI.out.2.2.next Hb.out) _⟩
        · have Hs : Hid (p = q) := Lib.hid (Classical.not_not.1 hs)
          rw [HDt _ Hs.out] at hne
          clear hs HDt HDf
          go_wp2_with fail
          go_quiet (fail)
          go_wp2_with fail
          go_roundw
          case rel => exact ⟨k + 1, by omega, by go_num, fun j hj => (by
            by_cases e : j = k
            · subst e; rw [HG.out.1, HG.out.2, Hs.out]
            · exact Hall.out j (by omega)), below_drewN Hb.out _⟩
          case measure => simp [intOf]; omega
      · obtain rfl : k = ps.length := by omega
        have HE : Hid (kE a b = (decide (a.trm = b.trm) && (decide (a.vote = b.vote) && snE a.snap b.snap))) := Lib.hid (by
          have : decide (ps = qs) = true := by
            rw [decide_eq_true_iff]
            apply List.ext_getElem?
            intro j
            by_cases hj : j < ps.length
            · exact Hall.out j hj
            · rw [List.getElem?_eq_none (by omega), List.getElem?_eq_none (by rw [← Hl.out]; omega)]
          rw [HK.out, this, Bool.true_and])
        have hsn := sn_eql a.snap b.snap
        unfold snC at hsn
        by_cases h1 : a.trm = b.trm
        · have t1 : ((a.trm : Int) == (b.trm : Int)) = true := by simp [h1]
          have t1' : ((a.trm : Int) = (b.trm : Int)) = True := by simp [h1]
          by_cases h2 : a.vote = b.vote
          · have t2 : ((a.vote : Int) == (b.vote : Int)) = true := by simp [h2]
            have t2' : ((a.vote : Int) = (b.vote : Int)) = True := by simp [h2]
            have HE2 : Hid (kE a b = snE a.snap b.snap) := Lib.hid (by rw [HE.out, decide_eq_true h1, decide_eq_true h2]; rfl)
            clear h1 h2 HE
            obtain ⟨r, hr⟩ : ∃ r, r = snE a.snap b.snap := ⟨_, rfl⟩
            rw [← hr] at hsn HE2
            clear hr
            go_wp2_with fail
            go_ret
            exact ⟨by rw [HE2.out]; rfl, HI.out.2.2.next Hb.out⟩
          · have t2 : ((a.vote : Int) == (b.vote : Int)) = false := by simp; omega
            have t2' : ((a.vote : Int) = (b.vote : Int)) = False := by simp; omega
            have HE2 : Hid (kE a b = false) := Lib.hid (by rw [HE.out, decide_eq_false h2]; simp)
            clear h1 h2 HE hsn
            go_wp2_with fail
            go_ret
            exact ⟨by rw [HE2.out]; rfl, HI.out.2.2.next Hb.out⟩
        · have t1 : ((a.trm : Int) == (b.trm : Int)) = false := by simp; omega
          have t1' : ((a.trm : Int) = (b.trm : Int)) = False := by simp; omega
          have HE2 : Hid (kE a b = false) := Lib.hid (by rw [HE.out, decide_eq_false h1]; rfl)
          clear h1 HE hsn
          go_wp2_with fail
          go_ret
          exact ⟨by rw [HE2.out]; rfl, HI.out.2.2.next Hb.out⟩
  · have l1 : ((ps.length : Int) != (qs.length : Int)) = true := by simp; omega
    have l2 : ((ps.length : Int) = (qs.length : Int)) = False := by simp; omega
    have Hfin : Hid (kE a b = false) := Lib.hid (by rw [HK.out, ents_dec hl]; rfl)
    clear hl
    go_wp2_with fail
    go_ret
    exact ⟨by rw [Hfin.out]; rfl, HI.out.2.2⟩

set_option maxRecDepth 100000 in
theorem given9_any (k : St.K) (A : Option Addr) (n c : Nat) (w : World) : Calls Tryz.prog 20 #[.agg (kC k (.slice A n c))] w fun e w' => e = .returned (.agg (kC k (.slice A n c))) ∧ Below w.heap.size w w' := by
  go_enter Tryz.func20, Tryz.ntmps20
  go_upto_region 1 with (fail)
  have hsz : (w.alloc (.cells (kC k (.slice A n c)) 58)).heap.size = w.heap.size + 1 := by simp
  refine forget (fun W1 => Rw W1 w.heap.size (kC k (.slice A n c)) 58 ∧ Rw W1 (w.heap.size + 1) zK 62 ∧ Bl w W1) ⟨(Rw.new w _ _).alloc _, by have := Rw.new (w.alloc (.cells (kC k (.slice A n c)) 58)) zK 62; rw [hsz] at this; exact this, ((Bl.refl w).alloc _).alloc _⟩ ?_
  intro W1 H1
  obtain ⟨g, hg⟩ : ∃ g, g = w.heap.size := ⟨_, rfl⟩
  try rw [hsz]
  rw [← hg] at H1 ⊢
  have HI := Lib.hid H1
  have Hg : Hid (w.heap.size ≤ g) := Lib.hid (by rw [hg]; exact Nat.le_refl _)
  obtain ⟨x0, x1, x2, x3, x4, x5, x6, x7, x8, x9, x10⟩ := kc_cells H1.1
  clear H1 hg hsz
  have hZs : (kC k (.slice A n c)).size = 11 := rfl
  have HZZ : Hid ((kC k (.slice A n c)).all (·.oneCell') = true ∧ (Tryz.prog.info? 62).map (·.size) = some (kC k (.slice A n c)).size) := Lib.hid ⟨kC_one _ _ _ _, by kernel_rfl⟩
  go_wp2_with (first
    | (refine wpList_built rfl 62 _ rfl (kC k (.slice A n c)) (by kernel_rfl) ?_)
    | (refine wpList_store_sub rfl 62 _ _ rfl (g + 1) 0 rfl 62 zK (kC k (.slice A n c)) rfl HI.out.2.1 (Nat.le_refl 11) HZZ.out.2 HZZ.out.1 ?_))
  refine bodyPost_ret (results_cell_row (P := Tryz.prog) (fn := Tryz.f20) rfl _ _ (g + 1) 62 (kC k (.slice A n c)) (0, 0) _ rfl (HI.out.2.1.over rfl) Tryz.underlying62 rfl HZZ.out.2) rfl ?_
  exact ⟨rfl, (HI.out.2.2.puts (by have := Hg.out; omega) _ _).bel⟩
end Go.Proofs.YtjhbpcecdhdnoaaGreatDoor
