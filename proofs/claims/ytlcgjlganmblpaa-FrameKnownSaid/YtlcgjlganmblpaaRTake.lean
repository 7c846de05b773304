/-
  wapentakeref03's taker: byte, number and text walked.
  wapentakeref03.Read: the state between its steps.
  Layer 3's mathematics, third part: a taker's steps one behind the other, and what is read of a list.
  wapentakeref03.Read: a batch's parts while they are read.
-/
import Derived.Test.YtlcgjlganmblpaaRCmd
import Derived.Test.YtlcgjlganmblpaaRWords
import Derived.Laws.OwnMore
set_option linter.unusedSimpArgs false
set_option linter.unusedVariables false
namespace Go.Proofs.Ytlcgjlganmblpaa
open Go.RowKit

namespace Cm
structure Tk where
  l : List UInt8
  ok : Bool
def tB (t : Tk) : Nat × Tk := match t.l with
  | [] => (0, ⟨t.l, false⟩)
  | c :: r => (c.toNat, ⟨r, t.ok⟩)
def tV (t : Tk) : Nat × Tk := match Nm.readV t.l with
  | some (n, k) => (n, ⟨t.l.drop k, t.ok⟩)
  | none => (0, ⟨t.l, false⟩)
def tS (t : Tk) : ByteArray × Tk := match Nm.readS t.l with
  | some (x, k) => (⟨x.toArray⟩, ⟨t.l.drop k, t.ok⟩)
  | none => (e0, ⟨t.l, false⟩)
/-- What is read of a list, by a taker that is well. -/
def opt {α : Type} (x : α × Tk) : Option (α × List UInt8) := if x.2.ok then some (x.1, x.2.l) else none
theorem opt_B (l : List UInt8) : rdB l = opt (tB ⟨l, true⟩) := by cases l <;> rfl
theorem opt_V (l : List UInt8) : rdV l = opt (tV ⟨l, true⟩) := by
  unfold rdV tV opt; simp only []; rcases Nm.readV l with _ | ⟨n, k⟩ <;> rfl
theorem opt_S (l : List UInt8) : rdS l = opt (tS ⟨l, true⟩) := by
  unfold rdS tS opt; simp only []; rcases Nm.readS l with _ | ⟨n, k⟩ <;> rfl
theorem bad_B (l : List UInt8) : (tB ⟨l, false⟩).2.ok = false := by cases l <;> rfl
theorem bad_V (l : List UInt8) : (tV ⟨l, false⟩).2.ok = false := by
  unfold tV; simp only []; rcases Nm.readV l with _ | ⟨n, k⟩ <;> rfl
theorem bad_S (l : List UInt8) : (tS ⟨l, false⟩).2.ok = false := by
  unfold tS; simp only []; rcases Nm.readS l with _ | ⟨n, k⟩ <;> rfl
theorem lt_B (t : Tk) : (tB t).1 < 256 := by
  unfold tB; split
  · simp
  · exact UInt8.toNat_lt _
theorem lt_V (t : Tk) : (tV t).1 < Nm.top := by
  unfold tV; split
  · rename_i h; exact (Nm.readV_le h).1
  · simp [Nm.top]
theorem len_B (t : Tk) : (tB t).2.l.length ≤ t.l.length := by
  unfold tB; split
  · simp
  · rename_i h; rw [h]; simp
theorem len_V (t : Tk) : (tV t).2.l.length ≤ t.l.length := by unfold tV; split <;> simp
theorem len_S (t : Tk) : (tS t).2.l.length ≤ t.l.length := by unfold tS; split <;> simp
theorem size_S (t : Tk) : (tS t).1.size ≤ t.l.length := by
  unfold tS; split
  · rename_i x k h
    obtain ⟨_, hl, hk⟩ := readS_some h
    have := congrArg List.length hl
    rw [List.length_append] at this
    have h2 : (row x).length = (Nm.grp x.length).length + x.length := by unfold row; rw [List.length_append]
    rw [Lib.size_eq]; simp only; omega
  · show (0 : Nat) ≤ _; omega
end Cm

/-- Of the blocks that were there only g may have turned. -/
structure Only (g : Nat) (w w' : World) : Prop where
  os : w'.os = w.os
  tape : w'.tape = w.tape
  output : w'.output = w.output
  size : w.heap.size ≤ w'.heap.size
  block : ∀ k, k < w.heap.size → k ≠ g → w'.heap[k]? = w.heap[k]?
theorem Only.of {g : Nat} {w w' : World} (h : Below w.heap.size w w') : Only g w w' := ⟨h.os, h.tape, h.output, h.size, fun k hk _ => h.block k hk⟩
theorem Only.trans {g : Nat} {a b c : World} (h : Only g a b) (k : Only g b c) : Only g a c :=
  ⟨k.os.trans h.os, k.tape.trans h.tape, k.output.trans h.output, Nat.le_trans h.size k.size, fun i hi hg => (k.block i (Nat.lt_of_lt_of_le hi h.size) hg).trans (h.block i hi hg)⟩
theorem Only.set {g : Nat} {w w' : World} (h : Only g w w') (i : Nat) (v : Value) : Only g w (w'.setCell ⟨g, i, none⟩ v) :=
  ⟨h.os, h.tape, h.output, by simpa using h.size, fun k hk hg => (Below.heap_setCell _ _ _ _ (by simpa using hg)).trans (h.block k hk hg)⟩
theorem Only.below {g : Nat} {a w w' : World} (h : Below a.heap.size a w) (hg : a.heap.size ≤ g) (k : Only g w w') : Below a.heap.size a w' :=
  ⟨k.os.trans h.os, k.tape.trans h.tape, k.output.trans h.output, Nat.le_trans h.size k.size, fun i hi => (k.block i (Nat.lt_of_lt_of_le hi h.size) (by omega)).trans (h.block i hi)⟩

/-- A taker that lies in block g. -/
def TkAt (W : World) (g : Nat) (t : Cm.Tk) : Prop := W.heap[g]? = some (.cells #[.string ⟨t.l.toArray⟩, .bool t.ok] 116 (0, 0))
theorem TkAt.s {W : World} {g : Nat} {t : Cm.Tk} (h : TkAt W g t) : W.cell? ⟨g, 0, none⟩ = some (.string ⟨t.l.toArray⟩) := cell_of_row W g 0 _ _ _ h
theorem TkAt.k {W : World} {g : Nat} {t : Cm.Tk} (h : TkAt W g t) : W.cell? ⟨g, 1, none⟩ = some (.bool t.ok) := cell_of_row W g 1 _ _ _ h
theorem TkAt.fz {W : World} {g : Nat} {t : Cm.Tk} (h : TkAt W g t) (i : Nat) : W.frozen? ⟨g, i, none⟩ = false := frozen_of_row W g i _ _ h
theorem TkAt.lt {W : World} {g : Nat} {t : Cm.Tk} (h : TkAt W g t) : g < W.heap.size := (Array.getElem?_eq_some_iff.1 h).1
theorem TkAt.set0 {W : World} {g : Nat} {t : Cm.Tk} (h : TkAt W g t) (l : List UInt8) : TkAt (W.setCell ⟨g, 0, none⟩ (.string ⟨l.toArray⟩)) g ⟨l, t.ok⟩ := heap_setCell_same W g 0 _ _ _ h
theorem TkAt.set1 {W : World} {g : Nat} {t : Cm.Tk} (h : TkAt W g t) (b : Bool) : TkAt (W.setCell ⟨g, 1, none⟩ (.bool b)) g ⟨t.l, b⟩ := heap_setCell_same W g 1 _ _ _ h
theorem TkAt.below {W W' : World} {g : Nat} {t : Cm.Tk} (h : TkAt W g t) (hb : Below W.heap.size W W') : TkAt W' g t := (hb.block g h.lt).trans h

/-- What a taker's step comes to. -/
def RetT (v : Value) (g : Nat) (t : Cm.Tk) (W : World) (e : Ending) (w' : World) : Prop := e = .returned v ∧ TkAt w' g t ∧ Only g W w'

theorem ext1 (x : UInt8) (r : List UInt8) (s : ByteArray) (hs : s = ⟨(x :: r).toArray⟩) : s.extract 1 s.size = ⟨r.toArray⟩ := by
  subst hs
  apply ByteArray.ext
  apply Array.toList_inj.1
  rw [Lib.extract_data]
  simp [Lib.size_eq]

set_option maxHeartbeats 1000000 in
theorem tkB_any (W : World) (g : Nat) (t : Cm.Tk) (h : TkAt W g t) (hl : t.l.length ≤ 1000000000) :
    Calls Try.prog 71 #[.pointer (some ⟨g, 0, none⟩)] W (RetT (.int .i64 ((Cm.tB t).1 : Int)) g (Cm.tB t).2 W) := by
  have c0 := h.s
  have c1 := h.k
  have f0 := h.fz 0
  have f1 := h.fz 1
  have H := Lib.hid h
  obtain ⟨s, hs⟩ : ∃ s : ByteArray, s = ⟨t.l.toArray⟩ := ⟨_, rfl⟩
  have hz : s.size = t.l.length := by rw [hs, Lib.size_eq]
  rw [← hs] at c0
  rcases hl0 : t.l with _ | ⟨x, r⟩
  · have e : Cm.tB t = (0, ⟨t.l, false⟩) := by unfold Cm.tB; rw [hl0]
    have E := Lib.hid e
    rw [hl0] at hz
    have hz0 : ((s.size : Int) == 0) = true := by rw [hz]; rfl
    clear hl0 hs hz e h
    go_enter Try.func71, Try.ntmps71
    go_wp2
    go_ret
    rw [E.out]
    exact ⟨rfl, H.out.set1 false, (Only.of (Below.refl _ _)).set 1 _⟩
  · have e : Cm.tB t = (x.toNat, ⟨r, t.ok⟩) := by unfold Cm.tB; rw [hl0]
    have E := Lib.hid e
    rw [hl0] at hz hs
    have hp : 0 < s.size := by rw [hz]; simp
    have hx : s[0] = x := by subst hs; rfl
    have hex := ext1 x r s hs
    have Hx := Lib.hid (And.intro hx hex)
    have hz0 : ((s.size : Int) == 0) = false := by rw [beq_eq_false_iff_ne]; omega
    have hw : IntKind.i64.wrap (s[0].toNat : Int) = (s[0].toNat : Int) := IntWalk.i64_in _ (by have := s[0].toNat_lt; omega)
    have hsz : s.size ≤ 1000000000 := by rw [hz]; rw [hl0] at hl; exact hl
    clear hl0 hs hz e h hx hex
    go_enter Try.func71, Try.ntmps71
    go_wp2
    go_ret
    rw [E.out]
    obtain ⟨hx, hex⟩ := Hx.out
    rw [hex]
    exact ⟨by rw [← hx]; rfl, H.out.set0 r, (Only.of (Below.refl _ _)).set 0 _⟩

set_option maxHeartbeats 2000000 in
theorem tkV_any (W : World) (g : Nat) (t : Cm.Tk) (h : TkAt W g t) (hl : t.l.length ≤ 1000000000) :
    Calls Try.prog 72 #[.pointer (some ⟨g, 0, none⟩)] W (RetT (.int .u64 ((Cm.tV t).1 : Int)) g (Cm.tV t).2 W) := by
  have hcall := refReadV_any ⟨t.l.toArray⟩ W (by rw [Lib.size_eq]; simp only; omega)
  simp only [] at hcall
  have H := Lib.hid h
  obtain ⟨s, hs⟩ : ∃ s : ByteArray, s = ⟨t.l.toArray⟩ := ⟨_, rfl⟩
  have hz : s.size = t.l.length := by rw [hs, Lib.size_eq]
  have hsz : s.size ≤ 1000000000 := by omega
  have c0 := h.s
  rw [← hs] at c0 hcall
  obtain ⟨l, ok⟩ := t
  simp only at hcall hz hs
  have hlt := h.lt
  clear h hl
  rcases hr : Nm.readV l with _ | ⟨n, k⟩
  · have e : Cm.tV ⟨l, ok⟩ = (0, ⟨l, false⟩) := by unfold Cm.tV; simp only [hr]
    have E := Lib.hid e
    rw [hr, rv] at hcall
    have HC := Lib.hid hcall
    have Hs := Lib.hid hs
    clear hr hcall e hs hz
    cases ok
    · go_enter Try.func72, Try.ntmps72
      go_wp2_with (go_at_call 48; refine HC.out.mono ?_; rintro e w1 ⟨rfl, hb1⟩; have t1 := H.out.below hb1; have d0 := later hb1 c0; have d1 := t1.k; have f0 := t1.fz 0; have f1 := t1.fz 1)
      go_ret
      rw [E.out]
      exact ⟨rfl, by rw [Hs.out]; exact (t1.set1 false).set0 l, ((Only.of hb1).set 1 _).set 0 _⟩
    · go_enter Try.func72, Try.ntmps72
      go_wp2_with (go_at_call 48; refine HC.out.mono ?_; rintro e w1 ⟨rfl, hb1⟩; have t1 := H.out.below hb1; have d0 := later hb1 c0; have d1 := t1.k; have f0 := t1.fz 0; have f1 := t1.fz 1)
      go_ret
      rw [E.out]
      exact ⟨rfl, by rw [Hs.out]; exact (t1.set1 false).set0 l, ((Only.of hb1).set 1 _).set 0 _⟩
  · have e : Cm.tV ⟨l, ok⟩ = (n, ⟨l.drop k, ok⟩) := by unfold Cm.tV; simp only [hr]
    have E := Lib.hid e
    have hk : k ≤ s.size := by
      rw [hz]
      exact (Nm.readV_le hr).2.2.1
    have hxk : s.extract k s.size = ⟨(l.drop k).toArray⟩ := by
      rw [hs]; apply ByteArray.ext; apply Array.toList_inj.1; rw [Lib.extract_data]; simp [Lib.size_eq]
      exact List.take_of_length_le (by simp)
    have Hx := Lib.hid hxk
    rw [hr, rv] at hcall
    have HC := Lib.hid hcall
    clear hr hcall e hs hz hxk
    cases ok
    · go_enter Try.func72, Try.ntmps72
      go_wp2_with (go_at_call 48; refine HC.out.mono ?_; rintro e w1 ⟨rfl, hb1⟩; have t1 := H.out.below hb1; have d0 := later hb1 c0; have d1 := t1.k; have f0 := t1.fz 0; have f1 := t1.fz 1)
      go_ret
      rw [E.out, Hx.out]
      exact ⟨rfl, (t1.set1 false).set0 (l.drop k), ((Only.of hb1).set 1 _).set 0 _⟩
    · go_enter Try.func72, Try.ntmps72
      go_wp2_with (go_at_call 48; refine HC.out.mono ?_; rintro e w1 ⟨rfl, hb1⟩; have t1 := H.out.below hb1; have d0 := later hb1 c0; have d1 := t1.k; have f0 := t1.fz 0; have f1 := t1.fz 1)
      go_ret
      rw [E.out, Hx.out]
      exact ⟨rfl, (t1.set1 true).set0 (l.drop k), ((Only.of hb1).set 1 _).set 0 _⟩

set_option maxHeartbeats 2000000 in
theorem tkS_any (W : World) (g : Nat) (t : Cm.Tk) (h : TkAt W g t) (hl : t.l.length ≤ 1000000000) :
    Calls Try.prog 73 #[.pointer (some ⟨g, 0, none⟩)] W (RetT (.string (Cm.tS t).1) g (Cm.tS t).2 W) := by
  have hcall := refReadS_any ⟨t.l.toArray⟩ W (by rw [Lib.size_eq]; simp only; omega)
  simp only [] at hcall
  have H := Lib.hid h
  obtain ⟨s, hs⟩ : ∃ s : ByteArray, s = ⟨t.l.toArray⟩ := ⟨_, rfl⟩
  have hz : s.size = t.l.length := by rw [hs, Lib.size_eq]
  have hsz : s.size ≤ 1000000000 := by omega
  have c0 := h.s
  rw [← hs] at c0 hcall
  obtain ⟨l, ok⟩ := t
  simp only at hcall hz hs
  have hlt := h.lt
  clear h hl
  rcases hr : Nm.readS l with _ | ⟨n, k⟩
  · have e : Cm.tS ⟨l, ok⟩ = (Cm.e0, ⟨l, false⟩) := by unfold Cm.tS; simp only [hr]
    have E := Lib.hid e
    rw [hr, rs] at hcall
    have HC := Lib.hid hcall
    have Hs := Lib.hid hs
    clear hr hcall e hs hz
    cases ok
    · go_enter Try.func73, Try.ntmps73
      go_wp2_with (go_at_call 84; refine HC.out.mono ?_; rintro e w1 ⟨rfl, hb1⟩; have t1 := H.out.below hb1; have d0 := later hb1 c0; have d1 := t1.k; have f0 := t1.fz 0; have f1 := t1.fz 1)
      go_ret
      rw [E.out]
      exact ⟨rfl, by rw [Hs.out]; exact (t1.set1 false).set0 l, ((Only.of hb1).set 1 _).set 0 _⟩
    · go_enter Try.func73, Try.ntmps73
      go_wp2_with (go_at_call 84; refine HC.out.mono ?_; rintro e w1 ⟨rfl, hb1⟩; have t1 := H.out.below hb1; have d0 := later hb1 c0; have d1 := t1.k; have f0 := t1.fz 0; have f1 := t1.fz 1)
      go_ret
      rw [E.out]
      exact ⟨rfl, by rw [Hs.out]; exact (t1.set1 false).set0 l, ((Only.of hb1).set 1 _).set 0 _⟩
  · have e : Cm.tS ⟨l, ok⟩ = (⟨n.toArray⟩, ⟨l.drop k, ok⟩) := by unfold Cm.tS; simp only [hr]
    have E := Lib.hid e
    have hk : k ≤ s.size := by
      rw [hz]
      obtain ⟨_, hl, hk⟩ := Cm.readS_some hr
      have := congrArg List.length hl
      rw [List.length_append] at this
      omega
    have hxk : s.extract k s.size = ⟨(l.drop k).toArray⟩ := by
      rw [hs]; apply ByteArray.ext; apply Array.toList_inj.1; rw [Lib.extract_data]; simp [Lib.size_eq]
      exact List.take_of_length_le (by simp)
    have Hx := Lib.hid hxk
    rw [hr, rs] at hcall
    have HC := Lib.hid hcall
    clear hr hcall e hs hz hxk
    cases ok
    · go_enter Try.func73, Try.ntmps73
      go_wp2_with (go_at_call 84; refine HC.out.mono ?_; rintro e w1 ⟨rfl, hb1⟩; have t1 := H.out.below hb1; have d0 := later hb1 c0; have d1 := t1.k; have f0 := t1.fz 0; have f1 := t1.fz 1)
      go_ret
      rw [E.out, Hx.out]
      exact ⟨rfl, (t1.set1 false).set0 (l.drop k), ((Only.of hb1).set 1 _).set 0 _⟩
    · go_enter Try.func73, Try.ntmps73
      go_wp2_with (go_at_call 84; refine HC.out.mono ?_; rintro e w1 ⟨rfl, hb1⟩; have t1 := H.out.below hb1; have d0 := later hb1 c0; have d1 := t1.k; have f0 := t1.fz 0; have f1 := t1.fz 1)
      go_ret
      rw [E.out, Hx.out]
      exact ⟨rfl, (t1.set1 true).set0 (l.drop k), ((Only.of hb1).set 1 _).set 0 _⟩
end Go.Proofs.Ytlcgjlganmblpaa
namespace Go.Proofs.Ytlcgjlganmblpaa
open Go.RowKit

/-- How memory stands while a command is read: the result's row, the taker, the command. -/
structure RdSt (w W : World) (g : Nat) (t : Cm.Tk) (c : Cm.Cmd) (A : Option Addr) (cap : Nat) : Prop where
  b : Below w.heap.size w W
  z : W.heap[w.heap.size]? = some (.cells (cmdC Cm.zero none 0) 30 (0, 0))
  t : TkAt W (w.heap.size + 1) t
  c : W.heap[g]? = some (.cells (cmdC c A cap) 30 (0, 0))
  lo : w.heap.size + 1 < g
  hi : g < W.heap.size
theorem RdSt.call {w W W' : World} {g : Nat} {t t' : Cm.Tk} {c : Cm.Cmd} {A : Option Addr} {cap : Nat} (h : RdSt w W g t c A cap) (ho : Only (w.heap.size + 1) W W') (ht : TkAt W' (w.heap.size + 1) t') : RdSt w W' g t' c A cap :=
  ⟨ho.below h.b (by omega), (ho.block _ (Nat.lt_trans (Nat.lt_trans (by omega) h.lo) h.hi) (by omega)).trans h.z, ht, (ho.block _ h.hi (by have := h.lo; omega)).trans h.c, h.lo, Nat.lt_of_lt_of_le h.hi ho.size⟩
theorem RdSt.grow {w W W' : World} {g : Nat} {t : Cm.Tk} {c : Cm.Cmd} {A : Option Addr} {cap : Nat} (h : RdSt w W g t c A cap) (hb : Below W.heap.size W W') : RdSt w W' g t c A cap :=
  h.call (Only.of hb) (h.t.below hb)
theorem RdSt.cell {w W : World} {g : Nat} {t : Cm.Tk} {c : Cm.Cmd} {A : Option Addr} {cap : Nat} (h : RdSt w W g t c A cap) : CmdAt W g c A cap := cmdAt h.c
theorem RdSt.put {w W : World} {g : Nat} {t : Cm.Tk} {c d : Cm.Cmd} {A B : Option Addr} {cap cb : Nat} (h : RdSt w W g t c A cap) (i : Nat) (v : Value) (hd : (cmdC c A cap).setIfInBounds i v = cmdC d B cb) : RdSt w (W.setCell ⟨g, i, none⟩ v) g t d B cb := by
  have hlo := h.lo
  have hhi := h.hi
  refine ⟨h.b.setCell (p := ⟨g, i, none⟩) (by simp; omega) _, (Below.heap_setCell _ _ _ _ (by simp; omega)).trans h.z, (Below.heap_setCell _ _ _ _ (by simp; omega)).trans h.t, ?_, h.lo, by simpa using h.hi⟩
  rw [heap_setCell_same W g i _ _ v h.c, hd]
theorem set_op (c : Cm.Cmd) (A : Option Addr) (cap : Nat) (x : Nat) : (cmdC c A cap).setIfInBounds 0 (.int .u8 (x : Int)) = cmdC { c with op := x } A cap := by simp [cmdC]
theorem set_ses (c : Cm.Cmd) (A : Option Addr) (cap : Nat) (x : Nat) : (cmdC c A cap).setIfInBounds 1 (.int .u64 (x : Int)) = cmdC { c with ses := x } A cap := by simp [cmdC]
theorem set_seq (c : Cm.Cmd) (A : Option Addr) (cap : Nat) (x : Nat) : (cmdC c A cap).setIfInBounds 2 (.int .u64 (x : Int)) = cmdC { c with seq := x } A cap := by simp [cmdC]
theorem set_key (c : Cm.Cmd) (A : Option Addr) (cap : Nat) (x : ByteArray) : (cmdC c A cap).setIfInBounds 3 (.string x) = cmdC { c with key := x } A cap := by simp [cmdC]
theorem set_val (c : Cm.Cmd) (A : Option Addr) (cap : Nat) (x : ByteArray) : (cmdC c A cap).setIfInBounds 4 (.string x) = cmdC { c with val := x } A cap := by simp [cmdC]
theorem set_exp (c : Cm.Cmd) (A : Option Addr) (cap : Nat) (x : ByteArray) : (cmdC c A cap).setIfInBounds 5 (.string x) = cmdC { c with exp := x } A cap := by simp [cmdC]
theorem set_frm (c : Cm.Cmd) (A : Option Addr) (cap : Nat) (x : ByteArray) : (cmdC c A cap).setIfInBounds 6 (.string x) = cmdC { c with frm := x } A cap := by simp [cmdC]
theorem set_tto (c : Cm.Cmd) (A : Option Addr) (cap : Nat) (x : ByteArray) : (cmdC c A cap).setIfInBounds 7 (.string x) = cmdC { c with tto := x } A cap := by simp [cmdC]
theorem set_lim (c : Cm.Cmd) (A : Option Addr) (cap : Nat) (x : Nat) : (cmdC c A cap).setIfInBounds 8 (.int .u8 (x : Int)) = cmdC { c with lim := x } A cap := by simp [cmdC]
theorem set_lease (c : Cm.Cmd) (A : Option Addr) (cap : Nat) (x : Nat) : (cmdC c A cap).setIfInBounds 9 (.int .u64 (x : Int)) = cmdC { c with lease := x } A cap := by simp [cmdC]
theorem set_ttl (c : Cm.Cmd) (A : Option Addr) (cap : Nat) (x : Nat) : (cmdC c A cap).setIfInBounds 10 (.int .u64 (x : Int)) = cmdC { c with ttl := x } A cap := by simp [cmdC]
end Go.Proofs.Ytlcgjlganmblpaa
namespace Go.Proofs.Ytlcgjlganmblpaa
namespace Cm

/-- A taker t comes by some steps to t', with x taken: what is read of its list. -/
structure G {α : Type} (t : Tk) (o : Option (α × List UInt8)) (x : α) (t' : Tk) : Prop where
  bad : t.ok = false → t'.ok = false
  good : t.ok = true → o = opt (x, t')
theorem G.bind {α β : Type} {t t' t'' : Tk} {o : Option (α × List UInt8)} {f : α × List UInt8 → Option (β × List UInt8)} {x : α} {y : β} (h : G t o x t') (k : G t' (f (x, t'.l)) y t'') : G t (o.bind f) y t'' := by
  refine ⟨fun e => k.bad (h.bad e), fun e => ?_⟩
  rw [h.good e]
  by_cases e2 : t'.ok = true
  · rw [← k.good e2]; simp [opt, e2]
  · have e3 : t'.ok = false := by simpa using e2
    simp [opt, e3, k.bad e3]
theorem G.pure {α : Type} (t : Tk) (x : α) : G t (some (x, t.l)) x t := ⟨fun e => e, fun e => by simp [opt, e]⟩
theorem G.B {t t' : Tk} {n : Nat} (h : tB t = (n, t')) : G t (rdB t.l) n t' := by
  obtain ⟨l, ok⟩ := t
  refine ⟨fun e => ?_, fun e => ?_⟩
  · simp only at e; subst e; have := bad_B l; rw [h] at this; exact this
  · simp only at e; subst e; rw [opt_B, h]
theorem G.V {t t' : Tk} {n : Nat} (h : tV t = (n, t')) : G t (rdV t.l) n t' := by
  obtain ⟨l, ok⟩ := t
  refine ⟨fun e => ?_, fun e => ?_⟩
  · simp only at e; subst e; have := bad_V l; rw [h] at this; exact this
  · simp only at e; subst e; rw [opt_V, h]
theorem G.S {t t' : Tk} {s : ByteArray} (h : tS t = (s, t')) : G t (rdS t.l) s t' := by
  obtain ⟨l, ok⟩ := t
  refine ⟨fun e => ?_, fun e => ?_⟩
  · simp only at e; subst e; have := bad_S l; rw [h] at this; exact this
  · simp only at e; subst e; rw [opt_S, h]

theorem rdBody1 {op ses seq : Nat} {l : List UInt8} (h : op = 1 ∨ op = 6) : rdBody op ses seq l = (rdV l).bind fun (t, l) => some (⟨op, ses, seq, e0, e0, e0, e0, e0, 0, 0, t, []⟩, l) := by unfold rdBody; rw [if_pos h]
theorem rdBody2 {op ses seq : Nat} {l : List UInt8} (h : op = 2) : rdBody op ses seq l = (rdS l).bind fun (k, l) => (rdS l).bind fun (v, l) => (rdV l).bind fun (z, l) => some (⟨op, ses, seq, k, v, e0, e0, e0, 0, z, 0, []⟩, l) := by unfold rdBody; rw [if_neg (by omega), if_pos h]
theorem rdBody3 {op ses seq : Nat} {l : List UInt8} (h : op = 3 ∨ op = 8) : rdBody op ses seq l = (rdS l).bind fun (k, l) => some (⟨op, ses, seq, k, e0, e0, e0, e0, 0, 0, 0, []⟩, l) := by unfold rdBody; rw [if_neg (by omega), if_neg (by omega), if_pos h]
theorem rdBody4 {op ses seq : Nat} {l : List UInt8} (h : op = 4) : rdBody op ses seq l = (rdS l).bind fun (k, l) => (rdS l).bind fun (x, l) => (rdS l).bind fun (v, l) => some (⟨op, ses, seq, k, v, x, e0, e0, 0, 0, 0, []⟩, l) := by unfold rdBody; rw [if_neg (by omega), if_neg (by omega), if_neg (by omega), if_pos h]
theorem rdBody5 {op ses seq : Nat} {l : List UInt8} (h : op = 5) : rdBody op ses seq l = (rdB l).bind fun (n, l) => (rdParts n l).bind fun (ps, l) => some (⟨op, ses, seq, e0, e0, e0, e0, e0, 0, 0, 0, ps⟩, l) := by unfold rdBody; rw [if_neg (by omega), if_neg (by omega), if_neg (by omega), if_neg (by omega), if_pos h]
theorem rdBody7 {op ses seq : Nat} {l : List UInt8} (h : op = 7) : rdBody op ses seq l = (rdV l).bind fun (z, l) => some (⟨op, ses, seq, e0, e0, e0, e0, e0, 0, z, 0, []⟩, l) := by unfold rdBody; rw [if_neg (by omega), if_neg (by omega), if_neg (by omega), if_neg (by omega), if_neg (by omega), if_pos h]
theorem rdBody9 {op ses seq : Nat} {l : List UInt8} (h : op = 9) : rdBody op ses seq l = (rdS l).bind fun (f, l) => (rdS l).bind fun (t, l) => (rdB l).bind fun (n, l) => some (⟨op, ses, seq, e0, e0, e0, f, t, n, 0, 0, []⟩, l) := by unfold rdBody; rw [if_neg (by omega), if_neg (by omega), if_neg (by omega), if_neg (by omega), if_neg (by omega), if_neg (by omega), if_pos h]
theorem rdBody0 {op ses seq : Nat} {l : List UInt8} (h : op = 0 ∨ 9 < op) : rdBody op ses seq l = some (⟨op, ses, seq, e0, e0, e0, e0, e0, 0, 0, 0, []⟩, l) := by unfold rdBody; rw [if_neg (by omega), if_neg (by omega), if_neg (by omega), if_neg (by omega), if_neg (by omega), if_neg (by omega), if_neg (by omega)]

/-- The whole of it. -/
theorem G.parse {t0 t1 t2 t3 t : Tk} {n m1 m2 : Nat} {c : Cmd} (h0 : tB t0 = (n, t1)) (h1 : tV t1 = (m1, t2)) (h2 : tV t2 = (m2, t3)) (h : G t3 (rdBody n m1 m2 t3.l) c t) : G t0 (Cm.parse t0.l) c t :=
  (G.B h0).bind ((G.V h1).bind ((G.V h2).bind h))
theorem G.read {l : List UInt8} {t : Tk} {c : Cmd} (h : G ⟨l, true⟩ (Cm.parse l) c t) : Cm.read l = if t.ok = true ∧ t.l = [] ∧ may c = true then some c else none := by
  unfold Cm.read
  rw [h.good rfl]
  by_cases e : t.ok = true
  · simp [opt, e]
  · simp [opt, e]
theorem G.shape {l : List UInt8} {t : Tk} {c : Cmd} (h : G ⟨l, true⟩ (Cm.parse l) c t) (hk : t.ok = true) (hl : t.l = []) : Shape c ∧ l = bytes c := by
  have e := h.good rfl
  rw [opt, hk, hl] at e
  obtain ⟨h1, h2⟩ := (parse_iff _ _ _).1 e
  exact ⟨h1, by rw [h2, List.append_nil]⟩
end Cm
end Go.Proofs.Ytlcgjlganmblpaa
namespace Go.Proofs.Ytlcgjlganmblpaa
open Go.RowKit

namespace Cm
/-- k parts of N are taken. -/
structure PI (q : Tk) (N k : Nat) (ps : List Part) (t : Tk) : Prop where
  bad : q.ok = false → t.ok = false
  no : q.ok = true → t.ok = false → rdParts N q.l = none
  yes : q.ok = true → t.ok = true → rdParts N q.l = (rdParts (N - k) t.l).bind fun x => some (ps ++ x.1, x.2)
theorem PI.start (q : Tk) (N : Nat) : PI q N 0 [] q := by
  refine ⟨fun h => h, fun h k => ?_, fun _ _ => ?_⟩
  · rw [h] at k; cases k
  · rw [Nat.sub_zero]
    rcases h : rdParts N q.l with _ | ⟨a, b⟩
    · rfl
    · rfl
theorem PI.step {q : Tk} {N k : Nat} {ps : List Part} {t t' : Tk} {p : Part} (h : PI q N k ps t) (hk : k < N) (ht : t.ok = true) (hp : G t (rdPart t.l) p t') : PI q N (k + 1) (ps ++ [p]) t' := by
  have e : N - k = (N - (k + 1)) + 1 := by omega
  have hr := hp.good ht
  refine ⟨fun hq => ?_, fun hq ht' => ?_, fun hq ht' => ?_⟩
  · have := h.bad hq; rw [ht] at this; cases this
  · rw [h.yes hq ht, e, rdParts, hr, opt, ht']; rfl
  · rw [h.yes hq ht, e, rdParts, hr, opt, ht']
    simp only [if_true, Option.bind_some]
    rcases hx : rdParts (N - (k + 1)) t'.l with _ | ⟨a, b⟩
    · rfl
    · simp
theorem PI.fin {q : Tk} {N k : Nat} {ps : List Part} {t : Tk} (h : PI q N k ps t) (he : t.ok = false ∨ k = N) : G q (rdParts N q.l) ps t := by
  refine ⟨h.bad, fun hq => ?_⟩
  by_cases ht : t.ok = true
  · have hk : k = N := by rcases he with e | e; (rw [ht] at e; cases e); exact e
    rw [h.yes hq ht, hk, Nat.sub_self]
    simp [rdParts, opt, ht]
  · have ht' : t.ok = false := by simpa using ht
    rw [h.no hq ht', opt, ht']; rfl
theorem G.part {t t1 t2 : Tk} {op : Nat} {k : ByteArray} (h1 : tB t = (op, t1)) (h2 : tS t1 = (k, t2)) (h : op ≠ 2) : G t (rdPart t.l) ⟨op, k, e0⟩ t2 := by
  unfold rdPart
  refine (G.B h1).bind ((G.S h2).bind ?_)
  simp only [h, if_false]
  exact G.pure _ _
theorem G.part2 {t t1 t2 t3 : Tk} {op : Nat} {k v : ByteArray} (h1 : tB t = (op, t1)) (h2 : tS t1 = (k, t2)) (h3 : tS t2 = (v, t3)) (h : op = 2) : G t (rdPart t.l) ⟨op, k, v⟩ t3 := by
  unfold rdPart
  refine (G.B h1).bind ((G.S h2).bind ?_)
  simp only [h, if_true]
  exact (G.S h3).bind (G.pure _ _)
end Cm

theorem Only.grown {g : Nat} {w w' : World} (h : Only g w w') : w.grownBy w' (some g) := ⟨h.os, h.tape, h.output, h.size, fun k hk hne => h.block k hk (fun e => hne (by rw [e]))⟩
theorem Only.high {g b : Nat} {w w' : World} (h : Only g w w') (hb : w.heap.size ≤ b) (i : Nat) (v : Value) : Only g w (w'.setCell ⟨b, i, none⟩ v) :=
  ⟨h.os, h.tape, h.output, by simpa using h.size, fun k hk hg => (Below.heap_setCell _ _ _ _ (by simp; omega)).trans (h.block k hk hg)⟩

/-- The state, with the parts so far in memory of their own. -/
structure BS (w W : World) (g : Nat) (t : Cm.Tk) (c : Cm.Cmd) (A : Option Addr) (cap : Nat) : Prop where
  st : RdSt w W g t c A cap
  own : W.ownsRow (g + 1) 91 3 (.slice A c.parts.length cap) c.parts.length (pc c.parts)
theorem BS.call {w W W' : World} {g : Nat} {t t' : Cm.Tk} {c : Cm.Cmd} {A : Option Addr} {cap : Nat} (h : BS w W g t c A cap) (ho : Only (w.heap.size + 1) W W') (ht : TkAt W' (w.heap.size + 1) t') : BS w W' g t' c A cap := by
  refine ⟨h.st.call ho ht, h.own.kept ho.grown ?_⟩
  rcases e : (Value.slice A c.parts.length cap).ownBlock with _ | k
  · exact .inl rfl
  · refine .inr fun e2 => ?_
    injection e2 with e2
    have := (h.own.lt k e).1
    have := h.st.lo
    omega
/-- The memory that an append has left. -/
theorem RdSt.grown {w W W' : World} {g : Nat} {t : Cm.Tk} {c : Cm.Cmd} {A : Option Addr} {cap : Nat} {row : Option Nat} (h : RdSt w W g t c A cap) (hg : W.grownBy W' row) (hr : ∀ k, row = some k → g + 1 ≤ k) : RdSt w W' g t c A cap := by
  have hlo := h.lo
  have hhi := h.hi
  have key : ∀ k, k ≤ g → W'.heap[k]? = W.heap[k]? := fun k hk => hg.block k (by omega) (fun e => by have := hr k e.symm; omega)
  have hsz : w.heap.size ≤ W.heap.size := h.b.size
  exact ⟨h.b.grown hg hsz (fun k e => by have := hr k e; omega), (key _ (by omega)).trans h.z, (key _ (by omega)).trans h.t, (key _ (by omega)).trans h.c, h.lo, Nat.lt_of_lt_of_le h.hi hg.size⟩
theorem set_parts (c : Cm.Cmd) (A B : Option Addr) (cap cb n : Nat) (ps : List Cm.Part) (hn : n = ps.length) : (cmdC c A cap).setIfInBounds 11 (.slice B n cb) = cmdC { c with parts := ps } B cb := by subst hn; simp [cmdC]
theorem Try.infoPart : (Try.prog.info? 91).map (fun i => (i.zero, i.size, i.bytes)) = some (some (.agg #[.int .u8 0, .string ⟨#[]⟩, .string ⟨#[]⟩]), 3, 40) := by kernel_rfl
theorem own_lies {W : World} {base : Nat} {A : Option Addr} {cap : Nat} {ps : List Cm.Part} (h : W.ownsRow base 91 3 (.slice A ps.length cap) ps.length (pc ps)) : Lies W A (pc ps) ∧ ∀ b off, A = some ⟨b, off, none⟩ → base ≤ b := by
  rcases h.2 with ⟨e, hn⟩ | ⟨g, cap', cur, e, hb, hg, _, _, hcs, htake⟩
  · have : ps = [] := List.eq_nil_of_length_eq_zero hn
    subst this
    injection e with e1
    subst e1
    exact ⟨.inl rfl, fun b off h => by cases h⟩
  · injection e with e1 e2 e3
    subst e1
    refine ⟨.inr ⟨g, 0, rfl, (Array.getElem?_eq_some_iff.1 hg).1, fun i u hu => ?_⟩, fun b off h => by injection h with h; injection h with h; omega⟩
    have := h.cells (g := g) rfl i u hu
    have e : (⟨g, 0, none⟩ : Addr).add i = ⟨g, 0 + i, none⟩ := by unfold Addr.add; split <;> simp_all
    rwa [e] at this
end Go.Proofs.Ytlcgjlganmblpaa
