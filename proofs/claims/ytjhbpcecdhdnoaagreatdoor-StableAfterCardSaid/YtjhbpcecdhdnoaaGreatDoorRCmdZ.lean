/-
  The plain mathematics of layer 3 (cmd): commands, their bytes, and how they are read. No program is named here.
  A token's eight bytes. No program is named here.
  Tokens held against each other.
  A text copied over a token's eight cells.
  What a truth of a call says; tokens and texts held against each other.
-/
import Derived.Test.YtjhbpcecdhdnoaaGreatDoorRWords
import Derived.ChangeKeysEq
import Derived.Laws.StructEq
import Derived.Laws.IdiomCopy
import Derived.Lib.BufferWrite
set_option linter.unusedSimpArgs false
set_option linter.unusedVariables false
namespace Go.Proofs.YtjhbpcecdhdnoaaGreatDoor
namespace Cm

/-! Readers of a list of bytes: what is read, and what is left. -/
def rdB : List UInt8 → Option (Nat × List UInt8)
  | [] => none
  | c :: r => some (c.toNat, r)
def rdV (l : List UInt8) : Option (Nat × List UInt8) := match Nm.readV l with
  | some (n, k) => some (n, l.drop k)
  | none => none
def rdS (l : List UInt8) : Option (ByteArray × List UInt8) := match Nm.readS l with
  | some (x, k) => some (⟨x.toArray⟩, l.drop k)
  | none => none

def txt (s : ByteArray) : List UInt8 := row s.data.toList
def one (n : Nat) : List UInt8 := [Nm.b8 n]

theorem rdB_iff (l : List UInt8) (n : Nat) (r : List UInt8) : rdB l = some (n, r) ↔ n < 256 ∧ l = one n ++ r := by
  unfold one
  cases l with
  | nil => simp [rdB]
  | cons c t =>
    have hc := c.toNat_lt
    simp only [rdB, Option.some.injEq, Prod.mk.injEq, List.singleton_append, List.cons.injEq]
    constructor
    · rintro ⟨rfl, rfl⟩; exact ⟨hc, (Nm.b8_of c _ rfl).symm, rfl⟩
    · rintro ⟨h, rfl, rfl⟩; exact ⟨Nm.b8_toNat n h, rfl⟩
theorem rdV_iff (l : List UInt8) (n : Nat) (r : List UInt8) : rdV l = some (n, r) ↔ n < Nm.top ∧ l = Nm.grp n ++ r := by
  unfold rdV
  constructor
  · intro h
    rcases hv : Nm.readV l with _ | ⟨m, k⟩
    · rw [hv] at h; cases h
    · rw [hv] at h
      simp only [Option.some.injEq, Prod.mk.injEq] at h
      obtain ⟨rfl, rfl⟩ := h
      obtain ⟨hn, r, hl, hk⟩ := (Nm.readV_iff _ _ _).1 hv
      exact ⟨hn, by rw [hl, hk, List.drop_left' rfl]⟩
  · rintro ⟨hn, rfl⟩
    rw [Nm.readV_grp n hn]
    simp
theorem readS_row (l r : List UInt8) (h : l.length < Nm.top) : Nm.readS (row l ++ r) = some (l, (row l).length) := by
  unfold Nm.readS row
  rw [List.append_assoc, Nm.readV_grp _ h]
  simp only []
  rw [if_pos (by simp)]
  simp
theorem readS_some {l : List UInt8} {x : List UInt8} {k : Nat} (h : Nm.readS l = some (x, k)) : x.length < Nm.top ∧ l = row x ++ l.drop k ∧ k = (row x).length := by
  unfold Nm.readS at h
  rcases hv : Nm.readV l with _ | ⟨n, j⟩
  · rw [hv] at h; cases h
  · rw [hv] at h
    simp only [] at h
    obtain ⟨hn, r, hl, hj⟩ := (Nm.readV_iff _ _ _).1 hv
    by_cases hle : n ≤ l.length - j
    · rw [if_pos hle] at h
      simp only [Option.some.injEq, Prod.mk.injEq] at h
      obtain ⟨rfl, rfl⟩ := h
      have hd : l.drop j = r := by rw [hl, hj, List.drop_left' rfl]
      have hlen : l.length = j + r.length := by rw [hl, hj, List.length_append]
      have hx : (r.take n).length = n := by rw [List.length_take]; omega
      rw [hd]
      unfold row
      refine ⟨by omega, ?_, by rw [List.length_append, hx, ← hj]⟩
      rw [← List.drop_drop, hd, hx, List.append_assoc, List.take_append_drop]
      exact hl
    · rw [if_neg hle] at h; cases h
theorem rdS_iff (l : List UInt8) (s : ByteArray) (r : List UInt8) : rdS l = some (s, r) ↔ s.size < Nm.top ∧ l = txt s ++ r := by
  unfold rdS txt
  constructor
  · intro h
    rcases hv : Nm.readS l with _ | ⟨x, k⟩
    · rw [hv] at h; cases h
    · rw [hv] at h
      simp only [Option.some.injEq, Prod.mk.injEq] at h
      obtain ⟨rfl, rfl⟩ := h
      obtain ⟨hn, hl, hk⟩ := readS_some hv
      exact ⟨by rw [Lib.size_eq]; simpa using hn, by simpa using hl⟩
  · rintro ⟨hn, rfl⟩
    rw [readS_row _ _ (by rw [← Lib.size_eq]; exact hn)]
    simp

/-! Commands. -/
structure Part where
  op : Nat
  key : ByteArray
  val : ByteArray
structure Cmd where
  op : Nat
  ses : Nat
  seq : Nat
  key : ByteArray
  val : ByteArray
  exp : ByteArray
  frm : ByteArray
  tto : ByteArray
  lim : Nat
  lease : Nat
  ttl : Nat
  parts : List Part

def e0 : ByteArray := ⟨#[]⟩
def zero : Cmd := ⟨0, 0, 0, e0, e0, e0, e0, e0, 0, 0, 0, []⟩

structure Fits (c : Cmd) : Prop where
  op : c.op < 256
  ses : c.ses < Nm.top
  seq : c.seq < Nm.top
  lim : c.lim < 256
  lease : c.lease < Nm.top
  ttl : c.ttl < Nm.top
  parts : ∀ p ∈ c.parts, p.op < 256

theorem zero_fits : Fits zero := ⟨by decide, by decide, by decide, by decide, by decide, by decide, fun p hp => by cases hp⟩

def plain (c : Cmd) : Cmd :=
  if c.op = 1 ∨ c.op = 6 then ⟨c.op, c.ses, c.seq, e0, e0, e0, e0, e0, 0, 0, c.ttl, []⟩
  else if c.op = 2 then ⟨c.op, c.ses, c.seq, c.key, c.val, e0, e0, e0, 0, c.lease, 0, []⟩
  else if c.op = 3 ∨ c.op = 8 then ⟨c.op, c.ses, c.seq, c.key, e0, e0, e0, e0, 0, 0, 0, []⟩
  else if c.op = 4 then ⟨c.op, c.ses, c.seq, c.key, c.val, c.exp, e0, e0, 0, 0, 0, []⟩
  else if c.op = 5 then ⟨c.op, c.ses, c.seq, e0, e0, e0, e0, e0, 0, 0, 0, c.parts⟩
  else if c.op = 7 then ⟨c.op, c.ses, c.seq, e0, e0, e0, e0, e0, 0, c.lease, 0, []⟩
  else if c.op = 9 then ⟨c.op, c.ses, c.seq, e0, e0, e0, c.frm, c.tto, c.lim, 0, 0, []⟩
  else ⟨c.op, c.ses, c.seq, e0, e0, e0, e0, e0, 0, 0, 0, []⟩

def partB (p : Part) : List UInt8 := one p.op ++ txt p.key ++ if p.op = 2 then txt p.val else []
def partsB (ps : List Part) : List UInt8 := (ps.map partB).flatten
def body (c : Cmd) : List UInt8 :=
  if c.op = 1 ∨ c.op = 6 then Nm.grp c.ttl
  else if c.op = 2 then txt c.key ++ txt c.val ++ Nm.grp c.lease
  else if c.op = 3 ∨ c.op = 8 then txt c.key
  else if c.op = 4 then txt c.key ++ txt c.exp ++ txt c.val
  else if c.op = 5 then one c.parts.length ++ partsB c.parts
  else if c.op = 7 then Nm.grp c.lease
  else if c.op = 9 then txt c.frm ++ txt c.tto ++ one c.lim
  else []
def head (c : Cmd) : List UInt8 := one c.op ++ Nm.grp c.ses ++ Nm.grp c.seq
def bytes (c : Cmd) : List UInt8 := head c ++ body c

/-! Are two the same? -/
def eqS (a b : ByteArray) : Bool := a.toList == b.toList
def sameP (a b : Part) : Bool := a.op == b.op && (eqS a.key b.key && eqS a.val b.val)
def sameL : List Part → List Part → Bool
  | [], [] => true
  | a :: l, b :: m => sameP a b && sameL l m
  | _, _ => false
def sameF (a b : Cmd) : Bool :=
  a.op == b.op && (a.ses == b.ses && (a.seq == b.seq && (eqS a.key b.key && (eqS a.val b.val && (eqS a.exp b.exp && (eqS a.frm b.frm && (eqS a.tto b.tto && (a.lim == b.lim && (a.lease == b.lease && (a.ttl == b.ttl && a.parts.length == b.parts.length))))))))))
def same (a b : Cmd) : Bool := sameF a b && sameL a.parts b.parts

/-! Which may be. -/
def okPart (p : Part) : Bool := p.op == 2 || (p.op == 3 && eqS p.val e0)
def may (c : Cmd) : Bool :=
  decide (1 ≤ c.op ∧ c.op ≤ 11) && (same c (plain c) && ((c.op != 5 || decide (1 ≤ c.parts.length ∧ c.parts.length ≤ 4)) && c.parts.all okPart))
def write (c : Cmd) : List UInt8 := if may c then bytes c else []

/-! How they are read. -/
def rdPart (l : List UInt8) : Option (Part × List UInt8) :=
  (rdB l).bind fun (op, l) => (rdS l).bind fun (k, l) => if op = 2 then (rdS l).bind fun (v, l) => some (⟨op, k, v⟩, l) else some (⟨op, k, e0⟩, l)
def rdParts : Nat → List UInt8 → Option (List Part × List UInt8)
  | 0, l => some ([], l)
  | n + 1, l => (rdPart l).bind fun (p, l) => (rdParts n l).bind fun (ps, l) => some (p :: ps, l)
def rdBody (op ses seq : Nat) (l : List UInt8) : Option (Cmd × List UInt8) :=
  if op = 1 ∨ op = 6 then (rdV l).bind fun (t, l) => some (⟨op, ses, seq, e0, e0, e0, e0, e0, 0, 0, t, []⟩, l)
  else if op = 2 then (rdS l).bind fun (k, l) => (rdS l).bind fun (v, l) => (rdV l).bind fun (z, l) => some (⟨op, ses, seq, k, v, e0, e0, e0, 0, z, 0, []⟩, l)
  else if op = 3 ∨ op = 8 then (rdS l).bind fun (k, l) => some (⟨op, ses, seq, k, e0, e0, e0, e0, 0, 0, 0, []⟩, l)
  else if op = 4 then (rdS l).bind fun (k, l) => (rdS l).bind fun (x, l) => (rdS l).bind fun (v, l) => some (⟨op, ses, seq, k, v, x, e0, e0, 0, 0, 0, []⟩, l)
  else if op = 5 then (rdB l).bind fun (n, l) => (rdParts n l).bind fun (ps, l) => some (⟨op, ses, seq, e0, e0, e0, e0, e0, 0, 0, 0, ps⟩, l)
  else if op = 7 then (rdV l).bind fun (z, l) => some (⟨op, ses, seq, e0, e0, e0, e0, e0, 0, z, 0, []⟩, l)
  else if op = 9 then (rdS l).bind fun (f, l) => (rdS l).bind fun (t, l) => (rdB l).bind fun (n, l) => some (⟨op, ses, seq, e0, e0, e0, f, t, n, 0, 0, []⟩, l)
  else some (⟨op, ses, seq, e0, e0, e0, e0, e0, 0, 0, 0, []⟩, l)
def parse (l : List UInt8) : Option (Cmd × List UInt8) :=
  (rdB l).bind fun (op, l) => (rdV l).bind fun (ses, l) => (rdV l).bind fun (seq, l) => rdBody op ses seq l
def read (l : List UInt8) : Option Cmd := (parse l).bind fun (c, r) => if r = [] ∧ may c = true then some c else none

end Cm
end Go.Proofs.YtjhbpcecdhdnoaaGreatDoor
namespace Go.Proofs.YtjhbpcecdhdnoaaGreatDoor
theorem eight_of {l : List UInt8} (h : l.length = 8) : ∃ a0 a1 a2 a3 a4 a5 a6 a7, l = [a0, a1, a2, a3, a4, a5, a6, a7] := by
  match l, h with
  | [a0, a1, a2, a3, a4, a5, a6, a7], _ => exact ⟨a0, a1, a2, a3, a4, a5, a6, a7, rfl⟩
namespace Og
structure Tk where
  a0 : UInt8
  a1 : UInt8
  a2 : UInt8
  a3 : UInt8
  a4 : UInt8
  a5 : UInt8
  a6 : UInt8
  a7 : UInt8
  deriving DecidableEq
def Tk.l (t : Tk) : List UInt8 := [t.a0, t.a1, t.a2, t.a3, t.a4, t.a5, t.a6, t.a7]
def Tk.of (l : List UInt8) : Tk := ⟨l.getD 0 0, l.getD 1 0, l.getD 2 0, l.getD 3 0, l.getD 4 0, l.getD 5 0, l.getD 6 0, l.getD 7 0⟩
def Tk.zero : Tk := ⟨0, 0, 0, 0, 0, 0, 0, 0⟩
theorem Tk.of_l (t : Tk) : Tk.of t.l = t := rfl
theorem Tk.l_of {l : List UInt8} (h : l.length = 8) : (Tk.of l).l = l := by
  obtain ⟨a0, a1, a2, a3, a4, a5, a6, a7, rfl⟩ := eight_of h
  rfl
def rdT (l : List UInt8) : Option (Tk × List UInt8) := if 8 ≤ l.length then some (Tk.of (l.take 8), l.drop 8) else none
theorem rdT_iff (l : List UInt8) (t : Tk) (r : List UInt8) : rdT l = some (t, r) ↔ l = t.l ++ r := by
  unfold rdT
  constructor
  · intro h
    by_cases h8 : 8 ≤ l.length
    · rw [if_pos h8] at h
      simp only [Option.some.injEq, Prod.mk.injEq] at h
      obtain ⟨rfl, rfl⟩ := h
      rw [Tk.l_of (by rw [List.length_take]; omega), List.take_append_drop]
    · rw [if_neg h8] at h; cases h
  · rintro rfl
    rw [if_pos (by simp [Tk.l])]
    rfl
theorem Tk.inj {a b : Tk} (h : a.l = b.l) : a = b := by rw [← Tk.of_l a, ← Tk.of_l b, h]
end Og
def t8 (a0 a1 a2 a3 a4 a5 a6 a7 : UInt8) : Array Value := #[.int .u8 (a0.toNat : Int), .int .u8 (a1.toNat : Int), .int .u8 (a2.toNat : Int), .int .u8 (a3.toNat : Int), .int .u8 (a4.toNat : Int), .int .u8 (a5.toNat : Int), .int .u8 (a6.toNat : Int), .int .u8 (a7.toNat : Int)]
def tk8 (t : Og.Tk) : Array Value := t8 t.a0 t.a1 t.a2 t.a3 t.a4 t.a5 t.a6 t.a7
end Go.Proofs.YtjhbpcecdhdnoaaGreatDoor
namespace Go.Proofs.YtjhbpcecdhdnoaaGreatDoor
open Go.RowKit
theorem byteEq (d : Nat) (x y : Int) (W : World) : (Op.equalIn (d + 1) 5 (.int .u8 x) (.int .u8 y)).run Tryz.prog W = .ok (x == y) W := by
  simp [go_sem]
theorem tok_eq (d : Nat) (W : World) (x y : Og.Tk) : (Op.equalIn (d + 1 + 1) 86 (.agg (tk8 x)) (.agg (tk8 y))).run Tryz.prog W = .ok (decide (x = y)) W := by
  obtain ⟨i0, hi, hz0, hz1, hz2⟩ := info_parts Tryz.infoByte
  rw [run_equalIn_array W (d + 1) _ _ Tryz.underlying86 hi]
  unfold tk8 t8
  rw [show List.range 8 = [0, 1, 2, 3, 4, 5, 6, 7] from rfl]
  simp only [Op.eqItems]
  have hce : Tryz.prog.cellsOf 5 = 1 := by simp [Program.cellsOf, hi, hz1]
  rw [hce]
  simp [go_sem, byteEq]
  cases x; cases y
  simp only [Og.Tk.mk.injEq, ← UInt8.toNat_inj]
  repeat' split
  all_goals (simp_all <;> omega)
end Go.Proofs.YtjhbpcecdhdnoaaGreatDoor
namespace Go.Proofs.YtjhbpcecdhdnoaaGreatDoor
open Go.RowKit
theorem copy8 (w : World) (g : Nat) (s : ByteArray) (cur : Array Value) (t : TypeId) (hg : w.heap[g]? = some (.cells cur t (0, 0))) (hsz : cur.size = 8) (h8 : 8 ≤ s.size) :
    (Builtin.copy_ #[141, 9] 3 #[.slice (some ⟨g, 0, none⟩) 8 8, .string s]).run Tryz.prog w = .ok (.int .i64 8) (w.setRow g (bc (s.data.toList.take 8)).toArray) := by
  obtain ⟨i0, hi, _, hz1, _⟩ := info_parts Tryz.infoByte
  have hlen : (bc (s.data.toList.take 8)).length = 8 := by rw [bc_length, List.length_take, ← Lib.size_eq]; omega
  have hst := run_storeCells_at Tryz.prog g 0 t (bc (s.data.toList.take 8)) 0 cur w hg (by rw [hlen]; omega) (bc_one _)
  have hY : cur.toList.take (0 + 0) ++ bc (s.data.toList.take 8) ++ cur.toList.drop (0 + 0 + (bc (s.data.toList.take 8)).length) = bc (s.data.toList.take 8) := by
    rw [List.drop_of_length_le (by rw [Array.length_toList]; omega)]; simp
  rw [hY] at hst
  have hmin : Nat.min s.size 8 = 8 := Nat.min_eq_right h8
  have htk : List.take 8 (List.map (fun b : UInt8 => Value.int IntKind.u8 (b.toNat : Int)) s.data.toList) = bc (s.data.toList.take 8) := by unfold bc; rw [List.map_take]
  simp [Builtin.copy_, run_underlying Tryz.underlying141, Builtin.lenOf, Builtin.firstCells, sizeOf, typeInfo, hi, hz1, hmin]
  rw [← List.map_take] at *
  first | rw [show (List.map (fun b : UInt8 => Value.int IntKind.u8 (b.toNat : Int)) (s.data.toList.take 8)) = bc (s.data.toList.take 8) from rfl, hst] | rw [htk, hst]
  simp [Result.andThen]
  rfl
end Go.Proofs.YtjhbpcecdhdnoaaGreatDoor
namespace Go.Proofs.YtjhbpcecdhdnoaaGreatDoor
open Go.RowKit
theorem tok_eql (x y : Og.Tk) (W : World) : (binOp .eql 86 (.agg (tk8 x)) (.agg (tk8 y))).run Tryz.prog W = .ok (.bool (decide (x = y))) W := by
  have h : (Op.equalIn 10000 86 (.agg (tk8 x)) (.agg (tk8 y))).run Tryz.prog W = .ok (decide (x = y)) W := tok_eq 9998 W x y
  rw [run_eql_struct, h, Result.andThen_ok]
theorem body_empty (s : ByteArray) : s.toList.isEmpty = (s.size == 0) := by
  rw [ByteArray.toList_eq, Lib.size_eq, Bool.eq_iff_iff, List.isEmpty_iff, beq_iff_eq, List.length_eq_zero_iff]
def RetTr (b : Bool) (w : World) (e : Ending) (w' : World) : Prop := e = .returned (.bool b) ∧ Below w.heap.size w w'
theorem bytes_eq (s t : ByteArray) : (s.toList == t.toList) = decide (s = t) := by
  rw [Bool.eq_iff_iff, beq_iff_eq, decide_eq_true_iff, ByteArray.toList_eq, ByteArray.toList_eq]
  constructor
  · intro h; exact ByteArray.ext (Array.toList_inj.1 h)
  · intro h; rw [h]
end Go.Proofs.YtjhbpcecdhdnoaaGreatDoor
