/-
  The plain mathematics of layer 3 (cmd): commands, their bytes, and how they are read. No program is named here.
-/
import Derived.Test.YtlnohjboldenpaaPWords
set_option linter.unusedSimpArgs false
set_option linter.unusedVariables false
namespace Go.Proofs.Ytlnohjboldenpaa
namespace Cm

/-! Readers of a list of bytes: what is read, and what is left. -/
def rdB : List UInt8 → Option (Nat × List UInt8)
  | [] => none
  | c :: r => some (c.toNat, r)
def rdV (l : List UInt8) : Option (Nat × List UInt8) := match Nm.readV l with
  | some (n, k) => some (n, l.drop k)
  | none => none
def rdS (l : List UInt8) : Option (ByteArray × List UInt8) := match Nm.readS l with
  | some (x, k) => some (⟨x.toArray⟩, l.drop k)
  | none => none

def txt (s : ByteArray) : List UInt8 := row s.data.toList
def one (n : Nat) : List UInt8 := [Nm.b8 n]

theorem rdB_iff (l : List UInt8) (n : Nat) (r : List UInt8) : rdB l = some (n, r) ↔ n < 256 ∧ l = one n ++ r := by
  unfold one
  cases l with
  | nil => simp [rdB]
  | cons c t =>
    have hc := c.toNat_lt
    simp only [rdB, Option.some.injEq, Prod.mk.injEq, List.singleton_append, List.cons.injEq]
    constructor
    · rintro ⟨rfl, rfl⟩; exact ⟨hc, (Nm.b8_of c _ rfl).symm, rfl⟩
    · rintro ⟨h, rfl, rfl⟩; exact ⟨Nm.b8_toNat n h, rfl⟩
theorem rdV_iff (l : List UInt8) (n : Nat) (r : List UInt8) : rdV l = some (n, r) ↔ n < Nm.top ∧ l = Nm.grp n ++ r := by
  unfold rdV
  constructor
  · intro h
    rcases hv : Nm.readV l with _ | ⟨m, k⟩
    · rw [hv] at h; cases h
    · rw [hv] at h
      simp only [Option.some.injEq, Prod.mk.injEq] at h
      obtain ⟨rfl, rfl⟩ := h
      obtain ⟨hn, r, hl, hk⟩ := (Nm.readV_iff _ _ _).1 hv
      exact ⟨hn, by rw [hl, hk, List.drop_left' rfl]⟩
  · rintro ⟨hn, rfl⟩
    rw [Nm.readV_grp n hn]
    simp
theorem readS_row (l r : List UInt8) (h : l.length < Nm.top) : Nm.readS (row l ++ r) = some (l, (row l).length) := by
  unfold Nm.readS row
  rw [List.append_assoc, Nm.readV_grp _ h]
  simp only []
  rw [if_pos (by simp)]
  simp
theorem readS_some {l : List UInt8} {x : List UInt8} {k : Nat} (h : Nm.readS l = some (x, k)) : x.length < Nm.top ∧ l = row x ++ l.drop k ∧ k = (row x).length := by
  unfold Nm.readS at h
  rcases hv : Nm.readV l with _ | ⟨n, j⟩
  · rw [hv] at h; cases h
  · rw [hv] at h
    simp only [] at h
    obtain ⟨hn, r, hl, hj⟩ := (Nm.readV_iff _ _ _).1 hv
    by_cases hle : n ≤ l.length - j
    · rw [if_pos hle] at h
      simp only [Option.some.injEq, Prod.mk.injEq] at h
      obtain ⟨rfl, rfl⟩ := h
      have hd : l.drop j = r := by rw [hl, hj, List.drop_left' rfl]
      have hlen : l.length = j + r.length := by rw [hl, hj, List.length_append]
      have hx : (r.take n).length = n := by rw [List.length_take]; omega
      rw [hd]
      unfold row
      refine ⟨by omega, ?_, by rw [List.length_append, hx, ← hj]⟩
      rw [← List.drop_drop, hd, hx, List.append_assoc, List.take_append_drop]
      exact hl
    · rw [if_neg hle] at h; cases h
theorem rdS_iff (l : List UInt8) (s : ByteArray) (r : List UInt8) : rdS l = some (s, r) ↔ s.size < Nm.top ∧ l = txt s ++ r := by
  unfold rdS txt
  constructor
  · intro h
    rcases hv : Nm.readS l with _ | ⟨x, k⟩
    · rw [hv] at h; cases h
    · rw [hv] at h
      simp only [Option.some.injEq, Prod.mk.injEq] at h
      obtain ⟨rfl, rfl⟩ := h
      obtain ⟨hn, hl, hk⟩ := readS_some hv
      exact ⟨by rw [Lib.size_eq]; simpa using hn, by simpa using hl⟩
  · rintro ⟨hn, rfl⟩
    rw [readS_row _ _ (by rw [← Lib.size_eq]; exact hn)]
    simp

/-! Commands. -/
structure Part where
  op : Nat
  key : ByteArray
  val : ByteArray
structure Cmd where
  op : Nat
  ses : Nat
  seq : Nat
  key : ByteArray
  val : ByteArray
  exp : ByteArray
  frm : ByteArray
  tto : ByteArray
  lim : Nat
  lease : Nat
  ttl : Nat
  parts : List Part

def e0 : ByteArray := ⟨#[]⟩
def zero : Cmd := ⟨0, 0, 0, e0, e0, e0, e0, e0, 0, 0, 0, []⟩

/-- Numbers that fit. -/
structure Fits (c : Cmd) : Prop where
  op : c.op < 256
  ses : c.ses < Nm.top
  seq : c.seq < Nm.top
  lim : c.lim < 256
  lease : c.lease < Nm.top
  ttl : c.ttl < Nm.top
  parts : ∀ p ∈ c.parts, p.op < 256

theorem zero_fits : Fits zero := ⟨by decide, by decide, by decide, by decide, by decide, by decide, fun p hp => by cases hp⟩

/-- Just what the Op uses. -/
def plain (c : Cmd) : Cmd :=
  if c.op = 1 ∨ c.op = 6 then ⟨c.op, c.ses, c.seq, e0, e0, e0, e0, e0, 0, 0, c.ttl, []⟩
  else if c.op = 2 then ⟨c.op, c.ses, c.seq, c.key, c.val, e0, e0, e0, 0, c.lease, 0, []⟩
  else if c.op = 3 ∨ c.op = 8 then ⟨c.op, c.ses, c.seq, c.key, e0, e0, e0, e0, 0, 0, 0, []⟩
  else if c.op = 4 then ⟨c.op, c.ses, c.seq, c.key, c.val, c.exp, e0, e0, 0, 0, 0, []⟩
  else if c.op = 5 then ⟨c.op, c.ses, c.seq, e0, e0, e0, e0, e0, 0, 0, 0, c.parts⟩
  else if c.op = 7 then ⟨c.op, c.ses, c.seq, e0, e0, e0, e0, e0, 0, c.lease, 0, []⟩
  else if c.op = 9 then ⟨c.op, c.ses, c.seq, e0, e0, e0, c.frm, c.tto, c.lim, 0, 0, []⟩
  else ⟨c.op, c.ses, c.seq, e0, e0, e0, e0, e0, 0, 0, 0, []⟩

def partB (p : Part) : List UInt8 := one p.op ++ txt p.key ++ if p.op = 2 then txt p.val else []
def partsB (ps : List Part) : List UInt8 := (ps.map partB).flatten
def body (c : Cmd) : List UInt8 :=
  if c.op = 1 ∨ c.op = 6 then Nm.grp c.ttl
  else if c.op = 2 then txt c.key ++ txt c.val ++ Nm.grp c.lease
  else if c.op = 3 ∨ c.op = 8 then txt c.key
  else if c.op = 4 then txt c.key ++ txt c.exp ++ txt c.val
  else if c.op = 5 then one c.parts.length ++ partsB c.parts
  else if c.op = 7 then Nm.grp c.lease
  else if c.op = 9 then txt c.frm ++ txt c.tto ++ one c.lim
  else []
def head (c : Cmd) : List UInt8 := one c.op ++ Nm.grp c.ses ++ Nm.grp c.seq
def bytes (c : Cmd) : List UInt8 := head c ++ body c

/-! Are two the same? -/
def eqS (a b : ByteArray) : Bool := a.toList == b.toList
theorem eqS_iff (a b : ByteArray) : eqS a b = true ↔ a = b := by
  unfold eqS
  rw [beq_iff_eq, ByteArray.toList_eq, ByteArray.toList_eq]
  exact ⟨fun h => ByteArray.ext (Array.toList_inj.1 h), fun h => by rw [h]⟩
def sameP (a b : Part) : Bool := a.op == b.op && (eqS a.key b.key && eqS a.val b.val)
def sameL : List Part → List Part → Bool
  | [], [] => true
  | a :: l, b :: m => sameP a b && sameL l m
  | _, _ => false
def sameF (a b : Cmd) : Bool :=
  a.op == b.op && (a.ses == b.ses && (a.seq == b.seq && (eqS a.key b.key && (eqS a.val b.val && (eqS a.exp b.exp && (eqS a.frm b.frm && (eqS a.tto b.tto && (a.lim == b.lim && (a.lease == b.lease && (a.ttl == b.ttl && a.parts.length == b.parts.length))))))))))
def same (a b : Cmd) : Bool := sameF a b && sameL a.parts b.parts

theorem sameP_iff (a b : Part) : sameP a b = true ↔ a = b := by
  obtain ⟨o, k, v⟩ := a
  obtain ⟨o', k', v'⟩ := b
  simp [sameP, eqS_iff]
theorem sameL_iff : ∀ l m, sameL l m = true ↔ l = m
  | [], [] => by simp [sameL]
  | [], _ :: _ => by simp [sameL]
  | _ :: _, [] => by simp [sameL]
  | a :: l, b :: m => by simp [sameL, sameP_iff, sameL_iff l m]
theorem same_iff (a b : Cmd) : same a b = true ↔ a = b := by
  obtain ⟨x0, x1, x2, x3, x4, x5, x6, x7, x8, x9, x10, x11⟩ := a
  obtain ⟨y0, y1, y2, y3, y4, y5, y6, y7, y8, y9, y10, y11⟩ := b
  simp only [same, sameF, Bool.and_eq_true, sameL_iff, eqS_iff, beq_iff_eq, Cmd.mk.injEq]
  constructor
  · rintro ⟨⟨h0, h1, h2, h3, h4, h5, h6, h7, h8, h9, h10, _⟩, h11⟩
    exact ⟨h0, h1, h2, h3, h4, h5, h6, h7, h8, h9, h10, h11⟩
  · rintro ⟨h0, h1, h2, h3, h4, h5, h6, h7, h8, h9, h10, h11⟩
    exact ⟨⟨h0, h1, h2, h3, h4, h5, h6, h7, h8, h9, h10, by rw [h11]⟩, h11⟩
theorem same_refl (a : Cmd) : same a a = true := (same_iff a a).2 rfl

/-! Which may be. -/
def okPart (p : Part) : Bool := p.op == 2 || (p.op == 3 && eqS p.val e0)
def may (c : Cmd) : Bool :=
  decide (1 ≤ c.op ∧ c.op ≤ 11) && (same c (plain c) && ((c.op != 5 || decide (1 ≤ c.parts.length ∧ c.parts.length ≤ 4)) && c.parts.all okPart))
def write (c : Cmd) : List UInt8 := if may c then bytes c else []

/-! How they are read. -/
def rdPart (l : List UInt8) : Option (Part × List UInt8) :=
  (rdB l).bind fun (op, l) => (rdS l).bind fun (k, l) => if op = 2 then (rdS l).bind fun (v, l) => some (⟨op, k, v⟩, l) else some (⟨op, k, e0⟩, l)
def rdParts : Nat → List UInt8 → Option (List Part × List UInt8)
  | 0, l => some ([], l)
  | n + 1, l => (rdPart l).bind fun (p, l) => (rdParts n l).bind fun (ps, l) => some (p :: ps, l)
def rdBody (op ses seq : Nat) (l : List UInt8) : Option (Cmd × List UInt8) :=
  if op = 1 ∨ op = 6 then (rdV l).bind fun (t, l) => some (⟨op, ses, seq, e0, e0, e0, e0, e0, 0, 0, t, []⟩, l)
  else if op = 2 then (rdS l).bind fun (k, l) => (rdS l).bind fun (v, l) => (rdV l).bind fun (z, l) => some (⟨op, ses, seq, k, v, e0, e0, e0, 0, z, 0, []⟩, l)
  else if op = 3 ∨ op = 8 then (rdS l).bind fun (k, l) => some (⟨op, ses, seq, k, e0, e0, e0, e0, 0, 0, 0, []⟩, l)
  else if op = 4 then (rdS l).bind fun (k, l) => (rdS l).bind fun (x, l) => (rdS l).bind fun (v, l) => some (⟨op, ses, seq, k, v, x, e0, e0, 0, 0, 0, []⟩, l)
  else if op = 5 then (rdB l).bind fun (n, l) => (rdParts n l).bind fun (ps, l) => some (⟨op, ses, seq, e0, e0, e0, e0, e0, 0, 0, 0, ps⟩, l)
  else if op = 7 then (rdV l).bind fun (z, l) => some (⟨op, ses, seq, e0, e0, e0, e0, e0, 0, z, 0, []⟩, l)
  else if op = 9 then (rdS l).bind fun (f, l) => (rdS l).bind fun (t, l) => (rdB l).bind fun (n, l) => some (⟨op, ses, seq, e0, e0, e0, f, t, n, 0, 0, []⟩, l)
  else some (⟨op, ses, seq, e0, e0, e0, e0, e0, 0, 0, 0, []⟩, l)
def parse (l : List UInt8) : Option (Cmd × List UInt8) :=
  (rdB l).bind fun (op, l) => (rdV l).bind fun (ses, l) => (rdV l).bind fun (seq, l) => rdBody op ses seq l
def read (l : List UInt8) : Option Cmd := (parse l).bind fun (c, r) => if r = [] ∧ may c = true then some c else none

end Cm
end Go.Proofs.Ytlnohjboldenpaa
