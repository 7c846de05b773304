/-
  The plain mathematics of layer 3 (cmd): commands, their bytes, and how they are read. No program is named here.
  Layer 3's mathematics, second part: what is read of a list of bytes is just what has these bytes.
  Commands as values, and how their parts lie in memory.
  wapentakeref03: one, text walked.
-/
import Derived.Test.YtlcgjlganmblpaaRWords
import Derived.Lib.QuietBelow
import Derived.Laws.StructEq
set_option linter.unusedSimpArgs false
set_option linter.unusedVariables false
namespace Go.Proofs.Ytlcgjlganmblpaa
namespace Cm

/-! Readers of a list of bytes: what is read, and what is left. -/
def rdB : List UInt8 → Option (Nat × List UInt8)
  | [] => none
  | c :: r => some (c.toNat, r)
def rdV (l : List UInt8) : Option (Nat × List UInt8) := match Nm.readV l with
  | some (n, k) => some (n, l.drop k)
  | none => none
def rdS (l : List UInt8) : Option (ByteArray × List UInt8) := match Nm.readS l with
  | some (x, k) => some (⟨x.toArray⟩, l.drop k)
  | none => none

def txt (s : ByteArray) : List UInt8 := row s.data.toList
def one (n : Nat) : List UInt8 := [Nm.b8 n]

theorem rdB_iff (l : List UInt8) (n : Nat) (r : List UInt8) : rdB l = some (n, r) ↔ n < 256 ∧ l = one n ++ r := by
  unfold one
  cases l with
  | nil => simp [rdB]
  | cons c t =>
    have hc := c.toNat_lt
    simp only [rdB, Option.some.injEq, Prod.mk.injEq, List.singleton_append, List.cons.injEq]
    constructor
    · rintro ⟨rfl, rfl⟩; exact ⟨hc, (Nm.b8_of c _ rfl).symm, rfl⟩
    · rintro ⟨h, rfl, rfl⟩; exact ⟨Nm.b8_toNat n h, rfl⟩
theorem rdV_iff (l : List UInt8) (n : Nat) (r : List UInt8) : rdV l = some (n, r) ↔ n < Nm.top ∧ l = Nm.grp n ++ r := by
  unfold rdV
  constructor
  · intro h
    rcases hv : Nm.readV l with _ | ⟨m, k⟩
    · rw [hv] at h; cases h
    · rw [hv] at h
      simp only [Option.some.injEq, Prod.mk.injEq] at h
      obtain ⟨rfl, rfl⟩ := h
      obtain ⟨hn, r, hl, hk⟩ := (Nm.readV_iff _ _ _).1 hv
      exact ⟨hn, by rw [hl, hk, List.drop_left' rfl]⟩
  · rintro ⟨hn, rfl⟩
    rw [Nm.readV_grp n hn]
    simp
theorem readS_row (l r : List UInt8) (h : l.length < Nm.top) : Nm.readS (row l ++ r) = some (l, (row l).length) := by
  unfold Nm.readS row
  rw [List.append_assoc, Nm.readV_grp _ h]
  simp only []
  rw [if_pos (by simp)]
  simp
theorem readS_some {l : List UInt8} {x : List UInt8} {k : Nat} (h : Nm.readS l = some (x, k)) : x.length < Nm.top ∧ l = row x ++ l.drop k ∧ k = (row x).length := by
  unfold Nm.readS at h
  rcases hv : Nm.readV l with _ | ⟨n, j⟩
  · rw [hv] at h; cases h
  · rw [hv] at h
    simp only [] at h
    obtain ⟨hn, r, hl, hj⟩ := (Nm.readV_iff _ _ _).1 hv
    by_cases hle : n ≤ l.length - j
    · rw [if_pos hle] at h
      simp only [Option.some.injEq, Prod.mk.injEq] at h
      obtain ⟨rfl, rfl⟩ := h
      have hd : l.drop j = r := by rw [hl, hj, List.drop_left' rfl]
      have hlen : l.length = j + r.length := by rw [hl, hj, List.length_append]
      have hx : (r.take n).length = n := by rw [List.length_take]; omega
      rw [hd]
      unfold row
      refine ⟨by omega, ?_, by rw [List.length_append, hx, ← hj]⟩
      rw [← List.drop_drop, hd, hx, List.append_assoc, List.take_append_drop]
      exact hl
    · rw [if_neg hle] at h; cases h
theorem rdS_iff (l : List UInt8) (s : ByteArray) (r : List UInt8) : rdS l = some (s, r) ↔ s.size < Nm.top ∧ l = txt s ++ r := by
  unfold rdS txt
  constructor
  · intro h
    rcases hv : Nm.readS l with _ | ⟨x, k⟩
    · rw [hv] at h; cases h
    · rw [hv] at h
      simp only [Option.some.injEq, Prod.mk.injEq] at h
      obtain ⟨rfl, rfl⟩ := h
      obtain ⟨hn, hl, hk⟩ := readS_some hv
      exact ⟨by rw [Lib.size_eq]; simpa using hn, by simpa using hl⟩
  · rintro ⟨hn, rfl⟩
    rw [readS_row _ _ (by rw [← Lib.size_eq]; exact hn)]
    simp

/-! Commands. -/
structure Part where
  op : Nat
  key : ByteArray
  val : ByteArray
structure Cmd where
  op : Nat
  ses : Nat
  seq : Nat
  key : ByteArray
  val : ByteArray
  exp : ByteArray
  frm : ByteArray
  tto : ByteArray
  lim : Nat
  lease : Nat
  ttl : Nat
  parts : List Part

def e0 : ByteArray := ⟨#[]⟩
def zero : Cmd := ⟨0, 0, 0, e0, e0, e0, e0, e0, 0, 0, 0, []⟩

/-- Numbers that fit. -/
structure Fits (c : Cmd) : Prop where
  op : c.op < 256
  ses : c.ses < Nm.top
  seq : c.seq < Nm.top
  lim : c.lim < 256
  lease : c.lease < Nm.top
  ttl : c.ttl < Nm.top
  parts : ∀ p ∈ c.parts, p.op < 256

theorem zero_fits : Fits zero := ⟨by decide, by decide, by decide, by decide, by decide, by decide, fun p hp => by cases hp⟩

/-- Just what the Op uses. -/
def plain (c : Cmd) : Cmd :=
  if c.op = 1 ∨ c.op = 6 then ⟨c.op, c.ses, c.seq, e0, e0, e0, e0, e0, 0, 0, c.ttl, []⟩
  else if c.op = 2 then ⟨c.op, c.ses, c.seq, c.key, c.val, e0, e0, e0, 0, c.lease, 0, []⟩
  else if c.op = 3 ∨ c.op = 8 then ⟨c.op, c.ses, c.seq, c.key, e0, e0, e0, e0, 0, 0, 0, []⟩
  else if c.op = 4 then ⟨c.op, c.ses, c.seq, c.key, c.val, c.exp, e0, e0, 0, 0, 0, []⟩
  else if c.op = 5 then ⟨c.op, c.ses, c.seq, e0, e0, e0, e0, e0, 0, 0, 0, c.parts⟩
  else if c.op = 7 then ⟨c.op, c.ses, c.seq, e0, e0, e0, e0, e0, 0, c.lease, 0, []⟩
  else if c.op = 9 then ⟨c.op, c.ses, c.seq, e0, e0, e0, c.frm, c.tto, c.lim, 0, 0, []⟩
  else ⟨c.op, c.ses, c.seq, e0, e0, e0, e0, e0, 0, 0, 0, []⟩

def partB (p : Part) : List UInt8 := one p.op ++ txt p.key ++ if p.op = 2 then txt p.val else []
def partsB (ps : List Part) : List UInt8 := (ps.map partB).flatten
def body (c : Cmd) : List UInt8 :=
  if c.op = 1 ∨ c.op = 6 then Nm.grp c.ttl
  else if c.op = 2 then txt c.key ++ txt c.val ++ Nm.grp c.lease
  else if c.op = 3 ∨ c.op = 8 then txt c.key
  else if c.op = 4 then txt c.key ++ txt c.exp ++ txt c.val
  else if c.op = 5 then one c.parts.length ++ partsB c.parts
  else if c.op = 7 then Nm.grp c.lease
  else if c.op = 9 then txt c.frm ++ txt c.tto ++ one c.lim
  else []
def head (c : Cmd) : List UInt8 := one c.op ++ Nm.grp c.ses ++ Nm.grp c.seq
def bytes (c : Cmd) : List UInt8 := head c ++ body c

/-! Are two the same? -/
def eqS (a b : ByteArray) : Bool := a.toList == b.toList
theorem eqS_iff (a b : ByteArray) : eqS a b = true ↔ a = b := by
  unfold eqS
  rw [beq_iff_eq, ByteArray.toList_eq, ByteArray.toList_eq]
  exact ⟨fun h => ByteArray.ext (Array.toList_inj.1 h), fun h => by rw [h]⟩
def sameP (a b : Part) : Bool := a.op == b.op && (eqS a.key b.key && eqS a.val b.val)
def sameL : List Part → List Part → Bool
  | [], [] => true
  | a :: l, b :: m => sameP a b && sameL l m
  | _, _ => false
def sameF (a b : Cmd) : Bool :=
  a.op == b.op && (a.ses == b.ses && (a.seq == b.seq && (eqS a.key b.key && (eqS a.val b.val && (eqS a.exp b.exp && (eqS a.frm b.frm && (eqS a.tto b.tto && (a.lim == b.lim && (a.lease == b.lease && (a.ttl == b.ttl && a.parts.length == b.parts.length))))))))))
def same (a b : Cmd) : Bool := sameF a b && sameL a.parts b.parts

theorem sameP_iff (a b : Part) : sameP a b = true ↔ a = b := by
  obtain ⟨o, k, v⟩ := a
  obtain ⟨o', k', v'⟩ := b
  simp [sameP, eqS_iff]
theorem sameL_iff : ∀ l m, sameL l m = true ↔ l = m
  | [], [] => by simp [sameL]
  | [], _ :: _ => by simp [sameL]
  | _ :: _, [] => by simp [sameL]
  | a :: l, b :: m => by simp [sameL, sameP_iff, sameL_iff l m]
theorem same_iff (a b : Cmd) : same a b = true ↔ a = b := by
  obtain ⟨x0, x1, x2, x3, x4, x5, x6, x7, x8, x9, x10, x11⟩ := a
  obtain ⟨y0, y1, y2, y3, y4, y5, y6, y7, y8, y9, y10, y11⟩ := b
  simp only [same, sameF, Bool.and_eq_true, sameL_iff, eqS_iff, beq_iff_eq, Cmd.mk.injEq]
  constructor
  · rintro ⟨⟨h0, h1, h2, h3, h4, h5, h6, h7, h8, h9, h10, _⟩, h11⟩
    exact ⟨h0, h1, h2, h3, h4, h5, h6, h7, h8, h9, h10, h11⟩
  · rintro ⟨h0, h1, h2, h3, h4, h5, h6, h7, h8, h9, h10, h11⟩
    exact ⟨⟨h0, h1, h2, h3, h4, h5, h6, h7, h8, h9, h10, by rw [h11]⟩, h11⟩
theorem same_refl (a : Cmd) : same a a = true := (same_iff a a).2 rfl

/-! Which may be. -/
def okPart (p : Part) : Bool := p.op == 2 || (p.op == 3 && eqS p.val e0)
def may (c : Cmd) : Bool :=
  decide (1 ≤ c.op ∧ c.op ≤ 11) && (same c (plain c) && ((c.op != 5 || decide (1 ≤ c.parts.length ∧ c.parts.length ≤ 4)) && c.parts.all okPart))
def write (c : Cmd) : List UInt8 := if may c then bytes c else []

/-! How they are read. -/
def rdPart (l : List UInt8) : Option (Part × List UInt8) :=
  (rdB l).bind fun (op, l) => (rdS l).bind fun (k, l) => if op = 2 then (rdS l).bind fun (v, l) => some (⟨op, k, v⟩, l) else some (⟨op, k, e0⟩, l)
def rdParts : Nat → List UInt8 → Option (List Part × List UInt8)
  | 0, l => some ([], l)
  | n + 1, l => (rdPart l).bind fun (p, l) => (rdParts n l).bind fun (ps, l) => some (p :: ps, l)
def rdBody (op ses seq : Nat) (l : List UInt8) : Option (Cmd × List UInt8) :=
  if op = 1 ∨ op = 6 then (rdV l).bind fun (t, l) => some (⟨op, ses, seq, e0, e0, e0, e0, e0, 0, 0, t, []⟩, l)
  else if op = 2 then (rdS l).bind fun (k, l) => (rdS l).bind fun (v, l) => (rdV l).bind fun (z, l) => some (⟨op, ses, seq, k, v, e0, e0, e0, 0, z, 0, []⟩, l)
  else if op = 3 ∨ op = 8 then (rdS l).bind fun (k, l) => some (⟨op, ses, seq, k, e0, e0, e0, e0, 0, 0, 0, []⟩, l)
  else if op = 4 then (rdS l).bind fun (k, l) => (rdS l).bind fun (x, l) => (rdS l).bind fun (v, l) => some (⟨op, ses, seq, k, v, x, e0, e0, 0, 0, 0, []⟩, l)
  else if op = 5 then (rdB l).bind fun (n, l) => (rdParts n l).bind fun (ps, l) => some (⟨op, ses, seq, e0, e0, e0, e0, e0, 0, 0, 0, ps⟩, l)
  else if op = 7 then (rdV l).bind fun (z, l) => some (⟨op, ses, seq, e0, e0, e0, e0, e0, 0, z, 0, []⟩, l)
  else if op = 9 then (rdS l).bind fun (f, l) => (rdS l).bind fun (t, l) => (rdB l).bind fun (n, l) => some (⟨op, ses, seq, e0, e0, e0, f, t, n, 0, 0, []⟩, l)
  else some (⟨op, ses, seq, e0, e0, e0, e0, e0, 0, 0, 0, []⟩, l)
def parse (l : List UInt8) : Option (Cmd × List UInt8) :=
  (rdB l).bind fun (op, l) => (rdV l).bind fun (ses, l) => (rdV l).bind fun (seq, l) => rdBody op ses seq l
def read (l : List UInt8) : Option Cmd := (parse l).bind fun (c, r) => if r = [] ∧ may c = true then some c else none

end Cm
end Go.Proofs.Ytlcgjlganmblpaa
namespace Go.Proofs.Ytlcgjlganmblpaa
namespace Cm

/-- A part as it is read. -/
structure PartW (p : Part) : Prop where
  op : p.op < 256
  key : p.key.size < Nm.top
  val : p.val.size < Nm.top
  none : p.op ≠ 2 → p.val = e0

theorem rdPart_iff (l : List UInt8) (p : Part) (r : List UInt8) : rdPart l = some (p, r) ↔ PartW p ∧ l = partB p ++ r := by
  unfold rdPart partB
  constructor
  · intro h
    simp only [Option.bind_eq_some_iff, Prod.exists, rdS_iff, rdB_iff] at h
    obtain ⟨op, l1, ⟨g1, rfl⟩, k, l2, ⟨g2, rfl⟩, h⟩ := h
    by_cases h2 : op = 2
    · subst h2
      simp only [if_true, Option.bind_eq_some_iff, Prod.exists, rdS_iff, Option.some.injEq, Prod.mk.injEq] at h
      obtain ⟨v, l3, ⟨g3, rfl⟩, rfl, rfl⟩ := h
      exact ⟨⟨by simp, g2, g3, fun h => absurd rfl h⟩, by simp⟩
    · simp only [h2, if_false, Option.some.injEq, Prod.mk.injEq] at h
      obtain ⟨rfl, rfl⟩ := h
      exact ⟨⟨g1, g2, by show (0 : Nat) < Nm.top; unfold Nm.top; omega, fun _ => rfl⟩, by simp [h2]⟩
  · rintro ⟨hw, rfl⟩
    obtain ⟨op, k, v⟩ := p
    obtain ⟨g1, g2, g3, g4⟩ := hw
    simp only at g1 g2 g3 g4
    by_cases h2 : op = 2
    · simp only [h2, if_true]
      rw [List.append_assoc, List.append_assoc, (rdB_iff _ _ _).2 ⟨by omega, rfl⟩, Option.bind_some]
      simp only []
      rw [(rdS_iff _ _ _).2 ⟨g2, rfl⟩, Option.bind_some]
      simp only [if_true]
      rw [(rdS_iff _ _ _).2 ⟨g3, rfl⟩, Option.bind_some]
    · simp only [h2, if_false, List.append_nil]
      rw [List.append_assoc, (rdB_iff _ _ _).2 ⟨g1, rfl⟩, Option.bind_some]
      simp only []
      rw [(rdS_iff _ _ _).2 ⟨g2, rfl⟩, Option.bind_some]
      simp only [h2, if_false, g4 h2]

theorem rdParts_iff : ∀ (n : Nat) (l : List UInt8) (ps : List Part) (r : List UInt8), rdParts n l = some (ps, r) ↔ ps.length = n ∧ (∀ p ∈ ps, PartW p) ∧ l = partsB ps ++ r
  | 0, l, ps, r => by
    simp only [rdParts, Option.some.injEq, Prod.mk.injEq]
    constructor
    · rintro ⟨rfl, rfl⟩; exact ⟨rfl, fun p hp => (by cases hp), rfl⟩
    · rintro ⟨h, _, rfl⟩
      have : ps = [] := List.eq_nil_of_length_eq_zero h
      subst this; exact ⟨rfl, rfl⟩
  | n + 1, l, ps, r => by
    unfold rdParts
    constructor
    · intro h
      simp only [Option.bind_eq_some_iff, Prod.exists, rdV_iff, rdS_iff, rdB_iff, rdPart_iff, rdParts_iff, Option.some.injEq, Prod.mk.injEq, Cmd.mk.injEq] at h
      obtain ⟨p, l1, ⟨g1, rfl⟩, qs, l2, ⟨g2, g3, rfl⟩, rfl, rfl⟩ := h
      refine ⟨by simp [g2], fun q hq => ?_, by simp [partsB]⟩
      rcases List.mem_cons.1 hq with rfl | hq
      · exact g1
      · exact g3 q hq
    · rintro ⟨h, hw, rfl⟩
      match ps, h with
      | p :: qs, h =>
        have e : partsB (p :: qs) ++ r = partB p ++ (partsB qs ++ r) := by simp [partsB]
        rw [e, (rdPart_iff _ _ _).2 ⟨hw p (by simp), rfl⟩, Option.bind_some]
        simp only []
        rw [(rdParts_iff n _ _ _).2 ⟨by simpa using h, fun q hq => hw q (by simp [hq]), rfl⟩, Option.bind_some]

/-- What a command that is read is like. -/
structure Shape (c : Cmd) : Prop where
  fits : Fits c
  plain : plain c = c
  key : c.key.size < Nm.top
  val : c.val.size < Nm.top
  exp : c.exp.size < Nm.top
  frm : c.frm.size < Nm.top
  tto : c.tto.size < Nm.top
  len : c.parts.length < 256
  parts : ∀ p ∈ c.parts, PartW p

theorem e0_lt : e0.size < Nm.top := by show (0 : Nat) < Nm.top; unfold Nm.top; omega
theorem z_lt : 0 < Nm.top := by simp [Nm.top]

theorem plain1 {c : Cmd} (h : c.op = 1 ∨ c.op = 6) : plain c = ⟨c.op, c.ses, c.seq, e0, e0, e0, e0, e0, 0, 0, c.ttl, []⟩ := by unfold plain; rw [if_pos h]
theorem body1 {c : Cmd} (h : c.op = 1 ∨ c.op = 6) : body c = Nm.grp c.ttl := by unfold body; rw [if_pos h]
theorem plain2 {c : Cmd} (h : c.op = 2) : plain c = ⟨c.op, c.ses, c.seq, c.key, c.val, e0, e0, e0, 0, c.lease, 0, []⟩ := by unfold plain; rw [if_neg (by omega), if_pos h]
theorem body2 {c : Cmd} (h : c.op = 2) : body c = txt c.key ++ txt c.val ++ Nm.grp c.lease := by unfold body; rw [if_neg (by omega), if_pos h]
theorem plain3 {c : Cmd} (h : c.op = 3 ∨ c.op = 8) : plain c = ⟨c.op, c.ses, c.seq, c.key, e0, e0, e0, e0, 0, 0, 0, []⟩ := by unfold plain; rw [if_neg (by omega), if_neg (by omega), if_pos h]
theorem body3 {c : Cmd} (h : c.op = 3 ∨ c.op = 8) : body c = txt c.key := by unfold body; rw [if_neg (by omega), if_neg (by omega), if_pos h]
theorem plain4 {c : Cmd} (h : c.op = 4) : plain c = ⟨c.op, c.ses, c.seq, c.key, c.val, c.exp, e0, e0, 0, 0, 0, []⟩ := by unfold plain; rw [if_neg (by omega), if_neg (by omega), if_neg (by omega), if_pos h]
theorem body4 {c : Cmd} (h : c.op = 4) : body c = txt c.key ++ txt c.exp ++ txt c.val := by unfold body; rw [if_neg (by omega), if_neg (by omega), if_neg (by omega), if_pos h]
theorem plain5 {c : Cmd} (h : c.op = 5) : plain c = ⟨c.op, c.ses, c.seq, e0, e0, e0, e0, e0, 0, 0, 0, c.parts⟩ := by unfold plain; rw [if_neg (by omega), if_neg (by omega), if_neg (by omega), if_neg (by omega), if_pos h]
theorem body5 {c : Cmd} (h : c.op = 5) : body c = one c.parts.length ++ partsB c.parts := by unfold body; rw [if_neg (by omega), if_neg (by omega), if_neg (by omega), if_neg (by omega), if_pos h]
theorem plain7 {c : Cmd} (h : c.op = 7) : plain c = ⟨c.op, c.ses, c.seq, e0, e0, e0, e0, e0, 0, c.lease, 0, []⟩ := by unfold plain; rw [if_neg (by omega), if_neg (by omega), if_neg (by omega), if_neg (by omega), if_neg (by omega), if_pos h]
theorem body7 {c : Cmd} (h : c.op = 7) : body c = Nm.grp c.lease := by unfold body; rw [if_neg (by omega), if_neg (by omega), if_neg (by omega), if_neg (by omega), if_neg (by omega), if_pos h]
theorem plain9 {c : Cmd} (h : c.op = 9) : plain c = ⟨c.op, c.ses, c.seq, e0, e0, e0, c.frm, c.tto, c.lim, 0, 0, []⟩ := by unfold plain; rw [if_neg (by omega), if_neg (by omega), if_neg (by omega), if_neg (by omega), if_neg (by omega), if_neg (by omega), if_pos h]
theorem body9 {c : Cmd} (h : c.op = 9) : body c = txt c.frm ++ txt c.tto ++ one c.lim := by unfold body; rw [if_neg (by omega), if_neg (by omega), if_neg (by omega), if_neg (by omega), if_neg (by omega), if_neg (by omega), if_pos h]
theorem plain0 {c : Cmd} (h : c.op = 0 ∨ 9 < c.op) : plain c = ⟨c.op, c.ses, c.seq, e0, e0, e0, e0, e0, 0, 0, 0, []⟩ := by unfold plain; rw [if_neg (by omega), if_neg (by omega), if_neg (by omega), if_neg (by omega), if_neg (by omega), if_neg (by omega), if_neg (by omega)]
theorem body0 {c : Cmd} (h : c.op = 0 ∨ 9 < c.op) : body c = [] := by unfold body; rw [if_neg (by omega), if_neg (by omega), if_neg (by omega), if_neg (by omega), if_neg (by omega), if_neg (by omega), if_neg (by omega)]

theorem rdBody_iff (op ses seq : Nat) (l : List UInt8) (c : Cmd) (r : List UInt8) (ho : op < 256) (hs : ses < Nm.top) (hq : seq < Nm.top) :
    rdBody op ses seq l = some (c, r) ↔ (c.op = op ∧ c.ses = ses ∧ c.seq = seq) ∧ Shape c ∧ l = body c ++ r := by
  have hz := e0_lt
  have hz0 := z_lt
  have l0 : (0 : Nat) < 256 := by omega
  have nop : ∀ p ∈ ([] : List Part), PartW p := fun p hp => (by cases hp)
  have nop' : ∀ p ∈ ([] : List Part), p.op < 256 := fun p hp => (by cases hp)
  obtain ⟨o, s, q, k, v, x, f, t, m, z, y, ps⟩ := c
  unfold rdBody
  by_cases h1 : op = 1 ∨ op = 6
  · rw [if_pos h1]
    constructor
    · intro h
      simp only [Option.bind_eq_some_iff, Prod.exists, rdV_iff, rdS_iff, rdB_iff, rdPart_iff, rdParts_iff, Option.some.injEq, Prod.mk.injEq, Cmd.mk.injEq] at h
      obtain ⟨a, l1, ⟨g1, rfl⟩, ⟨rfl, rfl, rfl, rfl, rfl, rfl, rfl, rfl, rfl, rfl, rfl, rfl⟩, rfl⟩ := h
      exact ⟨⟨rfl, rfl, rfl⟩, ⟨⟨ho, hs, hq, l0, hz0, g1, nop'⟩, plain1 h1, hz, hz, hz, hz, hz, by simp, nop⟩, by simp [body, h1]⟩
    · rintro ⟨⟨rfl, rfl, rfl⟩, hc, rfl⟩
      have hp := hc.plain
      rw [plain1 h1] at hp
      simp only [Cmd.mk.injEq, true_and, and_true] at hp
      obtain ⟨rfl, rfl, rfl, rfl, rfl, rfl, rfl, rfl⟩ := hp
      have e : body ⟨o, s, q, e0, e0, e0, e0, e0, 0, 0, y, []⟩ = Nm.grp y := body1 h1
      rw [e, (rdV_iff _ _ _).2 ⟨hc.fits.ttl, rfl⟩, Option.bind_some]
  rw [if_neg h1]
  by_cases h2 : op = 2
  · rw [if_pos h2]
    constructor
    · intro h
      simp only [Option.bind_eq_some_iff, Prod.exists, rdV_iff, rdS_iff, rdB_iff, rdPart_iff, rdParts_iff, Option.some.injEq, Prod.mk.injEq, Cmd.mk.injEq] at h
      obtain ⟨a, l1, ⟨g1, rfl⟩, b, l2, ⟨g2, rfl⟩, d, l3, ⟨g3, rfl⟩, ⟨rfl, rfl, rfl, rfl, rfl, rfl, rfl, rfl, rfl, rfl, rfl, rfl⟩, rfl⟩ := h
      exact ⟨⟨rfl, rfl, rfl⟩, ⟨⟨ho, hs, hq, l0, g3, hz0, nop'⟩, plain2 h2, g1, g2, hz, hz, hz, by simp, nop⟩, by simp [body, h2]⟩
    · rintro ⟨⟨rfl, rfl, rfl⟩, hc, rfl⟩
      have hp := hc.plain
      rw [plain2 h2] at hp
      simp only [Cmd.mk.injEq, true_and, and_true] at hp
      obtain ⟨rfl, rfl, rfl, rfl, rfl, rfl⟩ := hp
      have e : body ⟨o, s, q, k, v, e0, e0, e0, 0, z, 0, []⟩ ++ r = txt k ++ (txt v ++ (Nm.grp z ++ r)) := by rw [body2 h2]; simp
      rw [e, (rdS_iff _ _ _).2 ⟨hc.key, rfl⟩, Option.bind_some]
      simp only []
      rw [(rdS_iff _ _ _).2 ⟨hc.val, rfl⟩, Option.bind_some]
      simp only []
      rw [(rdV_iff _ _ _).2 ⟨hc.fits.lease, rfl⟩, Option.bind_some]
  rw [if_neg h2]
  by_cases h3 : op = 3 ∨ op = 8
  · rw [if_pos h3]
    constructor
    · intro h
      simp only [Option.bind_eq_some_iff, Prod.exists, rdV_iff, rdS_iff, rdB_iff, rdPart_iff, rdParts_iff, Option.some.injEq, Prod.mk.injEq, Cmd.mk.injEq] at h
      obtain ⟨a, l1, ⟨g1, rfl⟩, ⟨rfl, rfl, rfl, rfl, rfl, rfl, rfl, rfl, rfl, rfl, rfl, rfl⟩, rfl⟩ := h
      exact ⟨⟨rfl, rfl, rfl⟩, ⟨⟨ho, hs, hq, l0, hz0, hz0, nop'⟩, plain3 h3, g1, hz, hz, hz, hz, by simp, nop⟩, by simp [body, h1, h2, h3]⟩
    · rintro ⟨⟨rfl, rfl, rfl⟩, hc, rfl⟩
      have hp := hc.plain
      rw [plain3 h3] at hp
      simp only [Cmd.mk.injEq, true_and, and_true] at hp
      obtain ⟨rfl, rfl, rfl, rfl, rfl, rfl, rfl, rfl⟩ := hp
      have e : body ⟨o, s, q, k, e0, e0, e0, e0, 0, 0, 0, []⟩ = txt k := body3 h3
      rw [e, (rdS_iff _ _ _).2 ⟨hc.key, rfl⟩, Option.bind_some]
  rw [if_neg h3]
  by_cases h4 : op = 4
  · rw [if_pos h4]
    constructor
    · intro h
      simp only [Option.bind_eq_some_iff, Prod.exists, rdV_iff, rdS_iff, rdB_iff, rdPart_iff, rdParts_iff, Option.some.injEq, Prod.mk.injEq, Cmd.mk.injEq] at h
      obtain ⟨a, l1, ⟨g1, rfl⟩, b, l2, ⟨g2, rfl⟩, d, l3, ⟨g3, rfl⟩, ⟨rfl, rfl, rfl, rfl, rfl, rfl, rfl, rfl, rfl, rfl, rfl, rfl⟩, rfl⟩ := h
      exact ⟨⟨rfl, rfl, rfl⟩, ⟨⟨ho, hs, hq, l0, hz0, hz0, nop'⟩, plain4 h4, g1, g3, g2, hz, hz, by simp, nop⟩, by simp [body, h4]⟩
    · rintro ⟨⟨rfl, rfl, rfl⟩, hc, rfl⟩
      have hp := hc.plain
      rw [plain4 h4] at hp
      simp only [Cmd.mk.injEq, true_and, and_true] at hp
      obtain ⟨rfl, rfl, rfl, rfl, rfl, rfl⟩ := hp
      have e : body ⟨o, s, q, k, v, x, e0, e0, 0, 0, 0, []⟩ ++ r = txt k ++ (txt x ++ (txt v ++ r)) := by rw [body4 h4]; simp
      rw [e, (rdS_iff _ _ _).2 ⟨hc.key, rfl⟩, Option.bind_some]
      simp only []
      rw [(rdS_iff _ _ _).2 ⟨hc.exp, rfl⟩, Option.bind_some]
      simp only []
      rw [(rdS_iff _ _ _).2 ⟨hc.val, rfl⟩, Option.bind_some]
  rw [if_neg h4]
  by_cases h5 : op = 5
  · rw [if_pos h5]
    constructor
    · intro h
      simp only [Option.bind_eq_some_iff, Prod.exists, rdV_iff, rdS_iff, rdB_iff, rdPart_iff, rdParts_iff, Option.some.injEq, Prod.mk.injEq, Cmd.mk.injEq] at h
      obtain ⟨a, l1, ⟨g1, rfl⟩, b, l2, ⟨g2, g3, rfl⟩, ⟨rfl, rfl, rfl, rfl, rfl, rfl, rfl, rfl, rfl, rfl, rfl, rfl⟩, rfl⟩ := h
      exact ⟨⟨rfl, rfl, rfl⟩, ⟨⟨ho, hs, hq, l0, hz0, hz0, fun p hp => (g3 p hp).op⟩, plain5 h5, hz, hz, hz, hz, hz, by simp only; omega, g3⟩, by simp [body, h5, g2]⟩
    · rintro ⟨⟨rfl, rfl, rfl⟩, hc, rfl⟩
      have hp := hc.plain
      rw [plain5 h5] at hp
      simp only [Cmd.mk.injEq, true_and, and_true] at hp
      obtain ⟨rfl, rfl, rfl, rfl, rfl, rfl, rfl, rfl⟩ := hp
      have e : body ⟨o, s, q, e0, e0, e0, e0, e0, 0, 0, 0, ps⟩ ++ r = one ps.length ++ (partsB ps ++ r) := by rw [body5 h5]; simp
      rw [e, (rdB_iff _ _ _).2 ⟨hc.len, rfl⟩, Option.bind_some]
      simp only []
      rw [(rdParts_iff _ _ _ _).2 ⟨rfl, hc.parts, rfl⟩, Option.bind_some]
  rw [if_neg h5]
  by_cases h7 : op = 7
  · rw [if_pos h7]
    constructor
    · intro h
      simp only [Option.bind_eq_some_iff, Prod.exists, rdV_iff, rdS_iff, rdB_iff, rdPart_iff, rdParts_iff, Option.some.injEq, Prod.mk.injEq, Cmd.mk.injEq] at h
      obtain ⟨a, l1, ⟨g1, rfl⟩, ⟨rfl, rfl, rfl, rfl, rfl, rfl, rfl, rfl, rfl, rfl, rfl, rfl⟩, rfl⟩ := h
      exact ⟨⟨rfl, rfl, rfl⟩, ⟨⟨ho, hs, hq, l0, g1, hz0, nop'⟩, plain7 h7, hz, hz, hz, hz, hz, by simp, nop⟩, by simp [body, h7]⟩
    · rintro ⟨⟨rfl, rfl, rfl⟩, hc, rfl⟩
      have hp := hc.plain
      rw [plain7 h7] at hp
      simp only [Cmd.mk.injEq, true_and, and_true] at hp
      obtain ⟨rfl, rfl, rfl, rfl, rfl, rfl, rfl, rfl⟩ := hp
      have e : body ⟨o, s, q, e0, e0, e0, e0, e0, 0, z, 0, []⟩ = Nm.grp z := body7 h7
      rw [e, (rdV_iff _ _ _).2 ⟨hc.fits.lease, rfl⟩, Option.bind_some]
  rw [if_neg h7]
  by_cases h9 : op = 9
  · rw [if_pos h9]
    constructor
    · intro h
      simp only [Option.bind_eq_some_iff, Prod.exists, rdV_iff, rdS_iff, rdB_iff, rdPart_iff, rdParts_iff, Option.some.injEq, Prod.mk.injEq, Cmd.mk.injEq] at h
      obtain ⟨a, l1, ⟨g1, rfl⟩, b, l2, ⟨g2, rfl⟩, d, l3, ⟨g3, rfl⟩, ⟨rfl, rfl, rfl, rfl, rfl, rfl, rfl, rfl, rfl, rfl, rfl, rfl⟩, rfl⟩ := h
      exact ⟨⟨rfl, rfl, rfl⟩, ⟨⟨ho, hs, hq, g3, hz0, hz0, nop'⟩, plain9 h9, hz, hz, hz, g1, g2, by simp, nop⟩, by simp [body, h9]⟩
    · rintro ⟨⟨rfl, rfl, rfl⟩, hc, rfl⟩
      have hp := hc.plain
      rw [plain9 h9] at hp
      simp only [Cmd.mk.injEq, true_and, and_true] at hp
      obtain ⟨rfl, rfl, rfl, rfl, rfl, rfl⟩ := hp
      have e : body ⟨o, s, q, e0, e0, e0, f, t, m, 0, 0, []⟩ ++ r = txt f ++ (txt t ++ (one m ++ r)) := by rw [body9 h9]; simp
      rw [e, (rdS_iff _ _ _).2 ⟨hc.frm, rfl⟩, Option.bind_some]
      simp only []
      rw [(rdS_iff _ _ _).2 ⟨hc.tto, rfl⟩, Option.bind_some]
      simp only []
      rw [(rdB_iff _ _ _).2 ⟨hc.fits.lim, rfl⟩, Option.bind_some]
  rw [if_neg h9]
  have h0 : op = 0 ∨ 9 < op := by omega
  constructor
  · intro h
    simp only [Option.some.injEq, Prod.mk.injEq, Cmd.mk.injEq] at h
    obtain ⟨⟨rfl, rfl, rfl, rfl, rfl, rfl, rfl, rfl, rfl, rfl, rfl, rfl⟩, rfl⟩ := h
    exact ⟨⟨rfl, rfl, rfl⟩, ⟨⟨ho, hs, hq, l0, hz0, hz0, nop'⟩, plain0 h0, hz, hz, hz, hz, hz, by simp, nop⟩, by rw [body0 h0]; rfl⟩
  · rintro ⟨⟨rfl, rfl, rfl⟩, hc, rfl⟩
    have hp := hc.plain
    rw [plain0 h0] at hp
    simp only [Cmd.mk.injEq, true_and, and_true] at hp
    obtain ⟨rfl, rfl, rfl, rfl, rfl, rfl, rfl, rfl, rfl⟩ := hp
    rw [body0 h0]; rfl

theorem parse_iff (l : List UInt8) (c : Cmd) (r : List UInt8) : parse l = some (c, r) ↔ Shape c ∧ l = bytes c ++ r := by
  unfold parse bytes head
  constructor
  · intro h
    simp only [Option.bind_eq_some_iff, Prod.exists, rdV_iff, rdB_iff] at h
    obtain ⟨op, l1, ⟨g1, rfl⟩, ses, l2, ⟨g2, rfl⟩, seq, l3, ⟨g3, rfl⟩, h⟩ := h
    obtain ⟨⟨rfl, rfl, rfl⟩, hc, rfl⟩ := (rdBody_iff _ _ _ _ _ _ g1 g2 g3).1 h
    exact ⟨hc, by simp⟩
  · rintro ⟨hc, rfl⟩
    have e : one c.op ++ Nm.grp c.ses ++ Nm.grp c.seq ++ body c ++ r = one c.op ++ (Nm.grp c.ses ++ (Nm.grp c.seq ++ (body c ++ r))) := by simp
    rw [e, (rdB_iff _ _ _).2 ⟨hc.fits.op, rfl⟩, Option.bind_some]
    simp only []
    rw [(rdV_iff _ _ _).2 ⟨hc.fits.ses, rfl⟩, Option.bind_some]
    simp only []
    rw [(rdV_iff _ _ _).2 ⟨hc.fits.seq, rfl⟩, Option.bind_some]
    exact (rdBody_iff _ _ _ _ _ _ hc.fits.op hc.fits.ses hc.fits.seq).2 ⟨⟨rfl, rfl, rfl⟩, hc, rfl⟩

theorem read_iff (l : List UInt8) (c : Cmd) : read l = some c ↔ Shape c ∧ may c = true ∧ l = bytes c := by
  unfold read
  constructor
  · intro h
    obtain ⟨⟨d, r⟩, h1, h⟩ := Option.bind_eq_some_iff.1 h
    simp only [] at h
    split at h
    · rename_i hm
      injection h with h
      subst h
      obtain ⟨rfl, hm⟩ := hm
      obtain ⟨hs, hl⟩ := (parse_iff _ _ _).1 h1
      exact ⟨hs, hm, by rw [hl, List.append_nil]⟩
    · cases h
  · rintro ⟨hs, hm, rfl⟩
    rw [(parse_iff _ c []).2 ⟨hs, (List.append_nil _).symm⟩, Option.bind_some]
    simp [hm]

theorem bytes_ne (c : Cmd) : bytes c ≠ [] := by simp [bytes, head, one]

/-- No command's bytes are the beginning of another one's. -/
theorem bytes_free {c d : Cmd} {r : List UInt8} (hc : Shape c) (hd : Shape d) (h : bytes c ++ r = bytes d) : c = d ∧ r = [] := by
  have h1 := (parse_iff _ c r).2 ⟨hc, rfl⟩
  have h2 := (parse_iff (bytes d) d []).2 ⟨hd, (List.append_nil _).symm⟩
  rw [h, h2] at h1
  simp only [Option.some.injEq, Prod.mk.injEq] at h1
  exact ⟨h1.1.symm, h1.2.symm⟩

/-- A command that may be, of texts that are not too long, is of the shape. -/
theorem shape_of {c : Cmd} (hf : Fits c) (hm : may c = true) (hk : c.key.size < Nm.top) (hv : c.val.size < Nm.top) (hx : c.exp.size < Nm.top) (hfr : c.frm.size < Nm.top) (ht : c.tto.size < Nm.top)
    (hp : ∀ p ∈ c.parts, p.key.size < Nm.top ∧ p.val.size < Nm.top) : Shape c := by
  simp only [may, Bool.and_eq_true, decide_eq_true_iff, same_iff, Bool.or_eq_true, bne_iff_ne] at hm
  obtain ⟨_, hpl, h5, hall⟩ := hm
  refine ⟨hf, hpl.symm, hk, hv, hx, hfr, ht, ?_, fun p hp1 => ⟨hf.parts p hp1, (hp p hp1).1, (hp p hp1).2, fun hne => ?_⟩⟩
  · rcases h5 with h | h
    · have : c.parts = [] := by
        rw [hpl]; unfold plain; repeat' split
        all_goals first | rfl | (rename_i h'; exact absurd h' h)
      rw [this]; simp
    · omega
  · have := List.all_eq_true.1 hall p hp1
    simp only [okPart, Bool.or_eq_true, Bool.and_eq_true, beq_iff_eq, eqS_iff] at this
    rcases this with h | h
    · exact absurd h hne
    · exact h.2
end Cm
end Go.Proofs.Ytlcgjlganmblpaa
namespace Go.Proofs.Ytlcgjlganmblpaa
open Go.RowKit

/-- A part's cells; those of many. -/
def pc1 (p : Cm.Part) : List Value := [.int .u8 (p.op : Int), .string p.key, .string p.val]
def pc (ps : List Cm.Part) : List Value := (ps.map pc1).flatten
theorem pc_length (ps : List Cm.Part) : (pc ps).length = 3 * ps.length := by
  induction ps with
  | nil => rfl
  | cons p ps ih =>
    have e : pc (p :: ps) = pc1 p ++ pc ps := rfl
    rw [e, List.length_append, ih, List.length_cons]
    have : (pc1 p).length = 3 := rfl
    omega
theorem pc_at : ∀ (ps : List Cm.Part) (i : Nat) (h : i < ps.length), (pc ps)[3 * i]? = some (.int .u8 (ps[i].op : Int)) ∧ (pc ps)[3 * i + 1]? = some (.string ps[i].key) ∧ (pc ps)[3 * i + 2]? = some (.string ps[i].val)
  | p :: ps, 0, _ => ⟨rfl, rfl, rfl⟩
  | p :: ps, i + 1, h => by
    have e : pc (p :: ps) = pc1 p ++ pc ps := rfl
    have hl : (pc1 p).length = 3 := rfl
    obtain ⟨h0, h1, h2⟩ := pc_at ps i (by simpa using h)
    have k : ∀ j, (pc (p :: ps))[3 * (i + 1) + j]? = (pc ps)[3 * i + j]? := fun j => by
      rw [e, List.getElem?_append_right (by omega)]; congr 1; omega
    exact ⟨(k 0).trans h0, (k 1).trans h1, (k 2).trans h2⟩
/-- Where part i of such a slice lies. -/
theorem Lies.part {w : World} {A : Option Addr} {ps : List Cm.Part} (h : Lies w A (pc ps)) (i : Nat) (hi : i < ps.length) :
    ∃ b off, A = some ⟨b, off, none⟩ ∧ b < w.heap.size ∧ w.cell? ⟨b, off + i * 3, none⟩ = some (.int .u8 (ps[i].op : Int)) ∧ w.cell? ⟨b, off + i * 3 + 1, none⟩ = some (.string ps[i].key) ∧ w.cell? ⟨b, off + i * 3 + 2, none⟩ = some (.string ps[i].val) := by
  rcases h with h | ⟨b, off, rfl, hb, hc⟩
  · exfalso
    have := pc_length ps
    rw [h] at this
    simp at this; omega
  · obtain ⟨h0, h1, h2⟩ := pc_at ps i hi
    rw [Nat.mul_comm] at h0 h1 h2
    exact ⟨b, off, rfl, hb, hc _ _ h0, hc _ _ h1, hc _ _ h2⟩

theorem stoodPart : Try.prog.stoodInHeld 91 = false := by kernel_rfl
theorem guardPart : Try.prog.eqGuardType Try.prog.depth 91 = false := by kernel_rfl
theorem part_eq (W : World) (x y : Int) (k v k' v' : ByteArray) : (Op.equalIn 10000 91 (.agg #[.int .u8 x, .string k, .string v]) (.agg #[.int .u8 y, .string k', .string v'])).run Try.prog W = .ok (x == y && (k.toList == k'.toList && v.toList == v'.toList)) W := by
  rw [run_equalIn_agg W 9999 91 _ _ (by unfold Program.fieldsOf; rw [Try.underlying91]) stoodPart]
  unfold Program.fieldsOf
  rw [Try.underlying91]
  simp only [Op.eqFields]
  simp [go_sem]
  repeat' split
  all_goals simp_all
/-- Two parts held against each other. -/
theorem part_neq (p q : Cm.Part) (W : World) : (binOp .neq 91 (.agg #[.int .u8 (p.op : Int), .string p.key, .string p.val]) (.agg #[.int .u8 (q.op : Int), .string q.key, .string q.val])).run Try.prog W = .ok (.bool (!Cm.sameP p q)) W := by
  rw [run_neq_struct, part_eq, Result.andThen_ok]
  have e : ((p.op : Int) == (q.op : Int)) = (p.op == q.op) := by rw [Bool.eq_iff_iff, beq_iff_eq, beq_iff_eq]; omega
  rw [e]; rfl

/-- A command's cells, and the command as a value. -/
def cmdC (c : Cm.Cmd) (A : Option Addr) (cap : Nat) : Array Value := #[.int .u8 (c.op : Int), .int .u64 (c.ses : Int), .int .u64 (c.seq : Int), .string c.key, .string c.val, .string c.exp, .string c.frm, .string c.tto, .int .u8 (c.lim : Int), .int .u64 (c.lease : Int), .int .u64 (c.ttl : Int), .slice A c.parts.length cap]
/-- What the walk asks of them. -/
structure CmdF (X : Array Value) (c : Cm.Cmd) (A : Option Addr) (cap : Nat) : Prop where
  size : X.size = 12
  one : X.all (·.oneCell') = true
  f0 : ∀ h, X[0]'h = .int .u8 (c.op : Int)
  f1 : ∀ h, X[1]'h = .int .u64 (c.ses : Int)
  f2 : ∀ h, X[2]'h = .int .u64 (c.seq : Int)
  f3 : ∀ h, X[3]'h = .string c.key
  f4 : ∀ h, X[4]'h = .string c.val
  f5 : ∀ h, X[5]'h = .string c.exp
  f6 : ∀ h, X[6]'h = .string c.frm
  f7 : ∀ h, X[7]'h = .string c.tto
  f8 : ∀ h, X[8]'h = .int .u8 (c.lim : Int)
  f9 : ∀ h, X[9]'h = .int .u64 (c.lease : Int)
  f10 : ∀ h, X[10]'h = .int .u64 (c.ttl : Int)
  f11 : ∀ h, X[11]'h = .slice A c.parts.length cap
theorem cmdF (c : Cm.Cmd) (A : Option Addr) (cap : Nat) : CmdF (cmdC c A cap) c A cap :=
  ⟨rfl, by simp [cmdC, Value.oneCell'], fun _ => rfl, fun _ => rfl, fun _ => rfl, fun _ => rfl, fun _ => rfl, fun _ => rfl, fun _ => rfl, fun _ => rfl, fun _ => rfl, fun _ => rfl, fun _ => rfl, fun _ => rfl⟩
/-- A command that lies in block g. -/
structure CmdAt (W : World) (g : Nat) (c : Cm.Cmd) (A : Option Addr) (cap : Nat) : Prop where
  c0 : W.cell? ⟨g, 0, none⟩ = some (.int .u8 (c.op : Int))
  c1 : W.cell? ⟨g, 1, none⟩ = some (.int .u64 (c.ses : Int))
  c2 : W.cell? ⟨g, 2, none⟩ = some (.int .u64 (c.seq : Int))
  c3 : W.cell? ⟨g, 3, none⟩ = some (.string c.key)
  c4 : W.cell? ⟨g, 4, none⟩ = some (.string c.val)
  c5 : W.cell? ⟨g, 5, none⟩ = some (.string c.exp)
  c6 : W.cell? ⟨g, 6, none⟩ = some (.string c.frm)
  c7 : W.cell? ⟨g, 7, none⟩ = some (.string c.tto)
  c8 : W.cell? ⟨g, 8, none⟩ = some (.int .u8 (c.lim : Int))
  c9 : W.cell? ⟨g, 9, none⟩ = some (.int .u64 (c.lease : Int))
  c10 : W.cell? ⟨g, 10, none⟩ = some (.int .u64 (c.ttl : Int))
  c11 : W.cell? ⟨g, 11, none⟩ = some (.slice A c.parts.length cap)
  fz : ∀ i, W.frozen? ⟨g, i, none⟩ = false
theorem cmdAt {W : World} {g : Nat} {c : Cm.Cmd} {A : Option Addr} {cap : Nat} (h : W.heap[g]? = some (.cells (cmdC c A cap) 30 (0, 0))) : CmdAt W g c A cap :=
  ⟨cell_of_row W g 0 _ _ _ h, cell_of_row W g 1 _ _ _ h, cell_of_row W g 2 _ _ _ h, cell_of_row W g 3 _ _ _ h, cell_of_row W g 4 _ _ _ h, cell_of_row W g 5 _ _ _ h, cell_of_row W g 6 _ _ _ h, cell_of_row W g 7 _ _ _ h, cell_of_row W g 8 _ _ _ h, cell_of_row W g 9 _ _ _ h, cell_of_row W g 10 _ _ _ h, cell_of_row W g 11 _ _ _ h, fun i => frozen_of_row W g i _ _ h⟩
theorem sizeCmd : (Try.prog.info? 30).map (·.size) = some 12 := by kernel_rfl
/-- A command laid over a row, cell by cell. -/
theorem cmdPut {W : World} {g : Nat} {z c : Cm.Cmd} {B A : Option Addr} {cz cap : Nat} (h : W.heap[g]? = some (.cells (cmdC z B cz) 30 (0, 0))) :
    (((((((((((((W.setCell ⟨g, 0, none⟩ (.int .u8 (c.op : Int))).setCell ⟨g, 1, none⟩ (.int .u64 (c.ses : Int))).setCell ⟨g, 2, none⟩ (.int .u64 (c.seq : Int))).setCell ⟨g, 3, none⟩ (.string c.key)).setCell ⟨g, 4, none⟩ (.string c.val)).setCell ⟨g, 5, none⟩ (.string c.exp)).setCell ⟨g, 6, none⟩ (.string c.frm)).setCell ⟨g, 7, none⟩ (.string c.tto)).setCell ⟨g, 8, none⟩ (.int .u8 (c.lim : Int))).setCell ⟨g, 9, none⟩ (.int .u64 (c.lease : Int))).setCell ⟨g, 10, none⟩ (.int .u64 (c.ttl : Int))).setCell ⟨g, 11, none⟩ (.slice A c.parts.length cap))).heap[g]? = some (.cells (cmdC c A cap) 30 (0, 0)) := by
  have s0 := heap_setCell_same (W) g 0 _ _ (.int .u8 (c.op : Int)) h
  have s1 := heap_setCell_same ((W.setCell ⟨g, 0, none⟩ (.int .u8 (c.op : Int)))) g 1 _ _ (.int .u64 (c.ses : Int)) s0
  have s2 := heap_setCell_same (((W.setCell ⟨g, 0, none⟩ (.int .u8 (c.op : Int))).setCell ⟨g, 1, none⟩ (.int .u64 (c.ses : Int)))) g 2 _ _ (.int .u64 (c.seq : Int)) s1
  have s3 := heap_setCell_same ((((W.setCell ⟨g, 0, none⟩ (.int .u8 (c.op : Int))).setCell ⟨g, 1, none⟩ (.int .u64 (c.ses : Int))).setCell ⟨g, 2, none⟩ (.int .u64 (c.seq : Int)))) g 3 _ _ (.string c.key) s2
  have s4 := heap_setCell_same (((((W.setCell ⟨g, 0, none⟩ (.int .u8 (c.op : Int))).setCell ⟨g, 1, none⟩ (.int .u64 (c.ses : Int))).setCell ⟨g, 2, none⟩ (.int .u64 (c.seq : Int))).setCell ⟨g, 3, none⟩ (.string c.key))) g 4 _ _ (.string c.val) s3
  have s5 := heap_setCell_same ((((((W.setCell ⟨g, 0, none⟩ (.int .u8 (c.op : Int))).setCell ⟨g, 1, none⟩ (.int .u64 (c.ses : Int))).setCell ⟨g, 2, none⟩ (.int .u64 (c.seq : Int))).setCell ⟨g, 3, none⟩ (.string c.key)).setCell ⟨g, 4, none⟩ (.string c.val))) g 5 _ _ (.string c.exp) s4
  have s6 := heap_setCell_same (((((((W.setCell ⟨g, 0, none⟩ (.int .u8 (c.op : Int))).setCell ⟨g, 1, none⟩ (.int .u64 (c.ses : Int))).setCell ⟨g, 2, none⟩ (.int .u64 (c.seq : Int))).setCell ⟨g, 3, none⟩ (.string c.key)).setCell ⟨g, 4, none⟩ (.string c.val)).setCell ⟨g, 5, none⟩ (.string c.exp))) g 6 _ _ (.string c.frm) s5
  have s7 := heap_setCell_same ((((((((W.setCell ⟨g, 0, none⟩ (.int .u8 (c.op : Int))).setCell ⟨g, 1, none⟩ (.int .u64 (c.ses : Int))).setCell ⟨g, 2, none⟩ (.int .u64 (c.seq : Int))).setCell ⟨g, 3, none⟩ (.string c.key)).setCell ⟨g, 4, none⟩ (.string c.val)).setCell ⟨g, 5, none⟩ (.string c.exp)).setCell ⟨g, 6, none⟩ (.string c.frm))) g 7 _ _ (.string c.tto) s6
  have s8 := heap_setCell_same (((((((((W.setCell ⟨g, 0, none⟩ (.int .u8 (c.op : Int))).setCell ⟨g, 1, none⟩ (.int .u64 (c.ses : Int))).setCell ⟨g, 2, none⟩ (.int .u64 (c.seq : Int))).setCell ⟨g, 3, none⟩ (.string c.key)).setCell ⟨g, 4, none⟩ (.string c.val)).setCell ⟨g, 5, none⟩ (.string c.exp)).setCell ⟨g, 6, none⟩ (.string c.frm)).setCell ⟨g, 7, none⟩ (.string c.tto))) g 8 _ _ (.int .u8 (c.lim : Int)) s7
  have s9 := heap_setCell_same ((((((((((W.setCell ⟨g, 0, none⟩ (.int .u8 (c.op : Int))).setCell ⟨g, 1, none⟩ (.int .u64 (c.ses : Int))).setCell ⟨g, 2, none⟩ (.int .u64 (c.seq : Int))).setCell ⟨g, 3, none⟩ (.string c.key)).setCell ⟨g, 4, none⟩ (.string c.val)).setCell ⟨g, 5, none⟩ (.string c.exp)).setCell ⟨g, 6, none⟩ (.string c.frm)).setCell ⟨g, 7, none⟩ (.string c.tto)).setCell ⟨g, 8, none⟩ (.int .u8 (c.lim : Int)))) g 9 _ _ (.int .u64 (c.lease : Int)) s8
  have s10 := heap_setCell_same (((((((((((W.setCell ⟨g, 0, none⟩ (.int .u8 (c.op : Int))).setCell ⟨g, 1, none⟩ (.int .u64 (c.ses : Int))).setCell ⟨g, 2, none⟩ (.int .u64 (c.seq : Int))).setCell ⟨g, 3, none⟩ (.string c.key)).setCell ⟨g, 4, none⟩ (.string c.val)).setCell ⟨g, 5, none⟩ (.string c.exp)).setCell ⟨g, 6, none⟩ (.string c.frm)).setCell ⟨g, 7, none⟩ (.string c.tto)).setCell ⟨g, 8, none⟩ (.int .u8 (c.lim : Int))).setCell ⟨g, 9, none⟩ (.int .u64 (c.lease : Int)))) g 10 _ _ (.int .u64 (c.ttl : Int)) s9
  have s11 := heap_setCell_same ((((((((((((W.setCell ⟨g, 0, none⟩ (.int .u8 (c.op : Int))).setCell ⟨g, 1, none⟩ (.int .u64 (c.ses : Int))).setCell ⟨g, 2, none⟩ (.int .u64 (c.seq : Int))).setCell ⟨g, 3, none⟩ (.string c.key)).setCell ⟨g, 4, none⟩ (.string c.val)).setCell ⟨g, 5, none⟩ (.string c.exp)).setCell ⟨g, 6, none⟩ (.string c.frm)).setCell ⟨g, 7, none⟩ (.string c.tto)).setCell ⟨g, 8, none⟩ (.int .u8 (c.lim : Int))).setCell ⟨g, 9, none⟩ (.int .u64 (c.lease : Int))).setCell ⟨g, 10, none⟩ (.int .u64 (c.ttl : Int)))) g 11 _ _ (.slice A c.parts.length cap) s10
  rw [s11]
  simp [cmdC]
theorem cmdBelow {W w : World} {B g : Nat} {c : Cm.Cmd} {A : Option Addr} {cap : Nat} (h : Below B w W) (hg : B ≤ g) :
    Below B w (((((((((((((W.setCell ⟨g, 0, none⟩ (.int .u8 (c.op : Int))).setCell ⟨g, 1, none⟩ (.int .u64 (c.ses : Int))).setCell ⟨g, 2, none⟩ (.int .u64 (c.seq : Int))).setCell ⟨g, 3, none⟩ (.string c.key)).setCell ⟨g, 4, none⟩ (.string c.val)).setCell ⟨g, 5, none⟩ (.string c.exp)).setCell ⟨g, 6, none⟩ (.string c.frm)).setCell ⟨g, 7, none⟩ (.string c.tto)).setCell ⟨g, 8, none⟩ (.int .u8 (c.lim : Int))).setCell ⟨g, 9, none⟩ (.int .u64 (c.lease : Int))).setCell ⟨g, 10, none⟩ (.int .u64 (c.ttl : Int))).setCell ⟨g, 11, none⟩ (.slice A c.parts.length cap))) :=
  ((((((((((((h.setCell (p := ⟨g, 0, none⟩) hg _).setCell (p := ⟨g, 1, none⟩) hg _).setCell (p := ⟨g, 2, none⟩) hg _).setCell (p := ⟨g, 3, none⟩) hg _).setCell (p := ⟨g, 4, none⟩) hg _).setCell (p := ⟨g, 5, none⟩) hg _).setCell (p := ⟨g, 6, none⟩) hg _).setCell (p := ⟨g, 7, none⟩) hg _).setCell (p := ⟨g, 8, none⟩) hg _).setCell (p := ⟨g, 9, none⟩) hg _).setCell (p := ⟨g, 10, none⟩) hg _).setCell (p := ⟨g, 11, none⟩) hg _)
end Go.Proofs.Ytlcgjlganmblpaa
namespace Go.Proofs.Ytlcgjlganmblpaa
open Go.RowKit

theorem b8_mod (n : Nat) : ((Nm.b8 n).toNat : Int) = (n : Int) % 256 := by
  unfold Nm.b8; simp [UInt8.toNat_ofNat']

theorem one_any (n : Nat) (w : World) : Calls Try.prog 67 #[.int .i64 (n : Int)] w (RetS (Cm.one n) w) := by
  have hc := str1 w ((n : Int) % 256) (Nm.b8 n) (b8_mod n).symm
  go_enter Try.func67, Try.ntmps67
  go_wp2
  go_ret
  exact ⟨rfl, bnew (Below.refl _ _) _⟩

theorem text_any (s : ByteArray) (w : World) (hs : (Cm.txt s).length ≤ 100000000) : Calls Try.prog 70 #[.string s] w (RetS (Cm.txt s) w) := by
  have h1 : sr [s] = Cm.txt s := by simp [sr, Cm.txt]
  have hS : ∀ (W : World) (A : Option Addr), Lies W A (sc [s]) → Calls Try.prog 83 #[.slice A 1 1] W fun e w' => e = .returned (.string ⟨(Cm.txt s).toArray⟩) ∧ Below W.heap.size W w' := fun W A hl => by
    have := refS_any [s] A 1 W hl (by simp) (by rw [h1]; exact hs)
    rw [h1] at this
    exact this
  have HS := Lib.hid hS
  clear hS h1 hs
  go_enter Try.func70, Try.ntmps70
  go_wp2_with (go_at_call 83; refine (HS.out _ _ (Lies.new _ [.string s] _)).mono ?_; rintro e w1 ⟨rfl, hb1⟩)
  go_ret
  exact ⟨rfl, bnext (bnew (Below.refl _ _) _) hb1⟩
end Go.Proofs.Ytlcgjlganmblpaa
