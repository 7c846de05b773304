/-
  The order of groups and of numbers of a width; numbers that differ, and what they are read as. No program is named here.
  The plain mathematics of layer 8 (wal): rows, heads, records, what stands in a segment's bytes. No program is named here.
  The plain mathematics of layer 8 (wal) over layer 7's disk: rows laid, and what a fuse and a crash leave. No program is named here.
  The plain mathematics of layer 8 (wal): a segment's name. No program is named here.
  The plain mathematics of layer 8 (wal): what is done to a segment, and what stands in it behind a crash. No program is named here.
-/
import Derived.Test.YtdcjhpnakbejkaaGreatDoorRWords
import Derived.Test.YtdcjhpnakbejkaaGreatDoorREnA
import Derived.Test.YtdcjhpnakbejkaaGreatDoorRSum
import Derived.Test.YtdcjhpnakbejkaaGreatDoorRDkM
import GoSem.Op.String
set_option linter.unusedSimpArgs false
set_option linter.unusedVariables false
namespace Go.Proofs.YtdcjhpnakbejkaaGreatDoor
namespace Nm

theorem less_cons (a b : UInt8) (l m : List UInt8) : Op.bytesLess (a :: l) (b :: m) = (decide (a.toNat < b.toNat) || (decide (a.toNat = b.toNat) && Op.bytesLess l m)) := by
  rw [Op.bytesLess]
  congr 1
  congr 1
  rw [Bool.eq_iff_iff, beq_iff_eq, decide_eq_true_iff]
  exact UInt8.toNat_inj.symm

theorem digits_less (P p q x y : Nat) (hx : x < P) (hy : y < P) : (x + P * p < y + P * q) ↔ (p < q ∨ (p = q ∧ x < y)) := by
  rcases Nat.lt_trichotomy p q with h | h | h
  · have : P * (p + 1) ≤ P * q := Nat.mul_le_mul_left _ h
    rw [Nat.mul_add] at this
    constructor <;> intro _ <;> omega
  · subst h; constructor <;> intro _ <;> omega
  · have : P * (q + 1) ≤ P * p := Nat.mul_le_mul_left _ h
    rw [Nat.mul_add] at this
    constructor <;> intro _ <;> omega

theorem wid_less : ∀ (k a b : Nat), Op.bytesLess (wid k a) (wid k b) = decide (a % 256 ^ k < b % 256 ^ k)
  | 0, a, b => by simp [wid, Op.bytesLess, Nat.mod_one]
  | k + 1, a, b => by
    have hp : 0 < 256 ^ k := Nat.pow_pos (by omega)
    have e : ∀ n, n % 256 ^ (k + 1) = n % 256 ^ k + 256 ^ k * (n / 256 ^ k % 256) := fun n => by rw [Nat.pow_succ, Nat.mod_mul]
    rw [wid, wid, less_cons, wid_less k a b, b8_toNat _ (by omega), b8_toNat _ (by omega), e a, e b, Bool.eq_iff_iff]
    simp only [Bool.or_eq_true, Bool.and_eq_true, decide_eq_true_iff]
    rw [digits_less _ _ _ _ _ (Nat.mod_lt _ hp) (Nat.mod_lt _ hp)]

theorem hi_less : ∀ (k a b : Nat), Op.bytesLess (hi k a ++ [b8 (a % 128)]) (hi k b ++ [b8 (b % 128)]) = decide (a % 128 ^ (k + 1) < b % 128 ^ (k + 1))
  | 0, a, b => by
    rw [hi, hi, List.nil_append, List.nil_append, less_cons, digit_lo, digit_lo]
    simp [Op.bytesLess]
  | k + 1, a, b => by
    have hp : 0 < 128 ^ (k + 1) := Nat.pow_pos (by omega)
    have e : ∀ n, n % 128 ^ (k + 2) = n % 128 ^ (k + 1) + 128 ^ (k + 1) * (n / 128 ^ (k + 1) % 128) := fun n => by rw [show k + 2 = (k + 1) + 1 from rfl, Nat.pow_succ, Nat.mod_mul]
    rw [hi, hi, List.cons_append, List.cons_append, less_cons, hi_less k a b, digit_hi, digit_hi, e a, e b, Bool.eq_iff_iff]
    simp only [Bool.or_eq_true, Bool.and_eq_true, decide_eq_true_iff]
    rw [digits_less _ _ _ _ _ (Nat.mod_lt _ hp) (Nat.mod_lt _ hp)]
    omega

theorem grp_less (a b : Nat) (ha : a < top) (hb : b < top) (h : (grp a).length = (grp b).length) : Op.bytesLess (grp a) (grp b) = decide (a < b) := by
  rw [grp_length, grp_length] at h
  have e : cnt a = cnt b := by omega
  have h1 := (cnt_spec a ha).1
  have h2 := (cnt_spec b hb).1
  unfold grp
  rw [e, hi_less, Nat.mod_eq_of_lt (by rw [← e]; exact h1), Nat.mod_eq_of_lt h2]

theorem grp_inj {a b : Nat} (ha : a < top) (hb : b < top) (h : grp a = grp b) : a = b := by
  have h1 := readV_grp a ha []
  have h2 := readV_grp b hb []
  rw [h, h2] at h1
  injection h1 with h1; injection h1 with h1 _; exact h1.symm

theorem grp_apart {a b : Nat} (ha : a < top) (hb : b < top) (r : List UInt8) (h : grp b = grp a ++ r) : a = b := by
  have h1 := readV_grp a ha r
  have h2 := readV_grp b hb []
  rw [List.append_nil, h, h1] at h2
  injection h2 with h2; injection h2 with h2 _

theorem grp_len_lt {a b : Nat} (ha : a < top) (hb : b < top) (h : (grp a).length < (grp b).length) : a < b := by
  rw [grp_length, grp_length] at h
  have h1 := (cnt_spec a ha).1
  rcases (cnt_spec b hb).2.1 with h2 | h2
  · omega
  · have := pow_le (show cnt a + 1 ≤ cnt b by omega); omega
end Nm
end Go.Proofs.YtdcjhpnakbejkaaGreatDoor
namespace Go.Proofs.YtdcjhpnakbejkaaGreatDoor
namespace Wl
open Cm (rdB rdV rdV_iff rdB_iff one)
/-! ### Rows -/
theorem val8_inj : ∀ (p q : List UInt8), p.length = q.length → Nm.val8 p = Nm.val8 q → p = q := by
  intro p
  induction h : p.length generalizing p with
  | zero =>
    intro q hq _
    rw [List.eq_nil_of_length_eq_zero h, List.eq_nil_of_length_eq_zero hq.symm]
  | succ k ih =>
    intro q hq hv
    obtain ⟨p', c, rfl⟩ : ∃ p' c, p = p' ++ [c] := ⟨p.dropLast, p.getLast (by intro e; subst e; simp at h), (List.dropLast_concat_getLast _).symm⟩
    obtain ⟨q', d, rfl⟩ : ∃ q' d, q = q' ++ [d] := ⟨q.dropLast, q.getLast (by intro e; subst e; simp at hq), (List.dropLast_concat_getLast _).symm⟩
    rw [Nm.val8_snoc, Nm.val8_snoc] at hv
    have h1 := c.toNat_lt
    have h2 := d.toNat_lt
    have hcd : c.toNat = d.toNat := by omega
    have hl : p'.length = k := by simpa using h
    have hm : k = q'.length := by simpa using hq
    rw [ih p' hl q' hm (by omega), UInt8.toNat_inj.1 hcd]
def row (t : List UInt8) : List UInt8 := Nm.grp t.length ++ (Nm.wid 4 (Cr.crc t) ++ t)
def row1 (l : List UInt8) : Option (List UInt8 × List UInt8) :=
  (rdV l).bind fun (n, l) => if l.length < 4 + n then none else if Nm.val8 (l.take 4) = Cr.crc ((l.drop 4).take n) then some ((l.drop 4).take n, l.drop (4 + n)) else none
theorem row1_row {t : List UInt8} (ht : t.length < Nm.top) (r : List UInt8) : row1 (row t ++ r) = some (t, r) := by
  unfold row1
  have e : row t ++ r = Nm.grp t.length ++ (Nm.wid 4 (Cr.crc t) ++ (t ++ r)) := by simp [row]
  rw [e, (rdV_iff _ _ _).2 ⟨ht, rfl⟩, Option.bind_some]
  simp only []
  have hw := Nm.wid_length 4 (Cr.crc t)
  have e1 : (Nm.wid 4 (Cr.crc t) ++ (t ++ r)).take 4 = Nm.wid 4 (Cr.crc t) := by rw [List.take_append_of_le_length (by omega), List.take_of_length_le (by omega)]
  have e2 : (Nm.wid 4 (Cr.crc t) ++ (t ++ r)).drop 4 = t ++ r := by rw [List.drop_append_of_le_length (by omega), List.drop_of_length_le (by omega)]; rfl
  have e3 : (t ++ r).take t.length = t := List.take_left
  have e4 : (Nm.wid 4 (Cr.crc t) ++ (t ++ r)).drop (4 + t.length) = r := by rw [← List.drop_drop, e2, List.drop_left]
  rw [if_neg (by simp; omega), e1, e2, e3, Nm.val8_wid, if_pos (Nat.mod_eq_of_lt (by have := Cr.crc_lt t; omega)), e4]
theorem row1_some {l t r : List UInt8} (h : row1 l = some (t, r)) : t.length < Nm.top ∧ l = row t ++ r := by
  unfold row1 at h
  obtain ⟨⟨n, l1⟩, h1, h2⟩ := Option.bind_eq_some_iff.1 h
  simp only [] at h2
  obtain ⟨hn, rfl⟩ := (rdV_iff _ _ _).1 h1
  split at h2
  · cases h2
  · rename_i hl
    split at h2
    · rename_i hc
      simp only [Option.some.injEq, Prod.mk.injEq] at h2
      obtain ⟨rfl, rfl⟩ := h2
      have hlen : ((l1.drop 4).take n).length = n := by rw [List.length_take, List.length_drop]; omega
      refine ⟨by rw [hlen]; exact hn, ?_⟩
      have hw : Nm.wid 4 (Cr.crc ((l1.drop 4).take n)) = l1.take 4 := by
        refine val8_inj _ _ ?_ ?_
        · rw [Nm.wid_length, List.length_take]; omega
        · rw [Nm.val8_wid, hc]
          exact Nat.mod_eq_of_lt (by have := Cr.crc_lt ((l1.drop 4).take n); omega)
      unfold row
      rw [hlen, hw]
      have : l1 = l1.take 4 ++ ((l1.drop 4).take n ++ l1.drop (4 + n)) := by
        rw [← List.drop_drop, List.take_append_drop, List.take_append_drop]
      conv => lhs; rw [this]
      simp
    · cases h2
theorem row1_iff (l t r : List UInt8) : row1 l = some (t, r) ↔ t.length < Nm.top ∧ l = row t ++ r := ⟨row1_some, fun ⟨h1, h2⟩ => by rw [h2]; exact row1_row h1 r⟩
theorem row_inj {s t q : List UInt8} (hs : s.length < Nm.top) (ht : t.length < Nm.top) (h : row t = row s ++ q) : s = t ∧ q = [] := by
  have h1 := row1_row ht []
  have h2 := row1_row hs q
  rw [List.append_nil, h, h2] at h1
  simp only [Option.some.injEq, Prod.mk.injEq] at h1
  exact h1
/-- A beginning of a row that is not all of it is no row, nor has it one. -/
theorem row1_cut {t p : List UInt8} (ht : t.length < Nm.top) (hp : p <+: row t) (hne : p ≠ row t) : row1 p = none := by
  cases h : row1 p with
  | none => rfl
  | some x =>
    obtain ⟨s, r⟩ := x
    obtain ⟨h1, rfl⟩ := row1_some h
    obtain ⟨q, hq⟩ := hp
    rw [List.append_assoc] at hq
    obtain ⟨rfl, h3⟩ := row_inj h1 ht hq.symm
    exfalso
    obtain ⟨h4, _⟩ := List.append_eq_nil_iff.1 h3
    exact hne (by rw [h4, List.append_nil])
theorem row_len (t : List UInt8) : 5 ≤ (row t).length := by
  unfold row
  rw [List.length_append, List.length_append, Nm.wid_length, Nm.grp_length]; omega
def rowsF : Nat → List UInt8 → List (List UInt8)
  | 0, _ => []
  | f + 1, l => match row1 l with
    | none => []
    | some (t, r) => t :: rowsF f r
def rows (l : List UInt8) : List (List UInt8) := rowsF (l.length + 1) l
theorem rowsF_more : ∀ (f g : Nat) (l : List UInt8), l.length < f → l.length < g → rowsF f l = rowsF g l
  | 0, _, _, h, _ => by omega
  | _ + 1, 0, _, _, h => by omega
  | f + 1, g + 1, l, h1, h2 => by
    unfold rowsF
    cases h : row1 l with
    | none => rfl
    | some x =>
      obtain ⟨t, r⟩ := x
      obtain ⟨_, rfl⟩ := row1_some h
      have := row_len t
      rw [List.length_append] at h1 h2
      simp only []
      rw [rowsF_more f g r (by omega) (by omega)]
theorem rows_cons {t : List UInt8} (ht : t.length < Nm.top) (r : List UInt8) : rows (row t ++ r) = t :: rows r := by
  unfold rows
  have h1 : rowsF ((row t ++ r).length + 1) (row t ++ r) = t :: rowsF ((row t ++ r).length) r := by
    show (match row1 (row t ++ r) with | none => [] | some (t, r') => t :: rowsF _ r') = _
    rw [row1_row ht r]
  have := row_len t
  rw [h1, rowsF_more _ (r.length + 1) r (by rw [List.length_append]; omega) (by omega)]
theorem rows_none {l : List UInt8} (h : row1 l = none) : rows l = [] := by
  unfold rows rowsF
  rw [h]
def all (T : List (List UInt8)) : List UInt8 := (T.map row).flatten
theorem rows_all {T : List (List UInt8)} (hT : ∀ t ∈ T, t.length < Nm.top) {p : List UInt8} (hp : row1 p = none) : rows (all T ++ p) = T := by
  induction T with
  | nil => exact rows_none hp
  | cons t T ih =>
    have e : all (t :: T) ++ p = row t ++ (all T ++ p) := by simp [all]
    rw [e, rows_cons (hT t (List.mem_cons_self ..)), ih fun s hs => hT s (List.mem_cons_of_mem _ hs)]
theorem row1_nil : row1 [] = none := by
  cases h : row1 [] with
  | none => rfl
  | some x =>
    obtain ⟨t, r⟩ := x
    obtain ⟨_, h2⟩ := row1_some h
    have := row_len t
    have h3 := congrArg List.length h2
    rw [List.length_append] at h3
    simp at h3; omega
/-! ### Heads -/
def headT (b s : Nat) : List UInt8 := one 1 ++ (Nm.grp b ++ Nm.grp s)
def headP (t : List UInt8) : Option (Nat × Nat) :=
  (rdB t).bind fun (k, l) => if k = 1 then (rdV l).bind fun (b, l) => (rdV l).bind fun (s, l) => if l = [] then some (b, s) else none else none
theorem head_iff (t : List UInt8) (b s : Nat) : headP t = some (b, s) ↔ (b < Nm.top ∧ s < Nm.top) ∧ t = headT b s := by
  unfold headP headT
  constructor
  · intro h
    obtain ⟨⟨k, l⟩, h1, g1⟩ := Option.bind_eq_some_iff.1 h
    simp only [] at g1
    obtain ⟨_, rfl⟩ := (rdB_iff _ _ _).1 h1
    split at g1
    · rename_i hk
      subst hk
      obtain ⟨⟨b', l1⟩, h2, g2⟩ := Option.bind_eq_some_iff.1 g1
      simp only [] at g2
      obtain ⟨hb, rfl⟩ := (rdV_iff _ _ _).1 h2
      obtain ⟨⟨s', l2⟩, h3, g3⟩ := Option.bind_eq_some_iff.1 g2
      simp only [] at g3
      obtain ⟨hs, rfl⟩ := (rdV_iff _ _ _).1 h3
      split at g3
      · rename_i hl
        subst hl
        simp only [Option.some.injEq, Prod.mk.injEq] at g3
        obtain ⟨rfl, rfl⟩ := g3
        exact ⟨⟨hb, hs⟩, by simp⟩
      · cases g3
    · cases g1
  · rintro ⟨⟨hb, hs⟩, rfl⟩
    rw [(rdB_iff _ _ _).2 ⟨by omega, rfl⟩, Option.bind_some]
    simp only [if_true]
    rw [(rdV_iff _ _ _).2 ⟨hb, rfl⟩, Option.bind_some]
    simp only []
    have := (rdV_iff (Nm.grp s) s []).2 ⟨hs, by simp⟩
    rw [this, Option.bind_some]
    simp
/-! ### Records -/
structure R where
  kind : Nat
  trm : Nat
  vote : Nat
  ent : En.E
instance : DecidableEq En.E := fun a b => decidable_of_iff (a.idx = b.idx ∧ a.trm = b.trm ∧ a.kind = b.kind ∧ a.slot = b.slot ∧ a.tok = b.tok ∧ a.body = b.body)
  ⟨fun h => by cases a; cases b; simp at h; obtain ⟨rfl, rfl, rfl, rfl, rfl, rfl⟩ := h; rfl, fun h => by subst h; exact ⟨rfl, rfl, rfl, rfl, rfl, rfl⟩⟩
structure Fits (r : R) : Prop where
  kind : r.kind < 256
  trm : r.trm < Nm.top
  vote : r.vote < 256
  ent : En.Fits r.ent
  body : r.ent.body.size < Nm.top
def right (r : R) : Bool := if r.kind = 2 then decide (r.ent = En.zero) else decide (r.kind = 3) && (decide (r.trm = 0) && (decide (r.vote = 0) && En.may r.ent))
def text (r : R) : List UInt8 := if r.kind = 2 then one 2 ++ (Nm.grp r.trm ++ one r.vote) else one 3 ++ En.write r.ent
def record (s : List UInt8) : Option R :=
  (rdB s).bind fun (k, l) => if k = 2 then (rdV l).bind fun (n, l) => (rdB l).bind fun (v, l) => if l = [] then some ⟨2, n, v, En.zero⟩ else none
    else if k = 3 then (En.read l).bind fun e => some ⟨3, 0, 0, e⟩ else none
theorem record_text {r : R} (hf : Fits r) (hr : right r = true) : record (text r) = some r := by
  obtain ⟨k, t, v, e⟩ := r
  unfold right at hr
  unfold record text
  simp only at hr ⊢
  by_cases h2 : k = 2
  · subst h2
    rw [if_pos rfl] at hr ⊢
    have he : e = En.zero := by simpa using hr
    subst he
    rw [(rdB_iff _ _ _).2 ⟨by omega, rfl⟩, Option.bind_some]
    simp only [if_true]
    rw [(rdV_iff _ _ _).2 ⟨hf.trm, rfl⟩, Option.bind_some]
    simp only []
    rw [(rdB_iff (one v) v []).2 ⟨hf.vote, by simp⟩, Option.bind_some]
    simp
  · rw [if_neg h2] at hr ⊢
    simp only [Bool.and_eq_true, decide_eq_true_eq] at hr
    obtain ⟨rfl, rfl, rfl, hm⟩ := hr
    rw [(rdB_iff _ _ _).2 ⟨by omega, rfl⟩, Option.bind_some]
    simp only [if_true]
    have hw : En.write e = En.enc e := by unfold En.write; rw [if_pos hm]
    rw [if_neg (by omega), hw, (En.read_iff _ _).2 ⟨⟨hf.ent, hf.body⟩, hm, rfl⟩]
    rfl
theorem record_some {s : List UInt8} {r : R} (h : record s = some r) : Fits r ∧ right r = true ∧ s = text r := by
  unfold record at h
  obtain ⟨⟨k, l⟩, h1, g1⟩ := Option.bind_eq_some_iff.1 h
  simp only [] at g1
  obtain ⟨_, rfl⟩ := (rdB_iff _ _ _).1 h1
  split at g1
  · rename_i hk
    subst hk
    obtain ⟨⟨n, l1⟩, h2, g2⟩ := Option.bind_eq_some_iff.1 g1
    simp only [] at g2
    obtain ⟨hn, rfl⟩ := (rdV_iff _ _ _).1 h2
    obtain ⟨⟨v, l2⟩, h3, g3⟩ := Option.bind_eq_some_iff.1 g2
    simp only [] at g3
    obtain ⟨hv, rfl⟩ := (rdB_iff _ _ _).1 h3
    split at g3
    · rename_i hl
      subst hl
      simp only [Option.some.injEq] at g3
      subst g3
      exact ⟨⟨(by decide : (2 : Nat) < 256), hn, hv, En.zero_fits, (by decide : En.zero.body.size < Nm.top)⟩, by simp [right], by simp [text]⟩
    · cases g3
  · split at g1
    · rename_i hk
      subst hk
      obtain ⟨e, h2, g2⟩ := Option.bind_eq_some_iff.1 g1
      simp only [Option.some.injEq] at g2
      subst g2
      obtain ⟨⟨hf, hb⟩, hm, rfl⟩ := (En.read_iff _ _).1 h2
      refine ⟨⟨(by decide : (3 : Nat) < 256), (by decide : (0 : Nat) < Nm.top), (by decide : (0 : Nat) < 256), hf, hb⟩, by simp [right, hm], ?_⟩
      show _ = one 3 ++ En.write e
      unfold En.write
      rw [if_pos hm]
    · cases g1
theorem record_iff (s : List UInt8) (r : R) : record s = some r ↔ Fits r ∧ right r = true ∧ s = text r := ⟨record_some, fun ⟨h1, h2, h3⟩ => by rw [h3]; exact record_text h1 h2⟩
/-! ### What stands in a segment -/
def recs : List (List UInt8) → List R
  | [] => []
  | t :: T => match record t with
    | some r => r :: recs T
    | none => []
def read (s : List UInt8) : Nat × List R × Bool := match rows s with
  | [] => (0, [], false)
  | t :: T => match headP t with
    | none => (0, [], false)
    | some (b, n) => (n, recs T, decide (b ≤ (recs T).length))
theorem recs_texts {l : List R} (h : ∀ r ∈ l, Fits r ∧ right r = true) : recs (l.map text) = l := by
  induction l with
  | nil => rfl
  | cons r l ih =>
    obtain ⟨h1, h2⟩ := h r (List.mem_cons_self ..)
    show (match record (text r) with | some r => r :: recs (l.map text) | none => []) = _
    rw [record_text h1 h2, ih fun x hx => h x (List.mem_cons_of_mem _ hx)]
/-- A segment whose rows are all there up to a place, and behind it no row. -/
theorem read_seg {b n : Nat} (hb : b < Nm.top) (hn : n < Nm.top) {l : List R} (h : ∀ r ∈ l, Fits r ∧ right r = true) (hl : ∀ r ∈ l, (text r).length < Nm.top) {p : List UInt8} (hp : row1 p = none) :
    read (all (headT b n :: l.map text) ++ p) = (n, l, decide (b ≤ l.length)) := by
  have hh : (headT b n).length < Nm.top := by
    have h1 := (Nm.cnt_spec b hb).2.2
    have h2 := (Nm.cnt_spec n hn).2.2
    unfold headT
    rw [List.length_append, List.length_append, Nm.grp_length, Nm.grp_length]
    simp [one, Nm.top]; omega
  unfold read
  rw [rows_all (fun t ht => by
    rcases List.mem_cons.1 ht with rfl | ht
    · exact hh
    · obtain ⟨r, hr, rfl⟩ := List.mem_map.1 ht
      exact hl r hr) hp]
  simp only []
  rw [(head_iff _ _ _).2 ⟨⟨hb, hn⟩, rfl⟩]
  simp only []
  rw [recs_texts h]
end Wl
end Go.Proofs.YtdcjhpnakbejkaaGreatDoor
namespace Go.Proofs.YtdcjhpnakbejkaaGreatDoor
namespace Wl
open Dk (D Fl find put okName e0 Inv)
def ba (l : List UInt8) : ByteArray := ⟨l.toArray⟩
theorem ba_data (l : List UInt8) : (ba l).data.toList = l := by simp [ba]
theorem ba_size (l : List UInt8) : (ba l).size = l.length := by rw [Lib.size_eq, ba_data]
theorem row_size (t : List UInt8) : (ba (row t)).size ≠ 0 := by rw [ba_size]; have := row_len t; omega
/-- Rows appended to a file, one operation each, and the file synced; the first that fails ends it. -/
def lay (d : D) (n : ByteArray) : List (List UInt8) → Dk.E × D
  | [] => Dk.sync d n
  | t :: T => if (Dk.append d n (ba (row t))).1 = .ok then lay (Dk.append d n (ba (row t))).2 n T else Dk.append d n (ba (row t))
def rws (T : List (List UInt8)) : List ByteArray := T.map fun t => ba (row t)
theorem rws_length (T : List (List UInt8)) : (rws T).length = T.length := by unfold rws; rw [List.length_map]
/-- A file of rows, of which so many are synced. -/
def seg (n : ByteArray) (T : List (List UInt8)) (s : Nat) : Fl := ⟨n, rws T, s, false, e0⟩
def Is (d : D) (n : ByteArray) (T : List (List UInt8)) (s : Nat) : Prop := find d.files n = some (seg n T s)
def Was (d : D) (n : ByteArray) (T : List (List UInt8)) (s : Nat) : Prop := Is d n T s ∨ (T = [] ∧ s = 0 ∧ find d.files n = none)
theorem inv_lay : ∀ (T : List (List UInt8)) {d : D}, Inv d → ∀ n, Inv (lay d n T).2
  | [], _, h, n => Dk.inv_sync h n
  | t :: T, d, h, n => by
    unfold lay
    split
    · exact inv_lay T (Dk.inv_append h n _) n
    · exact Dk.inv_append h n _
theorem append_was {d : D} {n : ByteArray} {T : List (List UInt8)} {s : Nat} {t : List UInt8} (h : Was d n T s) (hn : okName n) (ho : d.off = false) :
    Dk.append d n (ba (row t)) = if d.left = 1 then (.down, { d with off := true, left := 0 }) else (.ok, { d with left := d.left - 1, files := put d.files (seg n (T ++ [t]) s) }) := by
  have hr := row_size t
  unfold Dk.append
  rw [ho, if_neg (by decide), if_neg (by rintro (h | h); exact h hn; exact hr h)]
  rcases h with h | ⟨rfl, rfl, h⟩
  · unfold Is at h
    rw [h]
    simp only [Option.map_some, Option.getD_some, seg]
    unfold Dk.goes
    by_cases hl : d.left = 1 <;> simp [hl, ho, rws]
  · rw [h]
    simp only [Option.map_none, Option.getD_none]
    unfold Dk.goes
    by_cases hl : d.left = 1 <;> simp [hl, ho, rws, seg]
theorem sync_is {d : D} {n : ByteArray} {T : List (List UInt8)} {s : Nat} (h : Is d n T s) (ho : d.off = false) :
    Dk.sync d n = if d.left = 1 then (.down, { d with off := true, left := 0 }) else (.ok, { d with left := d.left - 1, files := put d.files (seg n T T.length) }) := by
  unfold Is at h
  unfold Dk.sync
  rw [ho, if_neg (by decide), h]
  simp only []
  unfold Dk.goes
  by_cases hl : d.left = 1 <;> simp [hl, ho, seg, rws_length]
theorem find_seg (fs : List Fl) (n m : ByteArray) (T : List (List UInt8)) (s : Nat) : find (put fs (seg n T s)) m = if n = m then some (seg n T s) else find fs m := Dk.find_put fs (seg n T s) m
/-- The power stays: all is laid, and synced. -/
theorem lay_all : ∀ (T' : List (List UInt8)) {d : D} {n : ByteArray} {T : List (List UInt8)} {s : Nat}, Was d n T s → okName n → d.off = false → (Is d n T s ∨ T' ≠ []) → (d.left = 0 ∨ T'.length + 1 < d.left) →
    ∃ d', lay d n T' = (.ok, d') ∧ Is d' n (T ++ T') (T ++ T').length ∧ d'.off = false ∧ d'.left = d.left - (T'.length + 1) ∧ ∀ m, m ≠ n → find d'.files m = find d.files m
  | [], d, n, T, s, h, hn, ho, hi, hl => by
    have hi : Is d n T s := hi.elim id fun h => absurd rfl h
    have hl1 : d.left ≠ 1 := by simp at hl; omega
    unfold lay
    rw [sync_is hi ho, if_neg hl1, List.append_nil]
    refine ⟨_, rfl, ?_, ho, rfl, fun m hm => ?_⟩
    · show find (put d.files (seg n T T.length)) n = _
      rw [find_seg, if_pos rfl]
    · show find (put d.files (seg n T T.length)) m = _
      rw [find_seg, if_neg fun e => hm e.symm]
  | t :: T', d, n, T, s, h, hn, ho, hi, hl => by
    have hl1 : d.left ≠ 1 := by simp at hl; omega
    unfold lay
    rw [append_was h hn ho, if_neg hl1, if_pos rfl]
    have h1 : Is { d with left := d.left - 1, files := put d.files (seg n (T ++ [t]) s) } n (T ++ [t]) s := by
      show find (put d.files (seg n (T ++ [t]) s)) n = _
      rw [find_seg, if_pos rfl]
    obtain ⟨d', h2, h3, h4, h5, h6⟩ := lay_all T' (.inl h1) hn ho (.inl h1) (by simp at hl ⊢; omega)
    refine ⟨d', h2, by simpa using h3, h4, ?_, fun m hm => ?_⟩
    · rw [h5]; show d.left - 1 - (T'.length + 1) = d.left - ((T'.length + 1) + 1); omega
    · rw [h6 m hm]
      show find (put d.files (seg n (T ++ [t]) s)) m = _
      rw [find_seg, if_neg fun e => hm e.symm]
/-- The fuse burns within: a beginning is laid, nothing more is synced. -/
theorem lay_down : ∀ (T' : List (List UInt8)) {d : D} {n : ByteArray} {T : List (List UInt8)} {s : Nat}, Was d n T s → okName n → d.off = false → (Is d n T s ∨ T' ≠ []) → 1 ≤ d.left → d.left ≤ T'.length + 1 →
    ∃ d', lay d n T' = (.down, d') ∧ Was d' n (T ++ T'.take (d.left - 1)) s ∧ d'.off = true ∧ d'.left = 0 ∧ ∀ m, m ≠ n → find d'.files m = find d.files m
  | [], d, n, T, s, h, hn, ho, hi, hl, hl2 => by
    have hi : Is d n T s := hi.elim id fun h => absurd rfl h
    have hl1 : d.left = 1 := by simp at hl2; omega
    unfold lay
    rw [sync_is hi ho, if_pos hl1]
    exact ⟨_, rfl, by simp; exact .inl hi, rfl, rfl, fun _ _ => rfl⟩
  | t :: T', d, n, T, s, h, hn, ho, hi, hl, hl2 => by
    unfold lay
    rw [append_was h hn ho]
    by_cases hl1 : d.left = 1
    · rw [if_pos hl1, if_neg (by simp)]
      refine ⟨_, rfl, ?_, rfl, rfl, fun _ _ => rfl⟩
      rw [hl1]
      show Was _ n (T ++ []) s
      rw [List.append_nil]
      exact h
    · rw [if_neg hl1, if_pos rfl]
      have h1 : Is { d with left := d.left - 1, files := put d.files (seg n (T ++ [t]) s) } n (T ++ [t]) s := by
        show find (put d.files (seg n (T ++ [t]) s)) n = _
        rw [find_seg, if_pos rfl]
      obtain ⟨d', h2, h3, h4, h5, h6⟩ := lay_down T' (.inl h1) hn ho (.inl h1) (by show 1 ≤ d.left - 1; omega) (by show d.left - 1 ≤ _; simp at hl2; omega)
      refine ⟨d', h2, ?_, h4, h5, fun m hm => ?_⟩
      · have e : d.left - 1 = (d.left - 1 - 1) + 1 := by omega
        rw [e, List.take_succ_cons]
        simpa using h3
      · rw [h6 m hm]
        show find (put d.files (seg n (T ++ [t]) s)) m = _
        rw [find_seg, if_neg fun e => hm e.symm]
/-! ### A crash -/
theorem cat_rws (T : List (List UInt8)) : Dk.cat (rws T) = all T := by
  unfold Dk.cat rws all
  rw [List.map_map]
  congr 1
theorem bytes_seg (n : ByteArray) (T : List (List UInt8)) (s : Nat) : Dk.bytes (seg n T s) = all T := by
  unfold Dk.bytes seg
  rw [cat_rws]
  show _ ++ [] = _
  rw [List.append_nil]
/-- Some of the rows, at least what was synced; behind them no row. -/
theorem crash_is {d : D} {n : ByteArray} {T : List (List UInt8)} {s : Nat} (h : Is d n T s) (hs : s ≤ T.length) (hT : ∀ t ∈ T, t.length < Nm.top) (keep torn : List Int) :
    ∃ f m p, find (Dk.crash d keep torn).files n = some f ∧ s ≤ m ∧ m ≤ T.length ∧ f.recs.length = m ∧ Dk.bytes f = all (T.take m) ++ p ∧ row1 p = none := by
  obtain ⟨j, hj⟩ := Dk.find_crash keep torn n 0 d.files
  unfold Is at h
  rw [h] at hj
  by_cases hl : s < T.length
  case neg =>
    refine ⟨seg n T s, T.length, [], ?_, by omega, Nat.le_refl _, rws_length T, ?_, row1_nil⟩
    · show find (Dk.crashL keep torn 0 d.files) n = _
      rw [hj]
      simp only [Option.map_some, seg, rws_length]
      rw [if_neg hl]
    · rw [bytes_seg, List.take_of_length_le (Nat.le_refl _), List.append_nil]
  refine ⟨Dk.leave (seg n T s) keep torn j, Dk.kept (seg n T s) keep j, (Dk.leave (seg n T s) keep torn j).torn.data.toList, ?_, Dk.le_kept (f := seg n T s) (by show s ≤ (rws T).length; rw [rws_length]; exact hs) keep j, by have := Dk.kept_le (seg n T s) keep j; rwa [show (seg n T s).recs.length = T.length from rws_length T] at this, Dk.leave_len _ _ _ _, ?_, ?_⟩
  · show find (Dk.crashL keep torn 0 d.files) n = _
    rw [hj]
    simp only [Option.map_some]
    rw [if_pos (by show s < (rws T).length; rw [rws_length]; exact hl)]
  · unfold Dk.bytes
    congr 1
    show Dk.cat ((rws T).take _) = _
    rw [← cat_rws]
    unfold rws
    rw [List.map_take]
  · obtain ⟨m, hm⟩ : ∃ m, m = Dk.kept (seg n T s) keep j := ⟨_, rfl⟩
    show row1 (if Dk.kept (seg n T s) keep j < (rws T).length ∧ j < torn.length then ((rws T).getD (Dk.kept (seg n T s) keep j) e0).extract 0 (torn.getD j 0 % (((rws T).getD (Dk.kept (seg n T s) keep j) e0).size : Int)).toNat else e0).data.toList = none
    rw [← hm]
    split
    · rename_i hc
      obtain ⟨h1, h2⟩ := hc
      rw [rws_length] at h1
      have hr : (rws T).getD m e0 = ba (row T[m]) := by
        rw [List.getD_eq_getElem?_getD]
        unfold rws
        rw [List.getElem?_map, List.getElem?_eq_getElem h1]
        rfl
      rw [hr, Lib.extract_data, ba_size]
      have hp : (0 : Int) < ((row T[m]).length : Int) := by have := row_len T[m]; omega
      have h3 := Int.emod_nonneg (torn.getD j 0) (show ((row T[m]).length : Int) ≠ 0 by omega)
      have h4 := Int.emod_lt_of_pos (torn.getD j 0) hp
      obtain ⟨k, hk⟩ : ∃ k, k = (torn.getD j 0 % ((row T[m]).length : Int)).toNat := ⟨_, rfl⟩
      have hk2 : k < (row T[m]).length := by omega
      rw [← hk]
      rw [ba_data, List.drop_zero, Nat.sub_zero]
      refine row1_cut (hT _ (List.getElem_mem h1)) (List.take_prefix _ _) fun e2 => ?_
      have := congrArg List.length e2
      rw [List.length_take] at this
      omega
    · exact row1_nil
theorem crash_none {d : D} {n : ByteArray} (h : find d.files n = none) (keep torn : List Int) : find (Dk.crash d keep torn).files n = none := by
  obtain ⟨j, hj⟩ := Dk.find_crash keep torn n 0 d.files
  rw [h] at hj
  exact hj
end Wl
end Go.Proofs.YtdcjhpnakbejkaaGreatDoor
namespace Go.Proofs.YtdcjhpnakbejkaaGreatDoor
namespace Wl
/-- The last k decimal digits. -/
def wd : Nat → Nat → List UInt8
  | 0, _ => []
  | k + 1, n => wd k (n / 10) ++ [UInt8.ofNat (48 + n % 10)]
theorem wd_length : ∀ k n, (wd k n).length = k
  | 0, _ => rfl
  | k + 1, n => by unfold wd; rw [List.length_append, wd_length k]; rfl
def dig (n : Nat) : UInt8 := UInt8.ofNat (48 + n % 10)
theorem dig_toNat (n : Nat) : (dig n).toNat = 48 + n % 10 := by
  unfold dig
  rw [UInt8.toNat_ofNat']
  omega
theorem wd_succ (k n : Nat) : wd (k + 1) n = wd k (n / 10) ++ [dig n] := rfl
/-- One more digit before those that are there. -/
theorem wd_cons : ∀ k n, wd (k + 1) n = dig (n / 10 ^ k) :: wd k n
  | 0, n => by rw [wd_succ]; simp [wd]
  | k + 1, n => by
    rw [wd_succ, wd_cons k (n / 10), wd_succ k n, List.cons_append]
    congr 2
    rw [Nat.div_div_eq_div_mul, Nat.pow_succ, Nat.mul_comm]
def v10 (l : List UInt8) : Nat := l.foldl (fun v c => 10 * v + (c.toNat - 48)) 0
theorem v10_snoc (l : List UInt8) (c : UInt8) : v10 (l ++ [c]) = 10 * v10 l + (c.toNat - 48) := by simp [v10]
theorem v10_wd : ∀ k n, v10 (wd k n) = n % 10 ^ k
  | 0, n => by simp [v10, wd, Nat.mod_one]
  | k + 1, n => by
    rw [wd_succ, v10_snoc, v10_wd k, dig_toNat, Nat.pow_succ, Nat.mul_comm (10 ^ k) 10, Nat.mod_mul]
    omega
def c10F : Nat → Nat → Nat
  | 0, _ => 0
  | f + 1, n => if n = 0 then 0 else c10F f (n / 10) + 1
/-- How many decimal digits a number has. -/
def c10 (n : Nat) : Nat := c10F 20 n
theorem c10F_spec : ∀ f n, n < 10 ^ f → n < 10 ^ c10F f n ∧ c10F f n ≤ f ∧ ∀ k, k < c10F f n → 10 ^ k ≤ n
  | 0, n, h => ⟨h, Nat.le_refl _, fun k hk => absurd hk (Nat.not_lt_zero k)⟩
  | f + 1, n, h => by
    unfold c10F
    split
    · rename_i h0
      subst h0
      exact ⟨by decide, Nat.zero_le _, fun k hk => absurd hk (Nat.not_lt_zero k)⟩
    · rename_i h0
      rw [Nat.pow_succ] at h
      obtain ⟨h1, h2, h3⟩ := c10F_spec f (n / 10) (by omega)
      refine ⟨by rw [Nat.pow_succ]; omega, by omega, fun k hk => ?_⟩
      cases k with
      | zero => simp; omega
      | succ k =>
        have := h3 k (by omega)
        rw [Nat.pow_succ]; omega
theorem c10_spec {n : Nat} (h : n < Nm.top) : n < 10 ^ c10 n ∧ c10 n ≤ 20 ∧ ∀ k, k < c10 n → 10 ^ k ≤ n :=
  c10F_spec 20 n (Nat.lt_of_lt_of_le h (by unfold Nm.top; decide))
/-- How many digits a segment's name has. -/
def w10 (n : Nat) : Nat := max 8 (c10 n)
def nameL (n : Nat) : List UInt8 := 115 :: 101 :: 103 :: 46 :: wd (w10 n) n
theorem nameL_length (n : Nat) : (nameL n).length = 4 + w10 n := by
  show (wd (w10 n) n).length + 1 + 1 + 1 + 1 = _
  rw [wd_length]; omega
theorem w10_le {n : Nat} (h : n < Nm.top) : 8 ≤ w10 n ∧ w10 n ≤ 20 := by have := (c10_spec h).2.1; unfold w10; omega
theorem w10_val {n : Nat} (h : n < Nm.top) : v10 (wd (w10 n) n) = n := by
  rw [v10_wd]
  exact Nat.mod_eq_of_lt (Nat.lt_of_lt_of_le (c10_spec h).1 (Nat.pow_le_pow_right (by decide) (by unfold w10; omega)))
/-- The digits are over just when the width is reached. -/
theorem w10_iff {n : Nat} (h : n < Nm.top) (k : Nat) : (n / 10 ^ k = 0 ∧ 8 ≤ k) ↔ w10 n ≤ k := by
  obtain ⟨h1, _, h3⟩ := c10_spec h
  have hp : 0 < 10 ^ k := Nat.pow_pos (by decide)
  rw [Nat.div_eq_zero_iff_lt hp]
  unfold w10
  constructor
  · rintro ⟨a, b⟩
    have : ¬ k < c10 n := fun hk => by have := h3 k hk; omega
    omega
  · intro a
    exact ⟨Nat.lt_of_lt_of_le h1 (Nat.pow_le_pow_right (by decide) (by omega)), by omega⟩
theorem nameL_inj {m n : Nat} (hm : m < Nm.top) (hn : n < Nm.top) (h : nameL m = nameL n) : m = n := by
  unfold nameL at h
  simp only [List.cons.injEq, true_and] at h
  rw [← w10_val hm, h, w10_val hn]
theorem wd_digs : ∀ k n, ∀ c ∈ wd k n, 48 ≤ c.toNat ∧ c.toNat ≤ 57
  | 0, n, c, h => by cases h
  | k + 1, n, c, h => by
    rw [wd_succ] at h
    rcases List.mem_append.1 h with h | h
    · exact wd_digs k _ c h
    · rw [List.mem_singleton.1 h, dig_toNat]; omega
/-- What number a name's digits say, if it is one's. -/
theorem nameL_of {s : List UInt8} {n : Nat} (hn : n < Nm.top) (h : nameL n = s) : v10 (s.drop 4) = n ∧ (∀ c ∈ s.drop 4, 48 ≤ c.toNat ∧ c.toNat ≤ 57) ∧ 12 ≤ s.length ∧ s.length ≤ 24 := by
  subst h
  refine ⟨w10_val hn, wd_digs _ _, ?_, ?_⟩ <;> rw [nameL_length] <;> have := w10_le hn <;> omega
def name (n : Nat) : ByteArray := ⟨(nameL n).toArray⟩
theorem name_inj {m n : Nat} (hm : m < Nm.top) (hn : n < Nm.top) (h : name m = name n) : m = n := by
  refine nameL_inj hm hn ?_
  have := congrArg (fun b : ByteArray => b.data.toList) h
  simpa [name] using this
theorem name_size {n : Nat} (h : n < Nm.top) : 12 ≤ (name n).size ∧ (name n).size ≤ 24 := by
  have h1 : (name n).size = (nameL n).length := by simp [name, ByteArray.size]
  rw [h1, nameL_length]
  have := w10_le h
  omega
end Wl
end Go.Proofs.YtdcjhpnakbejkaaGreatDoor
namespace Go.Proofs.YtdcjhpnakbejkaaGreatDoor
namespace Wl
open Dk (D Fl find put okName e0 Inv)
inductive Er where
  | of (e : Dk.E)
  | there
  deriving DecidableEq
def segT (b snap : Nat) (l : List R) : List (List UInt8) := headT b snap :: l.map text
def begins (d : D) (n snap : Nat) (l : List R) : Er × D :=
  if d.off then (.of .down, d) else if (find d.files (name n)).isSome then (.there, d) else if l.all right = false then (.of .arg, d)
  else (.of (lay d (name n) (segT l.length snap l)).1, (lay d (name n) (segT l.length snap l)).2)
def add (d : D) (n : Nat) (l : List R) : Dk.E × D :=
  if d.off then (.down, d) else if l.all right = false then (.arg, d) else if l.isEmpty then (.ok, d) else lay d (name n) (l.map text)
def readD (d : D) (n : Nat) : (Nat × List R × Bool) × Dk.E :=
  if (Dk.read d (name n)).2 = .ok then (read (Dk.read d (name n)).1, .ok) else ((0, [], false), (Dk.read d (name n)).2)
/-- Records that may be, and whose texts can be written. -/
def Good (l : List R) : Prop := ∀ r ∈ l, (Fits r ∧ right r = true) ∧ (text r).length < Nm.top
theorem Good.all {l : List R} (h : Good l) : l.all right = true := List.all_eq_true.2 fun r hr => (h r hr).1.2
theorem Good.app {l m : List R} (h : Good l) (k : Good m) : Good (l ++ m) := fun r hr => (List.mem_append.1 hr).elim (h r) (k r)
theorem Good.sub {l m : List R} (h : Good l) (k : ∀ r ∈ m, r ∈ l) : Good m := fun r hr => h r (k r hr)
theorem name_ok {n : Nat} (h : n < Nm.top) : okName (name n) := by have := name_size h; exact ⟨by omega, by omega⟩
theorem head_len {b n : Nat} (hb : b < Nm.top) (hn : n < Nm.top) : (headT b n).length < Nm.top := by
  have h1 := (Nm.cnt_spec b hb).2.2
  have h2 := (Nm.cnt_spec n hn).2.2
  unfold headT
  rw [List.length_append, List.length_append, Nm.grp_length, Nm.grp_length]
  simp [Cm.one, Nm.top]; omega
theorem segT_len {b snap : Nat} (hb : b < Nm.top) (hs : snap < Nm.top) {l : List R} (h : Good l) : ∀ t ∈ segT b snap l, t.length < Nm.top := by
  intro t ht
  rcases List.mem_cons.1 ht with rfl | ht
  · exact head_len hb hs
  · obtain ⟨r, hr, rfl⟩ := List.mem_map.1 ht
    exact (h r hr).2
theorem segT_app (b snap : Nat) (l m : List R) : segT b snap l ++ m.map text = segT b snap (l ++ m) := by simp [segT]
theorem segT_length (b snap : Nat) (l : List R) : (segT b snap l).length = l.length + 1 := by simp [segT]
theorem begins_ok {d : D} {n snap : Nat} {l : List R} (ho : d.off = false) (hf : find d.files (name n) = none) (hn : n < Nm.top) (hg : Good l) (hl : d.left = 0 ∨ l.length + 2 < d.left) :
    ∃ d', begins d n snap l = (.of .ok, d') ∧ Is d' (name n) (segT l.length snap l) (l.length + 1) ∧ d'.off = false ∧ d'.left = d.left - (l.length + 2) ∧ ∀ m, m ≠ name n → find d'.files m = find d.files m := by
  obtain ⟨d', h1, h2, h3, h4, h5⟩ := lay_all (segT l.length snap l) (T := []) (s := 0) (.inr ⟨rfl, rfl, hf⟩) (name_ok hn) ho (.inr (by simp [segT])) (by rw [segT_length]; exact hl)
  refine ⟨d', ?_, ?_, h3, by rw [h4, segT_length], h5⟩
  · unfold begins
    rw [ho, if_neg (by decide), hf, if_neg (by simp), hg.all, if_neg (by decide), h1]
  · rw [List.nil_append, segT_length] at h2; exact h2
theorem begins_down {d : D} {n snap : Nat} {l : List R} (ho : d.off = false) (hf : find d.files (name n) = none) (hn : n < Nm.top) (hg : Good l) (h1 : 1 ≤ d.left) (h2 : d.left ≤ l.length + 2) :
    ∃ d', begins d n snap l = (.of .down, d') ∧ Was d' (name n) ((segT l.length snap l).take (d.left - 1)) 0 ∧ d'.off = true ∧ d'.left = 0 ∧ ∀ m, m ≠ name n → find d'.files m = find d.files m := by
  obtain ⟨d', h1, h2, h3, h4, h5⟩ := lay_down (segT l.length snap l) (T := []) (s := 0) (.inr ⟨rfl, rfl, hf⟩) (name_ok hn) ho (.inr (by simp [segT])) h1 (by rw [segT_length]; exact h2)
  refine ⟨d', ?_, by rw [List.nil_append] at h2; exact h2, h3, h4, h5⟩
  unfold begins
  rw [ho, if_neg (by decide), hf, if_neg (by simp), hg.all, if_neg (by decide), h1]
theorem add_nil {d : D} (ho : d.off = false) (n : Nat) : add d n [] = (.ok, d) := by
  unfold add; rw [ho]; rfl
theorem add_ok {d : D} {n b snap s : Nat} {l m : List R} (ho : d.off = false) (hi : Is d (name n) (segT b snap l) s) (hn : n < Nm.top) (hg : Good m) (hm : m ≠ []) (hl : d.left = 0 ∨ m.length + 1 < d.left) :
    ∃ d', add d n m = (.ok, d') ∧ Is d' (name n) (segT b snap (l ++ m)) ((l ++ m).length + 1) ∧ d'.off = false ∧ d'.left = d.left - (m.length + 1) ∧ ∀ k, k ≠ name n → find d'.files k = find d.files k := by
  obtain ⟨d', h1, h2, h3, h4, h5⟩ := lay_all (m.map text) (.inl hi) (name_ok hn) ho (.inl hi) (by rw [List.length_map]; exact hl)
  refine ⟨d', ?_, by rw [segT_app, segT_length] at h2; exact h2, h3, by rw [h4, List.length_map], h5⟩
  unfold add
  rw [ho, if_neg (by decide), hg.all, if_neg (by decide), if_neg (by simpa using hm), h1]
theorem add_down {d : D} {n b snap s : Nat} {l m : List R} (ho : d.off = false) (hi : Is d (name n) (segT b snap l) s) (hn : n < Nm.top) (hg : Good m) (hm : m ≠ []) (h1 : 1 ≤ d.left) (h2 : d.left ≤ m.length + 1) :
    ∃ d', add d n m = (.down, d') ∧ Is d' (name n) (segT b snap (l ++ m.take (d.left - 1))) s ∧ d'.off = true ∧ d'.left = 0 ∧ ∀ k, k ≠ name n → find d'.files k = find d.files k := by
  obtain ⟨d', h1, h2, h3, h4, h5⟩ := lay_down (m.map text) (.inl hi) (name_ok hn) ho (.inl hi) h1 (by rw [List.length_map]; exact h2)
  refine ⟨d', ?_, ?_, h3, h4, h5⟩
  · unfold add
    rw [ho, if_neg (by decide), hg.all, if_neg (by decide), if_neg (by simpa using hm), h1]
  · rw [← List.map_take, segT_app] at h2
    rcases h2 with h2 | ⟨h2, _⟩
    · exact h2
    · simp [segT] at h2
theorem read_none {p : List UInt8} (h : row1 p = none) : read p = (0, [], false) := by
  unfold read; rw [rows_none h]
/-- What is read behind a crash: at least what was synced, and a beginning of what was laid. -/
theorem crash_read {d : D} {n b snap s : Nat} {l : List R} (hi : Is d (name n) (segT b snap l) s) (hs : s ≤ l.length + 1) (hb : b < Nm.top) (hp : snap < Nm.top) (hg : Good l) (keep torn : List Int) :
    ∃ m, s ≤ m ∧ m ≤ l.length + 1 ∧ (Dk.records (Dk.start (Dk.crash d keep torn)) (name n)).1 = m ∧
      readD (Dk.start (Dk.crash d keep torn)) n = (if m = 0 then (0, [], false) else (snap, l.take (m - 1), decide (b ≤ m - 1)), .ok) := by
  obtain ⟨f, m, p, h1, h2, h3, h4, h5, h6⟩ := crash_is hi (by rw [segT_length]; exact hs) (segT_len hb hp hg) keep torn
  rw [segT_length] at h3
  have h1' : find (Dk.start (Dk.crash d keep torn)).files (name n) = some f := h1
  refine ⟨m, h2, h3, ?_, ?_⟩
  · unfold Dk.records; rw [h1']; exact h4
  have hr : Dk.read (Dk.start (Dk.crash d keep torn)) (name n) = (Dk.bytes f, .ok) := by
    unfold Dk.read
    rw [if_neg (by show ¬ (false = true); decide), h1']
  unfold readD
  rw [hr]
  simp only [if_true]
  congr 1
  rw [h5]
  by_cases hm : m = 0
  · subst hm
    rw [if_pos rfl]
    exact read_none h6
  · rw [if_neg hm]
    obtain ⟨k, rfl⟩ : ∃ k, m = k + 1 := ⟨m - 1, by omega⟩
    have e : (segT b snap l).take (k + 1) = headT b snap :: (l.take k).map text := by simp [segT]
    rw [e, read_seg hb hp (fun r hr => (hg r (List.mem_of_mem_take hr)).1) (fun r hr => (hg r (List.mem_of_mem_take hr)).2) h6, List.length_take]
    simp only [Nat.add_sub_cancel]
    rw [Nat.min_eq_left (by omega)]
theorem none_read {d : D} {n : Nat} (h : find d.files (name n) = none) (keep torn : List Int) : readD (Dk.start (Dk.crash d keep torn)) n = ((0, [], false), .none) := by
  have h1 : find (Dk.start (Dk.crash d keep torn)).files (name n) = none := crash_none h keep torn
  have hr : Dk.read (Dk.start (Dk.crash d keep torn)) (name n) = ([], .none) := by
    unfold Dk.read
    rw [if_neg (by show ¬ (false = true); decide), h1]
  unfold readD
  rw [hr]
  rfl
/-! ### Numbers of records alone -/
theorem rd_lay {n : ByteArray} : ∀ {T T' : List (List UInt8)} {d e : D}, Dk.Rd d e → T.length = T'.length → (lay d n T).1 = (lay e n T').1 ∧ Dk.Rd (lay d n T).2 (lay e n T').2
  | [], [], _, _, h, _ => Dk.rd_sync h n
  | t :: T, t' :: T', d, e, h, hl => by
    obtain ⟨h1, h2⟩ := Dk.rd_append h n (ba (row t)) (ba (row t')) ⟨fun h => absurd h (row_size t), fun h => absurd h (row_size t')⟩
    unfold lay
    rw [← h1]
    split
    · exact rd_lay h2 (by simpa using hl)
    · exact ⟨h1, h2⟩
theorem rd_add {d e : D} (h : Dk.Rd d e) (n : Nat) {l m : List R} (hl : l.length = m.length) (hr : l.all right = m.all right) : (add d n l).1 = (add e n m).1 ∧ Dk.Rd (add d n l).2 (add e n m).2 := by
  unfold add
  have he : l.isEmpty = m.isEmpty := by cases l <;> cases m <;> simp_all
  rw [h.off, hr, he]
  split
  · exact ⟨rfl, h⟩
  split
  · exact ⟨rfl, h⟩
  split
  · exact ⟨rfl, h⟩
  · exact rd_lay h (by rw [List.length_map, List.length_map, hl])
theorem rd_crash {d e : D} (h : Dk.Rd d e) (keep torn : List Int) : Dk.Rd (Dk.start (Dk.crash d keep torn)) (Dk.start (Dk.crash e keep torn)) := ⟨Dk.rl_crash keep torn 0 h.files, rfl, h.left⟩
end Wl
end Go.Proofs.YtdcjhpnakbejkaaGreatDoor
