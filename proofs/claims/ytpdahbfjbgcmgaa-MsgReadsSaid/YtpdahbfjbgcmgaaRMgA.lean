/-
  The plain mathematics of layer 5 (msg): messages, which may be, their bytes, and how they are read. No program is named here.
  Messages as values, and how their entries lie in memory. WRITTEN BY wip/tools/gen_mgbase.py.
  msg.isNode, mayBeSent and Right walked.
  slices.Equal of entries walked.
-/
import Derived.Test.YtpdahbfjbgcmgaaREnA
import Derived.BigQuiet
set_option linter.unusedSimpArgs false
set_option linter.unusedVariables false
namespace Go.Proofs.Ytpdahbfjbgcmgaa
namespace Mg
open Cm (rdB rdV rdS rdB_iff rdV_iff rdS_iff txt one e0)
structure M where
  kind : Nat
  frm : Nat
  tto : Nat
  trm : Nat
  idx : Nat
  ltm : Nat
  com : Nat
  rnd : Nat
  ok : Bool
  mem : Nat
  sec : Nat
  ents : List En.E
  body : ByteArray
def zero : M := ⟨0, 0, 0, 0, 0, 0, 0, 0, false, 0, 0, [], e0⟩
/-- Numbers that fit. -/
structure Fits (m : M) : Prop where
  kind : m.kind < 256
  frm : m.frm < 256
  tto : m.tto < 256
  trm : m.trm < Nm.top
  idx : m.idx < Nm.top
  ltm : m.ltm < Nm.top
  com : m.com < Nm.top
  rnd : m.rnd < Nm.top
  mem : m.mem < 256
  sec : m.sec < 256
  ents : ∀ e ∈ m.ents, En.Fits e
theorem zero_fits : Fits zero := ⟨by decide, by decide, by decide, by decide, by decide, by decide, by decide, by decide, by decide, by decide, fun e he => by cases he⟩
def node (n : Nat) : Bool := decide (1 ≤ n) && decide (n ≤ 5)
def sent (es : List En.E) : Bool := decide (es.length ≤ 8) && es.all En.may
def may (m : M) : Bool := decide (1 ≤ m.kind) && (decide (m.kind ≤ 7) && (node m.frm && (node m.tto && (decide (m.mem ≤ 31) && (decide (m.sec ≤ 4) && sent m.ents)))))
def ok8 (b : Bool) : List UInt8 := [if b then 1 else 0]
def eb (es : List En.E) : List UInt8 := (es.map fun e => row (En.enc e)).flatten
theorem eb_cons (e : En.E) (es : List En.E) : eb (e :: es) = row (En.enc e) ++ eb es := rfl
def g5 (m : M) : List UInt8 := Nm.grp m.trm ++ (Nm.grp m.idx ++ (Nm.grp m.ltm ++ (Nm.grp m.com ++ Nm.grp m.rnd)))
def enc (m : M) : List UInt8 := (one m.kind ++ (one m.frm ++ one m.tto)) ++ (g5 m ++ (ok8 m.ok ++ (one m.mem ++ (one m.sec ++ (one m.ents.length ++ (eb m.ents ++ txt m.body))))))
def write (m : M) : List UInt8 := if may m = true then enc m else []

/-! Reading. -/
def rd3 (l : List UInt8) : Option ((Nat × Nat × Nat) × List UInt8) :=
  (rdB l).bind fun (a, l) => (rdB l).bind fun (b, l) => (rdB l).bind fun (c, l) => some ((a, b, c), l)
def rd5 (l : List UInt8) : Option ((Nat × Nat × Nat × Nat × Nat) × List UInt8) :=
  (rdV l).bind fun (a, l) => (rdV l).bind fun (b, l) => (rdV l).bind fun (c, l) => (rdV l).bind fun (d, l) => (rdV l).bind fun (e, l) => some ((a, b, c, d, e), l)
def rdT (l : List UInt8) : Option (Bool × List UInt8) := (rdB l).bind fun (n, l) => if n ≤ 1 then some (n == 1, l) else none
def rd1E (l : List UInt8) : Option (En.E × List UInt8) := (rdS l).bind fun (t, l) => (En.read t.data.toList).bind fun e => some (e, l)
def rdE : Nat → List UInt8 → Option (List En.E × List UInt8)
  | 0, l => some ([], l)
  | n + 1, l => (rd1E l).bind fun (e, l) => (rdE n l).bind fun (es, l) => some (e :: es, l)
def rdEs (l : List UInt8) : Option (List En.E × List UInt8) := (rdB l).bind fun (n, l) => rdE n l
def parse (l : List UInt8) : Option (M × List UInt8) :=
  (rd3 l).bind fun ((k, f, t), l) => (rd5 l).bind fun ((a, b, c, d, e), l) => (rdT l).bind fun (o, l) => (rdB l).bind fun (m, l) => (rdB l).bind fun (s, l) =>
    (rdEs l).bind fun (es, l) => (rdS l).bind fun (y, l) => some (⟨k, f, t, a, b, c, d, e, o, m, s, es, y⟩, l)
def fin (o : Option (M × List UInt8)) : Option M := o.bind fun (m, r) => if r = [] ∧ may m = true then some m else none
def read (l : List UInt8) : Option M := fin (parse l)

theorem rd3_iff (l : List UInt8) (a b c : Nat) (r : List UInt8) : rd3 l = some ((a, b, c), r) ↔ (a < 256 ∧ b < 256 ∧ c < 256) ∧ l = (one a ++ (one b ++ one c)) ++ r := by
  unfold rd3
  constructor
  · intro h
    simp only [Option.bind_eq_some_iff, Prod.exists, rdB_iff, Option.some.injEq, Prod.mk.injEq] at h
    obtain ⟨a, l1, ⟨g1, rfl⟩, b, l2, ⟨g2, rfl⟩, c, l3, ⟨g3, rfl⟩, ⟨rfl, rfl, rfl⟩, rfl⟩ := h
    exact ⟨⟨g1, g2, g3⟩, by simp⟩
  · rintro ⟨⟨g1, g2, g3⟩, rfl⟩
    rw [List.append_assoc, List.append_assoc, (rdB_iff _ _ _).2 ⟨g1, rfl⟩, Option.bind_some]
    simp only []
    rw [(rdB_iff _ _ _).2 ⟨g2, rfl⟩, Option.bind_some]
    simp only []
    rw [(rdB_iff _ _ _).2 ⟨g3, rfl⟩, Option.bind_some]
theorem rd5_iff (l : List UInt8) (a b c d e : Nat) (r : List UInt8) : rd5 l = some ((a, b, c, d, e), r) ↔ (a < Nm.top ∧ b < Nm.top ∧ c < Nm.top ∧ d < Nm.top ∧ e < Nm.top) ∧ l = (Nm.grp a ++ (Nm.grp b ++ (Nm.grp c ++ (Nm.grp d ++ Nm.grp e)))) ++ r := by
  unfold rd5
  constructor
  · intro h
    simp only [Option.bind_eq_some_iff, Prod.exists, rdV_iff, Option.some.injEq, Prod.mk.injEq] at h
    obtain ⟨a, l1, ⟨g1, rfl⟩, b, l2, ⟨g2, rfl⟩, c, l3, ⟨g3, rfl⟩, d, l4, ⟨g4, rfl⟩, e, l5, ⟨g5, rfl⟩, ⟨rfl, rfl, rfl, rfl, rfl⟩, rfl⟩ := h
    exact ⟨⟨g1, g2, g3, g4, g5⟩, by simp⟩
  · rintro ⟨⟨g1, g2, g3, g4, g5⟩, rfl⟩
    simp only [List.append_assoc]
    rw [(rdV_iff _ _ _).2 ⟨g1, rfl⟩, Option.bind_some]
    simp only []
    rw [(rdV_iff _ _ _).2 ⟨g2, rfl⟩, Option.bind_some]
    simp only []
    rw [(rdV_iff _ _ _).2 ⟨g3, rfl⟩, Option.bind_some]
    simp only []
    rw [(rdV_iff _ _ _).2 ⟨g4, rfl⟩, Option.bind_some]
    simp only []
    rw [(rdV_iff _ _ _).2 ⟨g5, rfl⟩, Option.bind_some]
theorem one_ok (b : Bool) : one (if b then 1 else 0) = ok8 b := by cases b <;> rfl
theorem rdT_iff (l : List UInt8) (b : Bool) (r : List UInt8) : rdT l = some (b, r) ↔ l = ok8 b ++ r := by
  unfold rdT
  constructor
  · intro h
    obtain ⟨⟨n, l1⟩, h1, h2⟩ := Option.bind_eq_some_iff.1 h
    simp only [] at h2
    obtain ⟨g1, rfl⟩ := (rdB_iff _ _ _).1 h1
    split at h2
    · rename_i hn
      simp only [Option.some.injEq, Prod.mk.injEq] at h2
      obtain ⟨rfl, rfl⟩ := h2
      have : n = 0 ∨ n = 1 := by omega
      rcases this with rfl | rfl <;> rfl
    · cases h2
  · rintro rfl
    rw [← one_ok, (rdB_iff _ _ _).2 ⟨by cases b <;> decide, rfl⟩, Option.bind_some]
    cases b <;> rfl
/-- An entry that a message may have in it. -/
structure In (e : En.E) : Prop where
  fits : En.Fits e
  body : e.body.size < Nm.top
  may : En.may e = true
  len : (En.enc e).length < Nm.top
theorem txt_mk (l : List UInt8) : txt ⟨l.toArray⟩ = row l := rfl
theorem size_mk (l : List UInt8) : (⟨l.toArray⟩ : ByteArray).size = l.length := by rw [Lib.size_eq]
theorem rd1E_iff (l : List UInt8) (e : En.E) (r : List UInt8) : rd1E l = some (e, r) ↔ In e ∧ l = row (En.enc e) ++ r := by
  unfold rd1E
  constructor
  · intro h
    obtain ⟨⟨t, l1⟩, h1, h2⟩ := Option.bind_eq_some_iff.1 h
    simp only [] at h2
    obtain ⟨d, h3, h4⟩ := Option.bind_eq_some_iff.1 h2
    simp only [Option.some.injEq, Prod.mk.injEq] at h4
    obtain ⟨rfl, rfl⟩ := h4
    obtain ⟨g1, rfl⟩ := (rdS_iff _ _ _).1 h1
    obtain ⟨⟨hf, hb⟩, hm, hl⟩ := (En.read_iff _ _).1 h3
    refine ⟨⟨hf, hb, hm, by rw [← hl, ← Lib.size_eq]; exact g1⟩, ?_⟩
    unfold txt
    rw [hl]
  · rintro ⟨⟨hf, hb, hm, hl⟩, rfl⟩
    rw [← txt_mk, (rdS_iff _ _ _).2 ⟨by rw [size_mk]; exact hl, rfl⟩, Option.bind_some]
    simp only []
    rw [(En.read_iff _ _).2 ⟨⟨hf, hb⟩, hm, rfl⟩, Option.bind_some]
theorem rdE_iff : ∀ (n : Nat) (l : List UInt8) (es : List En.E) (r : List UInt8), rdE n l = some (es, r) ↔ (es.length = n ∧ ∀ e ∈ es, In e) ∧ l = eb es ++ r
  | 0, l, es, r => by
    unfold rdE
    constructor
    · intro h
      simp only [Option.some.injEq, Prod.mk.injEq] at h
      obtain ⟨rfl, rfl⟩ := h
      exact ⟨⟨rfl, fun e he => by cases he⟩, rfl⟩
    · rintro ⟨⟨hn, _⟩, rfl⟩
      rw [List.length_eq_zero_iff] at hn
      subst hn; rfl
  | n + 1, l, es, r => by
    rw [rdE]
    constructor
    · intro h
      obtain ⟨⟨e, l1⟩, h1, h2⟩ := Option.bind_eq_some_iff.1 h
      simp only [] at h2
      obtain ⟨⟨fs, l2⟩, h3, h4⟩ := Option.bind_eq_some_iff.1 h2
      simp only [Option.some.injEq, Prod.mk.injEq] at h4
      obtain ⟨rfl, rfl⟩ := h4
      obtain ⟨g1, rfl⟩ := (rd1E_iff _ _ _).1 h1
      obtain ⟨⟨g2, g3⟩, rfl⟩ := (rdE_iff n _ _ _).1 h3
      refine ⟨⟨by simp [g2], fun x hx => ?_⟩, by rw [eb_cons, List.append_assoc]⟩
      rcases List.mem_cons.1 hx with rfl | hx
      · exact g1
      · exact g3 x hx
    · rintro ⟨⟨hn, hall⟩, rfl⟩
      cases es with
      | nil => simp at hn
      | cons e fs =>
        rw [eb_cons, List.append_assoc, (rd1E_iff _ _ _).2 ⟨hall e (by simp), rfl⟩, Option.bind_some]
        simp only []
        rw [(rdE_iff n _ _ _).2 ⟨⟨by simpa using hn, fun x hx => hall x (by simp [hx])⟩, rfl⟩, Option.bind_some]
theorem rdEs_iff (l : List UInt8) (es : List En.E) (r : List UInt8) : rdEs l = some (es, r) ↔ (es.length < 256 ∧ ∀ e ∈ es, In e) ∧ l = one es.length ++ (eb es ++ r) := by
  unfold rdEs
  constructor
  · intro h
    obtain ⟨⟨n, l1⟩, h1, h2⟩ := Option.bind_eq_some_iff.1 h
    simp only [] at h2
    obtain ⟨g1, rfl⟩ := (rdB_iff _ _ _).1 h1
    obtain ⟨⟨rfl, g3⟩, rfl⟩ := (rdE_iff _ _ _ _).1 h2
    exact ⟨⟨g1, g3⟩, rfl⟩
  · rintro ⟨⟨g1, g3⟩, rfl⟩
    rw [(rdB_iff _ _ _).2 ⟨g1, rfl⟩, Option.bind_some]
    exact (rdE_iff _ _ _ _).2 ⟨⟨rfl, g3⟩, rfl⟩
/-- What can be read: numbers that fit, texts that a row can hold, entries that may be. -/
structure Shape (m : M) : Prop where
  fits : Fits m
  body : m.body.size < Nm.top
  len : m.ents.length < 256
  ents : ∀ e ∈ m.ents, In e
theorem parse_iff (l : List UInt8) (m : M) (r : List UInt8) : parse l = some (m, r) ↔ Shape m ∧ l = enc m ++ r := by
  unfold parse
  constructor
  · intro h
    obtain ⟨⟨⟨k, f, t⟩, l1⟩, h1, h⟩ := Option.bind_eq_some_iff.1 h
    simp only [] at h
    obtain ⟨⟨⟨a, b, c, d, e⟩, l2⟩, h2, h⟩ := Option.bind_eq_some_iff.1 h
    simp only [] at h
    obtain ⟨⟨o, l3⟩, h3, h⟩ := Option.bind_eq_some_iff.1 h
    simp only [] at h
    obtain ⟨⟨mm, l4⟩, h4, h⟩ := Option.bind_eq_some_iff.1 h
    simp only [] at h
    obtain ⟨⟨s, l5⟩, h5, h⟩ := Option.bind_eq_some_iff.1 h
    simp only [] at h
    obtain ⟨⟨es, l6⟩, h6, h⟩ := Option.bind_eq_some_iff.1 h
    simp only [] at h
    obtain ⟨⟨y, l7⟩, h7, h⟩ := Option.bind_eq_some_iff.1 h
    simp only [Option.some.injEq, Prod.mk.injEq] at h
    obtain ⟨rfl, rfl⟩ := h
    obtain ⟨⟨a1, a2, a3⟩, rfl⟩ := (rd3_iff _ _ _ _ _).1 h1
    obtain ⟨⟨b1, b2, b3, b4, b5⟩, rfl⟩ := (rd5_iff _ _ _ _ _ _ _).1 h2
    obtain rfl := (rdT_iff _ _ _).1 h3
    obtain ⟨c4, rfl⟩ := (rdB_iff _ _ _).1 h4
    obtain ⟨c5, rfl⟩ := (rdB_iff _ _ _).1 h5
    obtain ⟨⟨c6, c7⟩, rfl⟩ := (rdEs_iff _ _ _).1 h6
    obtain ⟨c8, rfl⟩ := (rdS_iff _ _ _).1 h7
    exact ⟨⟨⟨a1, a2, a3, b1, b2, b3, b4, b5, c4, c5, fun e he => (c7 e he).fits⟩, c8, c6, c7⟩, by simp [enc, g5]⟩
  · rintro ⟨⟨hf, hb, hl, he⟩, rfl⟩
    unfold enc
    rw [List.append_assoc, (rd3_iff _ _ _ _ _).2 ⟨⟨hf.kind, hf.frm, hf.tto⟩, rfl⟩, Option.bind_some]
    simp only []
    unfold g5
    rw [List.append_assoc (Nm.grp m.trm ++ _), (rd5_iff _ _ _ _ _ _ _).2 ⟨⟨hf.trm, hf.idx, hf.ltm, hf.com, hf.rnd⟩, rfl⟩, Option.bind_some]
    simp only []
    rw [List.append_assoc, (rdT_iff _ _ _).2 rfl, Option.bind_some]
    simp only []
    rw [List.append_assoc, (rdB_iff _ _ _).2 ⟨hf.mem, rfl⟩, Option.bind_some]
    simp only []
    rw [List.append_assoc, (rdB_iff _ _ _).2 ⟨hf.sec, rfl⟩, Option.bind_some]
    simp only []
    rw [List.append_assoc, List.append_assoc, (rdEs_iff _ _ _).2 ⟨⟨hl, he⟩, rfl⟩, Option.bind_some]
    simp only []
    rw [(rdS_iff _ _ _).2 ⟨hb, rfl⟩, Option.bind_some]
theorem read_iff (l : List UInt8) (m : M) : read l = some m ↔ Shape m ∧ may m = true ∧ l = enc m := by
  unfold read fin
  constructor
  · intro h
    obtain ⟨⟨d, r⟩, h1, h'⟩ := Option.bind_eq_some_iff.1 h
    simp only [] at h'
    split at h'
    · rename_i hr
      injection h' with h'
      subst h'
      obtain ⟨hr, hm⟩ := hr
      subst hr
      obtain ⟨hs, hl⟩ := (parse_iff _ _ _).1 h1
      exact ⟨hs, hm, by rw [hl, List.append_nil]⟩
    · cases h'
  · rintro ⟨hs, hm, rfl⟩
    have := (parse_iff (enc m ++ []) m []).2 ⟨hs, rfl⟩
    rw [List.append_nil] at this
    rw [this, Option.bind_some]
    simp [hm]
theorem read_more {m : M} (hs : Shape m) (hm : may m = true) (r : List UInt8) : read (enc m ++ r) = if r = [] then some m else none := by
  unfold read fin
  rw [(parse_iff _ _ _).2 ⟨hs, rfl⟩, Option.bind_some]
  simp [hm]
theorem read_less {m : M} (hs : Shape m) (hm : may m = true) (k : Nat) (hk : k < (enc m).length) : read ((enc m).take k) = none := by
  rcases h : read ((enc m).take k) with _ | d
  · rfl
  · exfalso
    obtain ⟨hs2, hm2, hl⟩ := (read_iff _ _).1 h
    have h1 := (parse_iff (enc d ++ (enc m).drop k) d ((enc m).drop k)).2 ⟨hs2, rfl⟩
    rw [← hl, List.take_append_drop] at h1
    have h2 := (parse_iff (enc m ++ []) m []).2 ⟨hs, rfl⟩
    rw [List.append_nil, h1] at h2
    simp only [Option.some.injEq, Prod.mk.injEq] at h2
    have := congrArg List.length h2.2
    simp at this; omega
theorem enc_ne (m : M) : enc m ≠ [] := by unfold enc one; simp
/-- The sizes of all texts. -/
def big : List En.E → Nat
  | [] => 0
  | e :: es => e.body.size + big es
theorem big_mem : ∀ (es : List En.E) (e : En.E), e ∈ es → e.body.size ≤ big es
  | x :: xs, e, h => by
    unfold big
    rcases List.mem_cons.1 h with rfl | h
    · omega
    · have := big_mem xs e h; omega
theorem row_len (l : List UInt8) (h : l.length < Nm.top) : (row l).length ≤ 10 + l.length := by
  have := grp_len l.length h
  unfold row
  rw [List.length_append]; omega
theorem eb_len : ∀ (es : List En.E), (∀ e ∈ es, En.Fits e) → big es ≤ 1000000 → (eb es).length ≤ 60 * es.length + big es
  | [], _, _ => by simp [eb]
  | e :: es, h, hb => by
    unfold big at hb ⊢
    have h1 := eb_len es (fun x hx => h x (by simp [hx])) (by omega)
    have hz : e.body.size < Nm.top := by unfold Nm.top; omega
    have h2 := En.enc_len e (h e (by simp)) hz
    have h3 := row_len (En.enc e) (by unfold Nm.top; omega)
    rw [eb_cons, List.length_append, List.length_cons]
    omega
theorem shape_of {m : M} (hf : Fits m) (hm : may m = true) (hb : m.body.size ≤ 1000000) (he : big m.ents ≤ 1000000) : Shape m := by
  unfold may sent at hm
  simp only [Bool.and_eq_true, decide_eq_true_eq, List.all_eq_true] at hm
  obtain ⟨_, _, _, _, _, _, hl, ha⟩ := hm
  refine ⟨hf, by unfold Nm.top; omega, by omega, fun e h => ?_⟩
  have hz := big_mem _ _ h
  have hz2 : e.body.size < Nm.top := by unfold Nm.top; omega
  have := En.enc_len e (hf.ents e h) hz2
  exact ⟨hf.ents e h, hz2, ha e h, by unfold Nm.top at *; omega⟩
theorem may_len {m : M} (hm : may m = true) : m.ents.length ≤ 8 := by
  unfold may sent at hm
  simp only [Bool.and_eq_true, decide_eq_true_eq, List.all_eq_true] at hm
  exact hm.2.2.2.2.2.2.1
theorem enc_len {m : M} (hf : Fits m) (hb : m.body.size ≤ 1000000) (he : big m.ents ≤ 1000000) : (enc m).length ≤ 100 + 60 * m.ents.length + big m.ents + m.body.size := by
  have h1 := grp_len m.trm hf.trm
  have h2 := grp_len m.idx hf.idx
  have h3 := grp_len m.ltm hf.ltm
  have h4 := grp_len m.com hf.com
  have h5 := grp_len m.rnd hf.rnd
  have h6 := eb_len m.ents hf.ents he
  have h7 : (txt m.body).length ≤ 10 + m.body.size := by
    unfold txt
    have := row_len m.body.data.toList (by rw [← Lib.size_eq]; unfold Nm.top; omega)
    rw [← Lib.size_eq] at this; exact this
  have o1 : ∀ n, (one n).length = 1 := fun _ => rfl
  have o2 : ∀ b, (ok8 b).length = 1 := fun _ => rfl
  unfold enc g5
  simp only [List.length_append, o1, o2]
  omega
end Mg
end Go.Proofs.Ytpdahbfjbgcmgaa
namespace Go.Proofs.Ytpdahbfjbgcmgaa
open Go.RowKit

/-- The cells of many entries. -/
def ec1 (e : En.E) : List Value := [.int .u64 (e.idx : Int), .int .u64 (e.trm : Int), .int .u8 (e.kind : Int), .int .u8 (e.slot : Int), .int .u8 (e.tok.a0.toNat : Int), .int .u8 (e.tok.a1.toNat : Int), .int .u8 (e.tok.a2.toNat : Int), .int .u8 (e.tok.a3.toNat : Int), .int .u8 (e.tok.a4.toNat : Int), .int .u8 (e.tok.a5.toNat : Int), .int .u8 (e.tok.a6.toNat : Int), .int .u8 (e.tok.a7.toNat : Int), .string e.body]
def ec (es : List En.E) : List Value := (es.map ec1).flatten
theorem ec1_toList (e : En.E) : (entC e).toList = ec1 e := rfl
theorem ec1_length (e : En.E) : (ec1 e).length = 13 := rfl
theorem ec_length (es : List En.E) : (ec es).length = 13 * es.length := by
  induction es with
  | nil => rfl
  | cons e es ih =>
    have h : ec (e :: es) = ec1 e ++ ec es := rfl
    rw [h, List.length_append, ih, List.length_cons, ec1_length]; omega
theorem ec_at : ∀ (es : List En.E) (i : Nat) (h : i < es.length) (j : Nat), j < 13 → (ec es)[13 * i + j]? = (ec1 es[i])[j]?
  | e :: es, 0, _, j, hj => by
    show (ec1 e ++ ec es)[13 * 0 + j]? = _
    rw [List.getElem?_append_left (by rw [ec1_length]; omega)]
    congr 1; omega
  | e :: es, i + 1, h, j, hj => by
    have k := ec_at es i (by simpa using h) j hj
    show (ec1 e ++ ec es)[13 * (i + 1) + j]? = _
    rw [List.getElem?_append_right (by rw [ec1_length]; omega), ec1_length]
    have e2 : 13 * (i + 1) + j - 13 = 13 * i + j := by omega
    rw [e2, k]; rfl
/-- An entry whose cells lie from here on. -/
structure EntL (W : World) (b o : Nat) (e : En.E) : Prop where
  lt : b < W.heap.size
  c0 : W.cell? ⟨b, o, none⟩ = some (.int .u64 (e.idx : Int))
  c1 : W.cell? ⟨b, o + 1, none⟩ = some (.int .u64 (e.trm : Int))
  c2 : W.cell? ⟨b, o + 2, none⟩ = some (.int .u8 (e.kind : Int))
  c3 : W.cell? ⟨b, o + 3, none⟩ = some (.int .u8 (e.slot : Int))
  c4 : W.cell? ⟨b, o + 4, none⟩ = some (.int .u8 (e.tok.a0.toNat : Int))
  c5 : W.cell? ⟨b, o + 5, none⟩ = some (.int .u8 (e.tok.a1.toNat : Int))
  c6 : W.cell? ⟨b, o + 6, none⟩ = some (.int .u8 (e.tok.a2.toNat : Int))
  c7 : W.cell? ⟨b, o + 7, none⟩ = some (.int .u8 (e.tok.a3.toNat : Int))
  c8 : W.cell? ⟨b, o + 8, none⟩ = some (.int .u8 (e.tok.a4.toNat : Int))
  c9 : W.cell? ⟨b, o + 9, none⟩ = some (.int .u8 (e.tok.a5.toNat : Int))
  c10 : W.cell? ⟨b, o + 10, none⟩ = some (.int .u8 (e.tok.a6.toNat : Int))
  c11 : W.cell? ⟨b, o + 11, none⟩ = some (.int .u8 (e.tok.a7.toNat : Int))
  c12 : W.cell? ⟨b, o + 12, none⟩ = some (.string e.body)
theorem EntL.bel {W W' : World} {b o : Nat} {e : En.E} (h : EntL W b o e) (hb : Below W.heap.size W W') : EntL W' b o e :=
  ⟨Nat.lt_of_lt_of_le h.lt hb.size, later hb h.c0, later hb h.c1, later hb h.c2, later hb h.c3, later hb h.c4, later hb h.c5, later hb h.c6, later hb h.c7, later hb h.c8, later hb h.c9, later hb h.c10, later hb h.c11, later hb h.c12⟩
theorem EntL.of {W : World} {b o : Nat} {e : En.E} (hlt : b < W.heap.size) (h : ∀ j, j < 13 → W.cell? ⟨b, o + j, none⟩ = (ec1 e)[j]?) : EntL W b o e :=
  ⟨hlt, h 0 (by decide), h 1 (by decide), h 2 (by decide), h 3 (by decide), h 4 (by decide), h 5 (by decide), h 6 (by decide), h 7 (by decide), h 8 (by decide), h 9 (by decide), h 10 (by decide), h 11 (by decide), h 12 (by decide)⟩
/-- Where entry i of such a slice lies. -/
theorem Lies.ent {w : World} {A : Option Addr} {es : List En.E} (h : Lies w A (ec es)) (i : Nat) (hi : i < es.length) :
    ∃ b off, A = some ⟨b, off, none⟩ ∧ EntL w b (off + i * 13) es[i] := by
  rcases h with h | ⟨b, off, rfl, hb, hc⟩
  · exfalso
    have := ec_length es
    rw [h] at this
    simp at this; omega
  · refine ⟨b, off, rfl, EntL.of hb fun j hj => ?_⟩
    have hk := ec_at es i hi j hj
    have hl : j < (ec1 es[i]).length := by rw [ec1_length]; exact hj
    rw [List.getElem?_eq_getElem hl] at hk ⊢
    have := hc _ _ hk
    rw [Nat.add_assoc, Nat.mul_comm i 13]
    exact this
/-- A message's cells, and the message as a value. -/
def msgC (m : Mg.M) (A : Option Addr) (cap : Nat) : Array Value := #[.int .u8 (m.kind : Int), .int .u8 (m.frm : Int), .int .u8 (m.tto : Int), .int .u64 (m.trm : Int), .int .u64 (m.idx : Int), .int .u64 (m.ltm : Int), .int .u64 (m.com : Int), .int .u64 (m.rnd : Int), .bool m.ok, .int .u8 (m.mem : Int), .int .u8 (m.sec : Int), .slice A m.ents.length cap, .string m.body]
/-- What the walk asks of them. -/
structure MsgF (X : Array Value) (m : Mg.M) (A : Option Addr) (cap : Nat) : Prop where
  size : X.size = 13
  one : X.all (·.oneCell') = true
  f0 : ∀ h, X[0]'h = .int .u8 (m.kind : Int)
  f1 : ∀ h, X[1]'h = .int .u8 (m.frm : Int)
  f2 : ∀ h, X[2]'h = .int .u8 (m.tto : Int)
  f3 : ∀ h, X[3]'h = .int .u64 (m.trm : Int)
  f4 : ∀ h, X[4]'h = .int .u64 (m.idx : Int)
  f5 : ∀ h, X[5]'h = .int .u64 (m.ltm : Int)
  f6 : ∀ h, X[6]'h = .int .u64 (m.com : Int)
  f7 : ∀ h, X[7]'h = .int .u64 (m.rnd : Int)
  f8 : ∀ h, X[8]'h = .bool m.ok
  f9 : ∀ h, X[9]'h = .int .u8 (m.mem : Int)
  f10 : ∀ h, X[10]'h = .int .u8 (m.sec : Int)
  f11 : ∀ h, X[11]'h = .slice A m.ents.length cap
  f12 : ∀ h, X[12]'h = .string m.body
theorem msgF (m : Mg.M) (A : Option Addr) (cap : Nat) : MsgF (msgC m A cap) m A cap :=
  ⟨rfl, by simp [msgC, Value.oneCell'], fun _ => rfl, fun _ => rfl, fun _ => rfl, fun _ => rfl, fun _ => rfl, fun _ => rfl, fun _ => rfl, fun _ => rfl, fun _ => rfl, fun _ => rfl, fun _ => rfl, fun _ => rfl, fun _ => rfl⟩
/-- A message that lies in block g. -/
structure MsgAt (W : World) (g : Nat) (m : Mg.M) (A : Option Addr) (cap : Nat) : Prop where
  c0 : W.cell? ⟨g, 0, none⟩ = some (.int .u8 (m.kind : Int))
  c1 : W.cell? ⟨g, 1, none⟩ = some (.int .u8 (m.frm : Int))
  c2 : W.cell? ⟨g, 2, none⟩ = some (.int .u8 (m.tto : Int))
  c3 : W.cell? ⟨g, 3, none⟩ = some (.int .u64 (m.trm : Int))
  c4 : W.cell? ⟨g, 4, none⟩ = some (.int .u64 (m.idx : Int))
  c5 : W.cell? ⟨g, 5, none⟩ = some (.int .u64 (m.ltm : Int))
  c6 : W.cell? ⟨g, 6, none⟩ = some (.int .u64 (m.com : Int))
  c7 : W.cell? ⟨g, 7, none⟩ = some (.int .u64 (m.rnd : Int))
  c8 : W.cell? ⟨g, 8, none⟩ = some (.bool m.ok)
  c9 : W.cell? ⟨g, 9, none⟩ = some (.int .u8 (m.mem : Int))
  c10 : W.cell? ⟨g, 10, none⟩ = some (.int .u8 (m.sec : Int))
  c11 : W.cell? ⟨g, 11, none⟩ = some (.slice A m.ents.length cap)
  c12 : W.cell? ⟨g, 12, none⟩ = some (.string m.body)
  fz : ∀ i, W.frozen? ⟨g, i, none⟩ = false
theorem msgAt {W : World} {g : Nat} {m : Mg.M} {A : Option Addr} {cap : Nat} (h : W.heap[g]? = some (.cells (msgC m A cap) 63 (0, 0))) : MsgAt W g m A cap :=
  ⟨cell_of_row W g 0 _ _ _ h, cell_of_row W g 1 _ _ _ h, cell_of_row W g 2 _ _ _ h, cell_of_row W g 3 _ _ _ h, cell_of_row W g 4 _ _ _ h, cell_of_row W g 5 _ _ _ h, cell_of_row W g 6 _ _ _ h, cell_of_row W g 7 _ _ _ h, cell_of_row W g 8 _ _ _ h, cell_of_row W g 9 _ _ _ h, cell_of_row W g 10 _ _ _ h, cell_of_row W g 11 _ _ _ h, cell_of_row W g 12 _ _ _ h, fun i => frozen_of_row W g i _ _ h⟩
theorem sizeMsg : (Try.prog.info? 63).map (·.size) = some 13 := by kernel_rfl
theorem storeMsg (X : Array Value) (hs : X.size = 13) (ho : X.all (·.oneCell') = true) (W : World) : (storeCells ⟨W.heap.size, 0, none⟩ X.toList 0).run Try.prog (W.alloc (.cells #[.int .u8 0, .int .u8 0, .int .u8 0, .int .u64 0, .int .u64 0, .int .u64 0, .int .u64 0, .int .u64 0, .bool false, .int .u8 0, .int .u8 0, .slice none 0 0, .string ⟨#[]⟩] 63)) = .ok () (W.alloc (.cells X 63)) :=
  run_storeCells_new (P := Try.prog) W 63 _ X (by rw [hs]; exact sizeMsg) (by rw [hs]; rfl) ho
/-- A message laid over a row, cell by cell. -/
theorem msgPut {W : World} {g : Nat} {z m : Mg.M} {B A : Option Addr} {cz cap : Nat} (h : W.heap[g]? = some (.cells (msgC z B cz) 63 (0, 0))) :
    (((((((((((((W.setCell ⟨g, 0, none⟩ (.int .u8 (m.kind : Int))).setCell ⟨g, 1, none⟩ (.int .u8 (m.frm : Int))).setCell ⟨g, 2, none⟩ (.int .u8 (m.tto : Int))).setCell ⟨g, 3, none⟩ (.int .u64 (m.trm : Int))).setCell ⟨g, 4, none⟩ (.int .u64 (m.idx : Int))).setCell ⟨g, 5, none⟩ (.int .u64 (m.ltm : Int))).setCell ⟨g, 6, none⟩ (.int .u64 (m.com : Int))).setCell ⟨g, 7, none⟩ (.int .u64 (m.rnd : Int))).setCell ⟨g, 8, none⟩ (.bool m.ok)).setCell ⟨g, 9, none⟩ (.int .u8 (m.mem : Int))).setCell ⟨g, 10, none⟩ (.int .u8 (m.sec : Int))).setCell ⟨g, 11, none⟩ (.slice A m.ents.length cap)).setCell ⟨g, 12, none⟩ (.string m.body)).heap[g]? = some (.cells (msgC m A cap) 63 (0, 0)) := by
  have s0 := heap_setCell_same W g 0 _ _ (.int .u8 (m.kind : Int)) h
  have s1 := heap_setCell_same ((W.setCell ⟨g, 0, none⟩ (.int .u8 (m.kind : Int)))) g 1 _ _ (.int .u8 (m.frm : Int)) s0
  have s2 := heap_setCell_same (((W.setCell ⟨g, 0, none⟩ (.int .u8 (m.kind : Int))).setCell ⟨g, 1, none⟩ (.int .u8 (m.frm : Int)))) g 2 _ _ (.int .u8 (m.tto : Int)) s1
  have s3 := heap_setCell_same ((((W.setCell ⟨g, 0, none⟩ (.int .u8 (m.kind : Int))).setCell ⟨g, 1, none⟩ (.int .u8 (m.frm : Int))).setCell ⟨g, 2, none⟩ (.int .u8 (m.tto : Int)))) g 3 _ _ (.int .u64 (m.trm : Int)) s2
  have s4 := heap_setCell_same (((((W.setCell ⟨g, 0, none⟩ (.int .u8 (m.kind : Int))).setCell ⟨g, 1, none⟩ (.int .u8 (m.frm : Int))).setCell ⟨g, 2, none⟩ (.int .u8 (m.tto : Int))).setCell ⟨g, 3, none⟩ (.int .u64 (m.trm : Int)))) g 4 _ _ (.int .u64 (m.idx : Int)) s3
  have s5 := heap_setCell_same ((((((W.setCell ⟨g, 0, none⟩ (.int .u8 (m.kind : Int))).setCell ⟨g, 1, none⟩ (.int .u8 (m.frm : Int))).setCell ⟨g, 2, none⟩ (.int .u8 (m.tto : Int))).setCell ⟨g, 3, none⟩ (.int .u64 (m.trm : Int))).setCell ⟨g, 4, none⟩ (.int .u64 (m.idx : Int)))) g 5 _ _ (.int .u64 (m.ltm : Int)) s4
  have s6 := heap_setCell_same (((((((W.setCell ⟨g, 0, none⟩ (.int .u8 (m.kind : Int))).setCell ⟨g, 1, none⟩ (.int .u8 (m.frm : Int))).setCell ⟨g, 2, none⟩ (.int .u8 (m.tto : Int))).setCell ⟨g, 3, none⟩ (.int .u64 (m.trm : Int))).setCell ⟨g, 4, none⟩ (.int .u64 (m.idx : Int))).setCell ⟨g, 5, none⟩ (.int .u64 (m.ltm : Int)))) g 6 _ _ (.int .u64 (m.com : Int)) s5
  have s7 := heap_setCell_same ((((((((W.setCell ⟨g, 0, none⟩ (.int .u8 (m.kind : Int))).setCell ⟨g, 1, none⟩ (.int .u8 (m.frm : Int))).setCell ⟨g, 2, none⟩ (.int .u8 (m.tto : Int))).setCell ⟨g, 3, none⟩ (.int .u64 (m.trm : Int))).setCell ⟨g, 4, none⟩ (.int .u64 (m.idx : Int))).setCell ⟨g, 5, none⟩ (.int .u64 (m.ltm : Int))).setCell ⟨g, 6, none⟩ (.int .u64 (m.com : Int)))) g 7 _ _ (.int .u64 (m.rnd : Int)) s6
  have s8 := heap_setCell_same (((((((((W.setCell ⟨g, 0, none⟩ (.int .u8 (m.kind : Int))).setCell ⟨g, 1, none⟩ (.int .u8 (m.frm : Int))).setCell ⟨g, 2, none⟩ (.int .u8 (m.tto : Int))).setCell ⟨g, 3, none⟩ (.int .u64 (m.trm : Int))).setCell ⟨g, 4, none⟩ (.int .u64 (m.idx : Int))).setCell ⟨g, 5, none⟩ (.int .u64 (m.ltm : Int))).setCell ⟨g, 6, none⟩ (.int .u64 (m.com : Int))).setCell ⟨g, 7, none⟩ (.int .u64 (m.rnd : Int)))) g 8 _ _ (.bool m.ok) s7
  have s9 := heap_setCell_same ((((((((((W.setCell ⟨g, 0, none⟩ (.int .u8 (m.kind : Int))).setCell ⟨g, 1, none⟩ (.int .u8 (m.frm : Int))).setCell ⟨g, 2, none⟩ (.int .u8 (m.tto : Int))).setCell ⟨g, 3, none⟩ (.int .u64 (m.trm : Int))).setCell ⟨g, 4, none⟩ (.int .u64 (m.idx : Int))).setCell ⟨g, 5, none⟩ (.int .u64 (m.ltm : Int))).setCell ⟨g, 6, none⟩ (.int .u64 (m.com : Int))).setCell ⟨g, 7, none⟩ (.int .u64 (m.rnd : Int))).setCell ⟨g, 8, none⟩ (.bool m.ok))) g 9 _ _ (.int .u8 (m.mem : Int)) s8
  have s10 := heap_setCell_same (((((((((((W.setCell ⟨g, 0, none⟩ (.int .u8 (m.kind : Int))).setCell ⟨g, 1, none⟩ (.int .u8 (m.frm : Int))).setCell ⟨g, 2, none⟩ (.int .u8 (m.tto : Int))).setCell ⟨g, 3, none⟩ (.int .u64 (m.trm : Int))).setCell ⟨g, 4, none⟩ (.int .u64 (m.idx : Int))).setCell ⟨g, 5, none⟩ (.int .u64 (m.ltm : Int))).setCell ⟨g, 6, none⟩ (.int .u64 (m.com : Int))).setCell ⟨g, 7, none⟩ (.int .u64 (m.rnd : Int))).setCell ⟨g, 8, none⟩ (.bool m.ok)).setCell ⟨g, 9, none⟩ (.int .u8 (m.mem : Int)))) g 10 _ _ (.int .u8 (m.sec : Int)) s9
  have s11 := heap_setCell_same ((((((((((((W.setCell ⟨g, 0, none⟩ (.int .u8 (m.kind : Int))).setCell ⟨g, 1, none⟩ (.int .u8 (m.frm : Int))).setCell ⟨g, 2, none⟩ (.int .u8 (m.tto : Int))).setCell ⟨g, 3, none⟩ (.int .u64 (m.trm : Int))).setCell ⟨g, 4, none⟩ (.int .u64 (m.idx : Int))).setCell ⟨g, 5, none⟩ (.int .u64 (m.ltm : Int))).setCell ⟨g, 6, none⟩ (.int .u64 (m.com : Int))).setCell ⟨g, 7, none⟩ (.int .u64 (m.rnd : Int))).setCell ⟨g, 8, none⟩ (.bool m.ok)).setCell ⟨g, 9, none⟩ (.int .u8 (m.mem : Int))).setCell ⟨g, 10, none⟩ (.int .u8 (m.sec : Int)))) g 11 _ _ (.slice A m.ents.length cap) s10
  have s12 := heap_setCell_same (((((((((((((W.setCell ⟨g, 0, none⟩ (.int .u8 (m.kind : Int))).setCell ⟨g, 1, none⟩ (.int .u8 (m.frm : Int))).setCell ⟨g, 2, none⟩ (.int .u8 (m.tto : Int))).setCell ⟨g, 3, none⟩ (.int .u64 (m.trm : Int))).setCell ⟨g, 4, none⟩ (.int .u64 (m.idx : Int))).setCell ⟨g, 5, none⟩ (.int .u64 (m.ltm : Int))).setCell ⟨g, 6, none⟩ (.int .u64 (m.com : Int))).setCell ⟨g, 7, none⟩ (.int .u64 (m.rnd : Int))).setCell ⟨g, 8, none⟩ (.bool m.ok)).setCell ⟨g, 9, none⟩ (.int .u8 (m.mem : Int))).setCell ⟨g, 10, none⟩ (.int .u8 (m.sec : Int))).setCell ⟨g, 11, none⟩ (.slice A m.ents.length cap))) g 12 _ _ (.string m.body) s11
  rw [s12]
  simp [msgC]
theorem msgBelow {W w : World} {B g : Nat} {m : Mg.M} {A : Option Addr} {cap : Nat} (h : Below B w W) (hg : B ≤ g) :
    Below B w (((((((((((((W.setCell ⟨g, 0, none⟩ (.int .u8 (m.kind : Int))).setCell ⟨g, 1, none⟩ (.int .u8 (m.frm : Int))).setCell ⟨g, 2, none⟩ (.int .u8 (m.tto : Int))).setCell ⟨g, 3, none⟩ (.int .u64 (m.trm : Int))).setCell ⟨g, 4, none⟩ (.int .u64 (m.idx : Int))).setCell ⟨g, 5, none⟩ (.int .u64 (m.ltm : Int))).setCell ⟨g, 6, none⟩ (.int .u64 (m.com : Int))).setCell ⟨g, 7, none⟩ (.int .u64 (m.rnd : Int))).setCell ⟨g, 8, none⟩ (.bool m.ok)).setCell ⟨g, 9, none⟩ (.int .u8 (m.mem : Int))).setCell ⟨g, 10, none⟩ (.int .u8 (m.sec : Int))).setCell ⟨g, 11, none⟩ (.slice A m.ents.length cap)).setCell ⟨g, 12, none⟩ (.string m.body)) :=
  (((((((((((((h.setCell (p := ⟨g, 0, none⟩) hg _).setCell (p := ⟨g, 1, none⟩) hg _).setCell (p := ⟨g, 2, none⟩) hg _).setCell (p := ⟨g, 3, none⟩) hg _).setCell (p := ⟨g, 4, none⟩) hg _).setCell (p := ⟨g, 5, none⟩) hg _).setCell (p := ⟨g, 6, none⟩) hg _).setCell (p := ⟨g, 7, none⟩) hg _).setCell (p := ⟨g, 8, none⟩) hg _).setCell (p := ⟨g, 9, none⟩) hg _).setCell (p := ⟨g, 10, none⟩) hg _).setCell (p := ⟨g, 11, none⟩) hg _).setCell (p := ⟨g, 12, none⟩) hg _)
theorem msgOther {W : World} {g k : Nat} {m : Mg.M} {A : Option Addr} {cap : Nat} (h : k ≠ g) :
    (((((((((((((W.setCell ⟨g, 0, none⟩ (.int .u8 (m.kind : Int))).setCell ⟨g, 1, none⟩ (.int .u8 (m.frm : Int))).setCell ⟨g, 2, none⟩ (.int .u8 (m.tto : Int))).setCell ⟨g, 3, none⟩ (.int .u64 (m.trm : Int))).setCell ⟨g, 4, none⟩ (.int .u64 (m.idx : Int))).setCell ⟨g, 5, none⟩ (.int .u64 (m.ltm : Int))).setCell ⟨g, 6, none⟩ (.int .u64 (m.com : Int))).setCell ⟨g, 7, none⟩ (.int .u64 (m.rnd : Int))).setCell ⟨g, 8, none⟩ (.bool m.ok)).setCell ⟨g, 9, none⟩ (.int .u8 (m.mem : Int))).setCell ⟨g, 10, none⟩ (.int .u8 (m.sec : Int))).setCell ⟨g, 11, none⟩ (.slice A m.ents.length cap)).setCell ⟨g, 12, none⟩ (.string m.body)).heap[k]? = W.heap[k]? :=
  (Below.heap_setCell _ _ _ _ (by simp; exact h)).trans ((Below.heap_setCell _ _ _ _ (by simp; exact h)).trans ((Below.heap_setCell _ _ _ _ (by simp; exact h)).trans ((Below.heap_setCell _ _ _ _ (by simp; exact h)).trans ((Below.heap_setCell _ _ _ _ (by simp; exact h)).trans ((Below.heap_setCell _ _ _ _ (by simp; exact h)).trans ((Below.heap_setCell _ _ _ _ (by simp; exact h)).trans ((Below.heap_setCell _ _ _ _ (by simp; exact h)).trans ((Below.heap_setCell _ _ _ _ (by simp; exact h)).trans ((Below.heap_setCell _ _ _ _ (by simp; exact h)).trans ((Below.heap_setCell _ _ _ _ (by simp; exact h)).trans ((Below.heap_setCell _ _ _ _ (by simp; exact h)).trans ((Below.heap_setCell _ _ _ _ (by simp; exact h))))))))))))))
end Go.Proofs.Ytpdahbfjbgcmgaa
namespace Go.Proofs.Ytpdahbfjbgcmgaa
open Go.RowKit
/-- Tests between a number and a bound, in the forms that the walk meets. -/
theorem le_t {a b : Nat} (h : a ≤ b) : decide ((a : Int) ≤ (b : Int)) = true := by simp; omega
theorem le_f {a b : Nat} (h : ¬ a ≤ b) : decide ((a : Int) ≤ (b : Int)) = false := by simp; omega
set_option maxRecDepth 100000 in
theorem isNode_any (n : Nat) (w : World) : Calls Try.prog 81 #[.int .u8 (n : Int)] w fun e w' => e = .returned (.bool (Mg.node n)) ∧ w = w' := by
  have hn : Mg.node n = (decide (1 ≤ n) && decide (n ≤ 5)) := rfl
  by_cases g1 : 1 ≤ n
  · have e1 : decide (1 ≤ n) = true := by simpa using g1
    have e1' : decide ((1 : Int) ≤ (n : Int)) = true := by simp; omega
    have e1'' : ((1 : Int) ≤ (n : Int)) = True := by simp; omega
    by_cases g2 : n ≤ 5
    · have E : Hid (Mg.node n = true) := Lib.hid (by rw [hn, e1]; simpa using g2)
      have e2 : decide (n ≤ 5) = true := by simpa using g2
      have e2' : decide ((n : Int) ≤ 5) = true := by simp; omega
      have e2'' : ((n : Int) ≤ 5) = True := by simp; omega
      clear g1 g2 hn
      go_enter Try.func81, Try.ntmps81
      go_wp2_with fail
      go_ret
      exact ⟨by rw [E.out]; first | rfl | (rw [← e2']; rfl) | (rw [← e2]; rfl), rfl⟩
    · have E : Hid (Mg.node n = false) := Lib.hid (by rw [hn, e1]; simpa using g2)
      have e2 : decide (n ≤ 5) = false := by simpa using g2
      have e2' : decide ((n : Int) ≤ 5) = false := by simp; omega
      have e2'' : ((n : Int) ≤ 5) = False := by simp; omega
      clear g1 g2 hn
      go_enter Try.func81, Try.ntmps81
      go_wp2_with fail
      go_ret
      exact ⟨by rw [E.out]; first | rfl | (rw [← e2']; rfl) | (rw [← e2]; rfl), rfl⟩
  · have e1 : decide (1 ≤ n) = false := by simpa using g1
    have e1' : decide ((1 : Int) ≤ (n : Int)) = false := by simp; omega
    have e1'' : ((1 : Int) ≤ (n : Int)) = False := by simp; omega
    have E : Hid (Mg.node n = false) := Lib.hid (by rw [hn, e1]; rfl)
    clear g1 hn
    go_enter Try.func81, Try.ntmps81
    go_wp2_with fail
    go_ret
    exact ⟨by rw [E.out]; rfl, rfl⟩
theorem all_take (es : List En.E) (k : Nat) (hk : k < es.length) : (es.take (k + 1)).all En.may = ((es.take k).all En.may && En.may es[k]) := by
  rw [List.take_succ_eq_append_getElem hk, List.all_append]; simp
set_option maxRecDepth 100000 in
set_option maxHeartbeats 4000000 in
theorem mbs_any (es : List En.E) (A : Option Addr) (cap : Nat) (w : World) (hA : Lies w A (ec es)) : Calls Try.prog 82 #[.slice A es.length cap] w (RetTr (Mg.sent es) w) := by
  unfold RetTr
  by_cases h8 : 8 < es.length
  · have E : Hid (Mg.sent es = false) := Lib.hid (by unfold Mg.sent; rw [decide_eq_false (by omega)]; rfl)
    have d1 : decide ((8 : Int) < (es.length : Int)) = true := by simp; omega
    clear h8 hA
    go_enter Try.func82, Try.ntmps82
    go_wp2_with fail
    go_ret
    exact ⟨by rw [E.out]; rfl, Below.refl _ _⟩
  have Hs : Hid (Mg.sent es = es.all En.may) := Lib.hid (by unfold Mg.sent; rw [decide_eq_true (by omega)]; rfl)
  have d1 : decide ((8 : Int) < (es.length : Int)) = false := by simp; omega
  have HA := Lib.hid hA
  have HL : Hid (es.length ≤ 8) := Lib.hid (by omega)
  clear h8 hA
  go_enter Try.func82, Try.ntmps82
  go_wp2_with fail
  clear d1
  go_loopw [10] (fun i wr => ∃ k : Nat, k ≤ es.length ∧ i = .int .i64 (k : Int) ∧ (es.take k).all En.may = true ∧ Below w.heap.size w wr) (fun i _ => es.length - (intOf i).toNat)
  case atStart => exact ⟨0, Nat.zero_le _, rfl, by simp, Below.refl _ _⟩
  case round =>
    obtain ⟨k, hk, rfl, hall, hb⟩ := hrel
    have Hall := Lib.hid hall
    have Hb := Lib.hid hb
    clear hall hb
    by_cases hlt : k < es.length
    · obtain ⟨b, off, rfl, hE⟩ := HA.out.ent k hlt
      have hE := hE.bel Hb.out
      obtain ⟨e, he⟩ : ∃ e, e = es[k] := ⟨_, rfl⟩
      have hst := all_take es k hlt
      rw [← he] at hE hst
      have Hmem : Hid (e ∈ es) := Lib.hid (by rw [he]; exact List.getElem_mem hlt)
      have Hst := Lib.hid hst
      have HR := Lib.hid (fun W => right_any e W)
      unfold RetTr entC at HR
      have hps := storeEnt (entC e) rfl (entF e).one
      unfold entC at hps
      obtain ⟨_, q0, q1, q2, q3, q4, q5, q6, q7, q8, q9, q10, q11, q12⟩ := hE
      clear hst he
      cases hm : En.may e
      · rw [hm] at HR
        have E : Hid (es.all En.may = false) := Lib.hid (List.all_eq_false.2 ⟨e, Hmem.out, by rw [hm]; simp⟩)
        clear hm
        go_wp2_with fail
        refine (HR.out _).mono ?_
        rintro r w1 ⟨rfl, hb1⟩
        go_wp2_with fail
        go_ret
        exact ⟨by rw [Hs.out, E.out]; rfl, bnext (bnew Hb.out _) hb1⟩
      · rw [hm] at HR Hst
        have Hm := Lib.hid hm
        have hle := HL.out
        clear hm
        go_wp2_with fail
        refine (HR.out _).mono ?_
        rintro r w1 ⟨rfl, hb1⟩
        go_wp2_with fail
        go_roundw
        case rel => exact ⟨k + 1, by omega, by go_num, by rw [Hst.out, Hall.out]; rfl, bnext (bnew Hb.out _) hb1⟩
        case measure => simp [intOf]; omega
    · obtain rfl : k = es.length := by omega
      go_wp2_with fail
      go_ret
      have := Hall.out
      rw [List.take_length] at this
      exact ⟨by rw [Hs.out, this]; rfl, Hb.out⟩
end Go.Proofs.Ytpdahbfjbgcmgaa
namespace Go.Proofs.Ytpdahbfjbgcmgaa
open Go.RowKit
theorem ents_ne {l m : List En.E} (h : l.length ≠ m.length) : decide (l = m) = false := by
  rw [decide_eq_false_iff_not]; intro e; exact h (by rw [e])
theorem eqi_t {a b : Nat} (h : a = b) : ((a : Int) != (b : Int)) = false := by simp [h]
theorem eqi_f {a b : Nat} (h : a ≠ b) : ((a : Int) != (b : Int)) = true := by simp; omega
theorem eqp_t {a b : Nat} (h : a = b) : ((a : Int) = (b : Int)) = True := by simp [h]
theorem eqp_f {a b : Nat} (h : a ≠ b) : ((a : Int) = (b : Int)) = False := by simp; omega
set_option maxRecDepth 100000 in
set_option maxHeartbeats 4000000 in
theorem eeq_any (ps qs : List En.E) (A B : Option Addr) (ca cb : Nat) (w : World) (hA : Lies w A (ec ps)) (hB : Lies w B (ec qs)) (hn : ps.length ≤ 1000000) (hm : qs.length ≤ 1000000) :
    Calls Try.prog 89 #[.slice A ps.length ca, .slice B qs.length cb] w fun e w' => e = .returned (.bool (decide (ps = qs))) ∧ Below w.heap.size w w' := by
  have HA := Lib.hid hA
  have HB := Lib.hid hB
  clear hA hB
  by_cases hl : ps.length = qs.length
  · have l1 := eqi_t hl
    have l2 := eqp_t hl
    have Hl := Lib.hid hl
    clear hl
    go_enter Try.func89, Try.ntmps89
    go_wp2
    clear l1 l2
    go_loopw [13] (fun i wr => ∃ k : Nat, k ≤ ps.length ∧ i = .int .i64 (k : Int) ∧ (∀ j, j < k → ps[j]? = qs[j]?) ∧ Below w.heap.size w wr) (fun i _ => ps.length - (intOf i).toNat)
    case atStart => exact ⟨0, Nat.zero_le _, rfl, fun j hj => absurd hj (by omega), Below.refl _ _⟩
    case round =>
      obtain ⟨k, hk, rfl, hall, hb⟩ := hrel
      have Hall := Lib.hid hall
      have Hb := Lib.hid hb
      clear hall hb
      by_cases hlt : k < ps.length
      · have hlt2 : k < qs.length := by rw [← Hl.out]; exact hlt
        obtain ⟨ba, oa, rfl, hP⟩ := HA.out.ent k hlt
        obtain ⟨bb, ob, rfl, hQ⟩ := HB.out.ent k hlt2
        replace hP := hP.bel Hb.out
        replace hQ := hQ.bel Hb.out
        obtain ⟨p, hp⟩ : ∃ p, p = ps[k] := ⟨_, rfl⟩
        obtain ⟨q, hq⟩ : ∃ q, q = qs[k] := ⟨_, rfl⟩
        have hgp : ps[k]? = some p := by rw [hp, List.getElem?_eq_getElem]
        have hgq : qs[k]? = some q := by rw [hq, List.getElem?_eq_getElem]
        rw [← hp] at hP
        rw [← hq] at hQ
        have HG := Lib.hid (And.intro hgp hgq)
        obtain ⟨_, r0, r1, r2, r3, r4, r5, r6, r7, r8, r9, r10, r11, r12⟩ := hP
        obtain ⟨_, s0, s1, s2, s3, s4, s5, s6, s7, s8, s9, s10, s11, s12⟩ := hQ
        clear hp hq hgp hgq
        have hne := ent_neq p q
        unfold entC at hne
        cases hs : decide (p = q)
        · rw [hs] at hne
          have Hfin : Hid (decide (ps = qs) = false) := Lib.hid (by
            rw [decide_eq_false_iff_not] at hs ⊢
            intro e
            apply hs
            have h1 := HG.out.1
            rw [e, HG.out.2] at h1
            injection h1 with h1; exact h1.symm)
          clear hs
          go_wp2
          go_quiet (fail)
          go_wp2
          go_ret
          exact ⟨by rw [Hfin.out]; rfl, below_drewN Hb.out _⟩
        · rw [hs] at hne
          have Hs : Hid (p = q) := Lib.hid (of_decide_eq_true hs)
          clear hs
          go_wp2
          go_quiet (fail)
          go_wp2
          go_roundw
          case rel => exact ⟨k + 1, by omega, by go_num, fun j hj => (by
            by_cases e : j = k
            · subst e; rw [HG.out.1, HG.out.2, Hs.out]
            · exact Hall.out j (by omega)), below_drewN Hb.out _⟩
          case measure => simp [intOf]; omega
      · obtain rfl : k = ps.length := by omega
        have Hfin : Hid (decide (ps = qs) = true) := Lib.hid (by
          rw [decide_eq_true_iff]
          apply List.ext_getElem?
          intro j
          by_cases hj : j < ps.length
          · exact Hall.out j hj
          · rw [List.getElem?_eq_none (by omega), List.getElem?_eq_none (by rw [← Hl.out]; omega)])
        go_wp2
        go_ret
        exact ⟨by rw [Hfin.out]; rfl, Hb.out⟩
  · have l1 := eqi_f hl
    have l2 := eqp_f hl
    have Hfin := Lib.hid (ents_ne hl)
    clear hl
    go_enter Try.func89, Try.ntmps89
    go_wp2
    go_ret
    exact ⟨by rw [Hfin.out]; rfl, Below.refl _ _⟩
end Go.Proofs.Ytpdahbfjbgcmgaa
