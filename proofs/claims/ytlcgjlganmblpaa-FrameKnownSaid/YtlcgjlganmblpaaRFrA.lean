/-
  The plain mathematics of layer 6 (frame): frames and replies, which may be, their bytes, and how they are read. No program is named here.
  Frames and replies as values: their cells. WRITTEN BY wip/tools/gen_frbase.py.
  What a truth of a call says; tokens and texts held against each other.
  Loads and stores of structs that lie within a row, whole: the cells may be unknown.
  The parts of a frame's and of a reply's row; what is laid over them. WRITTEN BY wip/tools/gen_frsub.py.
-/
import Derived.Test.YtlcgjlganmblpaaRRes
import Derived.Test.YtlcgjlganmblpaaROpM
import Derived.Test.YtlcgjlganmblpaaROpB
import Derived.Test.YtlcgjlganmblpaaRTok
import Derived.Test.YtlcgjlganmblpaaRWords
import Derived.Deep.WholeRow
import Derived.Deep.MidRow
set_option linter.unusedSimpArgs false
set_option linter.unusedVariables false
namespace Go.Proofs.Ytlcgjlganmblpaa
namespace Fr
open Cm (rdB rdV rdB_iff rdV_iff one e0)
structure F where
  kind : Nat
  tok : Og.Tk
  cmd : Cm.Cmd
  op : Og.Oper
def F.zero : F := ⟨0, Og.Tk.zero, Cm.zero, Og.Oper.zero⟩
/-- Numbers that fit. -/
structure Fits (f : F) : Prop where
  kind : f.kind < 256
  cmd : Cm.Fits f.cmd
  op : Og.Fits f.op
theorem F.ext' {a b : F} (h1 : a.kind = b.kind) (h2 : a.tok = b.tok) (h3 : a.cmd = b.cmd) (h4 : a.op = b.op) : a = b := by
  cases a; cases b; simp_all
def same (a b : F) : Bool := a.kind == b.kind && (decide (a.tok = b.tok) && (decide (a.op = b.op) && Cm.same a.cmd b.cmd))
theorem same_iff (a b : F) : same a b = true ↔ a = b := by
  cases a; cases b
  simp only [same, Bool.and_eq_true, beq_iff_eq, decide_eq_true_iff, Cm.same_iff, F.mk.injEq]
  constructor
  · rintro ⟨h1, h2, h3, h4⟩; exact ⟨h1, h2, h4, h3⟩
  · rintro ⟨h1, h2, h3, h4⟩; exact ⟨h1, h2, h4, h3⟩
def may (f : F) : Prop := (f.kind = 1 ∧ f.op = Og.Oper.zero ∧ Cm.may f.cmd = true) ∨ (f.kind = 2 ∧ f.cmd = Cm.zero ∧ Og.may f.op)
def head (f : F) : List UInt8 := one f.kind ++ f.tok.l
def enc (f : F) : List UInt8 := head f ++ if f.kind = 1 then Cm.bytes f.cmd else Og.enc f.op
/-- An operator's command's bytes. -/
def ow (c : Og.Oper) : List UInt8 := if Og.may c then Og.enc c else []
/-- The bytes of what is asked: none where the frame may not be. -/
def cw (f : F) : List UInt8 :=
  if f.kind = 1 then (if f.op = Og.Oper.zero then Cm.write f.cmd else [])
  else if f.kind = 2 then (if Cm.same f.cmd Cm.zero = true then ow f.op else [])
  else []
def write (f : F) : List UInt8 := if cw f = [] then [] else head f ++ cw f
theorem oenc_ne (c : Og.Oper) : Og.enc c ≠ [] := by simp [Og.enc, one]
theorem enc_ne (f : F) : enc f ≠ [] := by simp [enc, head, one]
theorem cw_yes {f : F} (h : may f) : cw f = (if f.kind = 1 then Cm.bytes f.cmd else Og.enc f.op) ∧ cw f ≠ [] := by
  rcases h with ⟨h1, h2, h3⟩ | ⟨h1, h2, h3⟩
  · unfold cw Cm.write; rw [if_pos h1, if_pos h2, if_pos h3, if_pos h1]; exact ⟨rfl, Cm.bytes_ne _⟩
  · unfold cw ow; rw [if_neg (by omega), if_pos h1, h2, if_pos (Cm.same_refl _), if_pos h3, if_neg (by omega)]; exact ⟨rfl, oenc_ne _⟩
theorem cw_no {f : F} (h : ¬ may f) : cw f = [] := by
  unfold cw Cm.write ow
  repeat' split
  all_goals first | rfl | skip
  · rename_i a b c; exact absurd (.inl ⟨a, b, c⟩) h
  · rename_i a b c d; exact absurd (.inr ⟨b, (Cm.same_iff _ _).1 c, d⟩) h
theorem write_yes {f : F} (h : may f) : write f = enc f := by
  unfold write enc
  rw [if_neg (cw_yes h).2, (cw_yes h).1]
theorem write_no {f : F} (h : ¬ may f) : write f = [] := by unfold write; rw [if_pos (cw_no h)]
theorem write_nil (f : F) : write f = [] ↔ ¬ may f := by
  constructor
  · intro h hm; rw [write_yes hm] at h; exact enc_ne f h
  · exact write_no
/-- Shapes: texts that are not too long, lists that end. -/
structure Sh (f : F) : Prop where
  cmd : f.kind = 1 → Cm.Shape f.cmd
def read (l : List UInt8) : Option F :=
  (rdB l).bind fun (k, l) => (Og.rdT l).bind fun (t, l) =>
    if k = 1 then (Cm.read l).bind fun c => some ⟨1, t, c, Og.Oper.zero⟩
    else if k = 2 then (Wk.oin l).bind fun o => some ⟨2, t, Cm.zero, o⟩
    else none
theorem read_iff (l : List UInt8) (f : F) : read l = some f ↔ Sh f ∧ may f ∧ l = enc f := by
  unfold read
  constructor
  · intro h
    obtain ⟨⟨k, l1⟩, h1, ha⟩ := Option.bind_eq_some_iff.1 h
    clear h
    simp only [] at ha
    obtain ⟨⟨t, l2⟩, h2, h⟩ := Option.bind_eq_some_iff.1 ha
    clear ha
    simp only [] at h
    obtain ⟨hk, rfl⟩ := (rdB_iff _ _ _).1 h1
    have h2 := (Og.rdT_iff _ _ _).1 h2
    subst h2
    by_cases k1 : k = 1
    · rw [if_pos k1] at h
      obtain ⟨c, hc, hb⟩ := Option.bind_eq_some_iff.1 h
      clear h
      injection hb with h
      subst h k1
      obtain ⟨g1, g2, rfl⟩ := (Cm.read_iff _ _).1 hc
      exact ⟨⟨fun _ => g1⟩, .inl ⟨rfl, rfl, g2⟩, by simp [enc, head]⟩
    · rw [if_neg k1] at h
      by_cases k2 : k = 2
      · rw [if_pos k2] at h
        obtain ⟨c, hc, hb⟩ := Option.bind_eq_some_iff.1 h
        clear h
        injection hb with h
        subst h k2
        obtain ⟨g1, rfl⟩ := (Wk.oin_iff _ _).1 hc
        exact ⟨⟨fun e => by cases e⟩, .inr ⟨rfl, rfl, g1⟩, by simp [enc, head]⟩
      · rw [if_neg k2] at h; cases h
  · rintro ⟨hs, hm, rfl⟩
    rcases hm with ⟨h1, h2, h3⟩ | ⟨h1, h2, h3⟩
    · obtain ⟨k, t, c, o⟩ := f
      simp only at h1 h2 h3
      subst h1 h2
      simp only [enc, head, List.append_assoc, ↓reduceIte]
      rw [(rdB_iff _ 1 _).2 ⟨by decide, rfl⟩, Option.bind_some]
      simp only []
      rw [(Og.rdT_iff _ t _).2 rfl, Option.bind_some]
      simp only [↓reduceIte]
      rw [(Cm.read_iff _ c).2 ⟨hs.cmd rfl, h3, rfl⟩, Option.bind_some]
    · obtain ⟨k, t, c, o⟩ := f
      simp only at h1 h2 h3
      subst h1 h2
      have e21 : ¬ (2 = 1) := by decide
      simp only [enc, head, List.append_assoc, if_neg e21]
      rw [(rdB_iff _ 2 _).2 ⟨by decide, rfl⟩, Option.bind_some]
      simp only []
      rw [(Og.rdT_iff _ t _).2 rfl, Option.bind_some]
      simp only [if_neg e21, ↓reduceIte]
      rw [(Wk.oin_iff _ o).2 ⟨h3, rfl⟩, Option.bind_some]
theorem one_inj {a b : Nat} (ha : a < 256) (hb : b < 256) (h : one a = one b) : a = b := by
  have h1 := (rdB_iff (one a) a []).2 ⟨ha, (List.append_nil _).symm⟩
  have h2 := (rdB_iff (one b) b []).2 ⟨hb, (List.append_nil _).symm⟩
  rw [h, h2] at h1
  injection h1 with h1
  injection h1 with h1
  exact h1.symm
theorem tok_len (t : Og.Tk) : t.l.length = 8 := rfl
theorem may_kind {f : F} (h : may f) : f.kind = 1 ∨ f.kind = 2 := by
  rcases h with h | h
  · exact .inl h.1
  · exact .inr h.1
/-- No frame's bytes are the beginning of another one's. -/
theorem free {f g : F} {r : List UInt8} (hf : Sh f) (hg : Sh g) (mf : may f) (mg : may g) (h : enc f ++ r = enc g) : f = g ∧ r = [] := by
  have kf := may_kind mf
  have kg := may_kind mg
  have h0 := h
  unfold enc head at h
  simp only [List.append_assoc] at h
  obtain ⟨h1, h⟩ := List.append_inj h (by simp [one])
  obtain ⟨h2, h⟩ := List.append_inj h (by rw [tok_len, tok_len])
  have hk := one_inj (by omega) (by omega) h1
  have ht := Og.Tk.inj h2
  rcases kf with k1 | k2
  · have k1' : g.kind = 1 := by omega
    rw [if_pos k1, if_pos k1'] at h
    obtain ⟨hc, hr⟩ := Cm.bytes_free (hf.cmd k1) (hg.cmd k1') h
    refine ⟨F.ext' hk ht hc ?_, hr⟩
    rcases mf with a | a
    · rcases mg with b | b
      · rw [a.2.1, b.2.1]
      · omega
    · omega
  · have k2' : g.kind = 2 := by omega
    rw [if_neg (by omega), if_neg (by omega)] at h
    have af : Og.may f.op ∧ f.cmd = Cm.zero := by
      rcases mf with a | a
      · omega
      · exact ⟨a.2.2, a.2.1⟩
    have ag : Og.may g.op ∧ g.cmd = Cm.zero := by
      rcases mg with a | a
      · omega
      · exact ⟨a.2.2, a.2.1⟩
    have hr : r = [] := by
      by_cases hr : r = []
      · exact hr
      · have e1 := Wk.oin_more af.1 hr
        rw [h, (Wk.oin_iff _ g.op).2 ⟨ag.1, rfl⟩] at e1
        cases e1
    subst hr
    rw [List.append_nil] at h
    exact ⟨F.ext' hk ht (by rw [af.2, ag.2]) (Wk.enc_inj af.1 ag.1 h), rfl⟩
theorem read_more {f : F} (hs : Sh f) (hm : may f) {r : List UInt8} (hr : r ≠ []) : read (enc f ++ r) = none := by
  rcases h : read (enc f ++ r) with _ | g
  · rfl
  · obtain ⟨a, b, c⟩ := (read_iff _ _).1 h
    exact absurd (free hs a hm b c).2 hr
theorem read_less {f : F} (hs : Sh f) (hm : may f) {l r : List UInt8} (h : l ++ r = enc f) (hr : r ≠ []) : read l = none := by
  rcases hl : read l with _ | g
  · rfl
  · obtain ⟨a, b, rfl⟩ := (read_iff _ _).1 hl
    exact absurd (free a hs b hm h).2 hr

/-! Replies. -/
structure R where
  kind : Nat
  ses : Nat
  seq : Nat
  lead : Nat
  res : Rs.Res
def R.zero : R := ⟨0, 0, 0, 0, Rs.zero⟩
structure RFit (r : R) : Prop where
  kind : r.kind < 256
  ses : r.ses < Nm.top
  seq : r.seq < Nm.top
  lead : r.lead < 256
def rsame (a b : R) : Bool := a.kind == b.kind && (a.ses == b.ses && (a.seq == b.seq && (a.lead == b.lead && Rs.same a.res b.res)))
theorem rsame_iff (a b : R) : rsame a b = true ↔ a = b := by
  cases a; cases b
  simp only [rsame, Bool.and_eq_true, beq_iff_eq, Rs.same_iff, R.mk.injEq]
def noRes (x : Rs.Res) : Bool := x.code == 0 && (x.n == 0 && (x.val.size == 0 && x.rows.length == 0))
theorem size_e0 (s : ByteArray) : s.size = 0 ↔ s = e0 := by
  constructor
  · intro h; exact ByteArray.ext (Array.eq_empty_of_size_eq_zero h)
  · rintro rfl; rfl
theorem noRes_iff (x : Rs.Res) : noRes x = true ↔ x = Rs.zero := by
  obtain ⟨c, n, v, l⟩ := x
  simp only [noRes, Rs.zero, Bool.and_eq_true, beq_iff_eq, Rs.Res.mk.injEq, size_e0, List.length_eq_zero_iff]
def right (r : R) : Bool :=
  if r.kind = 1 then r.ses == 0 && (r.seq == 0 && (r.lead == 0 && noRes r.res))
  else if r.kind = 2 ∨ r.kind = 4 ∨ r.kind = 5 then r.lead == 0 && noRes r.res
  else if r.kind = 3 then decide (r.lead ≤ 5) && noRes r.res
  else if r.kind = 6 then r.lead == 0
  else false
def tail (r : R) : List UInt8 := if r.kind = 3 then one r.lead else if r.kind = 6 then Rs.bytes r.res else []
def bytes (r : R) : List UInt8 := one r.kind ++ if r.kind = 1 then [] else Nm.grp r.ses ++ (Nm.grp r.seq ++ tail r)
def rwrite (r : R) : List UInt8 := if right r = true then bytes r else []
theorem bytes_ne (r : R) : bytes r ≠ [] := by simp [bytes, one]
theorem rwrite_nil (r : R) : rwrite r = [] ↔ right r = false := by
  unfold rwrite
  split
  · rename_i h; rw [h]; simp [bytes_ne]
  · rename_i h; simpa using h
structure RSh (r : R) : Prop where
  fit : RFit r
  res : Rs.Shape r.res
theorem zero_rshape : Rs.Shape Rs.zero := ⟨by decide, Cm.z_lt, Cm.e0_lt, Cm.z_lt, fun x hx => by cases hx⟩
def rparse (l : List UInt8) : Option (R × List UInt8) :=
  (rdB l).bind fun (k, l) =>
    if k = 1 then some (⟨1, 0, 0, 0, Rs.zero⟩, l)
    else if 2 ≤ k ∧ k ≤ 6 then
      (rdV l).bind fun (s, l) => (rdV l).bind fun (q, l) =>
        if k = 3 then (rdB l).bind fun (d, l) => if d ≤ 5 then some (⟨3, s, q, d, Rs.zero⟩, l) else none
        else if k = 6 then (Rs.parse l).bind fun (x, l) => some (⟨6, s, q, 0, x⟩, l)
        else some (⟨k, s, q, 0, Rs.zero⟩, l)
    else none
def rread (l : List UInt8) : Option R := (rparse l).bind fun (r, t) => if t = [] then some r else none
theorem rparse_iff (l : List UInt8) (r : R) (t : List UInt8) : rparse l = some (r, t) ↔ RSh r ∧ right r = true ∧ l = bytes r ++ t := by
  unfold rparse
  constructor
  · intro h
    obtain ⟨⟨k, l1⟩, h1, ha⟩ := Option.bind_eq_some_iff.1 h
    clear h
    simp only [] at ha
    obtain ⟨hk, rfl⟩ := (rdB_iff _ _ _).1 h1
    have h := ha
    clear ha
    by_cases k1 : k = 1
    · rw [if_pos k1] at h
      simp only [Option.some.injEq, Prod.mk.injEq] at h
      obtain ⟨rfl, rfl⟩ := h
      subst k1
      exact ⟨⟨⟨by decide, Cm.z_lt, Cm.z_lt, by decide⟩, zero_rshape⟩, rfl, by simp [bytes]⟩
    rw [if_neg k1] at h
    by_cases k26 : 2 ≤ k ∧ k ≤ 6
    · rw [if_pos k26] at h
      obtain ⟨⟨s, l2⟩, h2, ha⟩ := Option.bind_eq_some_iff.1 h
      clear h
      simp only [] at ha
      obtain ⟨hs, rfl⟩ := (rdV_iff _ _ _).1 h2
      obtain ⟨⟨q, l3⟩, h3, hb⟩ := Option.bind_eq_some_iff.1 ha
      clear ha
      simp only [] at hb
      obtain ⟨hq, rfl⟩ := (rdV_iff _ _ _).1 h3
      have h := hb
      clear hb
      by_cases k3 : k = 3
      · rw [if_pos k3] at h
        obtain ⟨⟨d, l4⟩, h4, hb⟩ := Option.bind_eq_some_iff.1 h
        clear h
        simp only [] at hb
        obtain ⟨hd, rfl⟩ := (rdB_iff _ _ _).1 h4
        have h := hb
        clear hb
        by_cases d5 : d ≤ 5
        · rw [if_pos d5] at h
          simp only [Option.some.injEq, Prod.mk.injEq] at h
          obtain ⟨rfl, rfl⟩ := h
          subst k3
          exact ⟨⟨⟨(show 3 < 256 by decide), hs, hq, hd⟩, zero_rshape⟩, by simp [right, d5, (noRes_iff _).2], by simp [bytes, tail]⟩
        · rw [if_neg d5] at h; cases h
      rw [if_neg k3] at h
      by_cases k6 : k = 6
      · rw [if_pos k6] at h
        obtain ⟨⟨x, l4⟩, h4, hb⟩ := Option.bind_eq_some_iff.1 h
        clear h
        simp only [] at hb
        obtain ⟨hx, rfl⟩ := (Rs.parse_iff _ _ _).1 h4
        have h := hb
        clear hb
        simp only [Option.some.injEq, Prod.mk.injEq] at h
        obtain ⟨rfl, rfl⟩ := h
        subst k6
        exact ⟨⟨⟨(show 6 < 256 by decide), hs, hq, (show 0 < 256 by decide)⟩, hx⟩, by simp [right], by simp [bytes, tail]⟩
      rw [if_neg k6] at h
      simp only [Option.some.injEq, Prod.mk.injEq] at h
      obtain ⟨rfl, rfl⟩ := h
      have k245 : k = 2 ∨ k = 4 ∨ k = 5 := by omega
      refine ⟨⟨⟨hk, hs, hq, (show 0 < 256 by decide)⟩, zero_rshape⟩, ?_, ?_⟩
      · unfold right
        simp only [if_neg k1, if_pos k245, (noRes_iff _).2]; rfl
      · unfold bytes tail
        simp only [if_neg k1, if_neg k3, if_neg k6]; simp
    · rw [if_neg k26] at h; cases h
  · rintro ⟨hs, hr, rfl⟩
    obtain ⟨k, s, q, d, x⟩ := r
    obtain ⟨⟨hk, hss, hqq, hd⟩, hx⟩ := hs
    simp only at hk hss hqq hd hx
    unfold bytes
    simp only [List.append_assoc]
    rw [(rdB_iff _ k _).2 ⟨hk, rfl⟩, Option.bind_some]
    simp only []
    unfold right at hr
    simp only at hr
    by_cases k1 : k = 1
    · rw [if_pos k1] at hr
      simp only [Bool.and_eq_true, beq_iff_eq, noRes_iff] at hr
      obtain ⟨rfl, rfl, rfl, rfl⟩ := hr
      subst k1
      simp
    rw [if_neg k1] at hr ⊢
    have k26 : 2 ≤ k ∧ k ≤ 6 := by
      refine Classical.byContradiction fun h => ?_
      rw [if_neg (by omega), if_neg (by omega), if_neg (by omega)] at hr
      cases hr
    rw [if_pos k26, if_neg k1]
    simp only [List.append_assoc]
    rw [(rdV_iff _ s _).2 ⟨hss, rfl⟩, Option.bind_some]
    simp only []
    rw [(rdV_iff _ q _).2 ⟨hqq, rfl⟩, Option.bind_some]
    simp only []
    unfold tail
    simp only []
    by_cases k3 : k = 3
    · subst k3
      rw [if_neg (by omega), if_pos rfl] at hr
      simp only [Bool.and_eq_true, decide_eq_true_iff, noRes_iff] at hr
      obtain ⟨hd5, rfl⟩ := hr
      rw [if_pos rfl, if_pos rfl, (rdB_iff _ d _).2 ⟨hd, rfl⟩, Option.bind_some]
      simp only [if_pos hd5]
    rw [if_neg k3, if_neg k3]
    by_cases k6 : k = 6
    · subst k6
      rw [if_neg (by omega), if_neg (by omega), if_pos rfl] at hr
      simp only [beq_iff_eq] at hr
      subst hr
      rw [if_pos rfl, if_pos rfl, (Rs.parse_iff _ x _).2 ⟨hx, rfl⟩, Option.bind_some]
    rw [if_neg k6, if_neg k6]
    have k245 : k = 2 ∨ k = 4 ∨ k = 5 := by omega
    rw [if_pos k245] at hr
    simp only [Bool.and_eq_true, beq_iff_eq, noRes_iff] at hr
    obtain ⟨rfl, rfl⟩ := hr
    rfl
theorem rread_iff (l : List UInt8) (r : R) : rread l = some r ↔ RSh r ∧ right r = true ∧ l = bytes r := by
  unfold rread
  constructor
  · intro h
    obtain ⟨⟨d, t⟩, h1, h⟩ := Option.bind_eq_some_iff.1 h
    simp only [] at h
    split at h
    · rename_i ht
      injection h with h
      subst h ht
      obtain ⟨a, b, c⟩ := (rparse_iff _ _ _).1 h1
      exact ⟨a, b, by rw [c, List.append_nil]⟩
    · cases h
  · rintro ⟨a, b, rfl⟩
    rw [(rparse_iff _ r []).2 ⟨a, b, (List.append_nil _).symm⟩, Option.bind_some]
    simp
/-- No reply's bytes are the beginning of another one's. -/
theorem rfree {r q : R} {t : List UInt8} (hr : RSh r) (hq : RSh q) (mr : right r = true) (mq : right q = true) (h : bytes r ++ t = bytes q) : r = q ∧ t = [] := by
  have h1 := (rparse_iff _ r t).2 ⟨hr, mr, rfl⟩
  have h2 := (rparse_iff (bytes q) q []).2 ⟨hq, mq, (List.append_nil _).symm⟩
  rw [h, h2] at h1
  simp only [Option.some.injEq, Prod.mk.injEq] at h1
  exact ⟨h1.1.symm, h1.2.symm⟩
theorem rread_more {r : R} (hs : RSh r) (hm : right r = true) {t : List UInt8} (ht : t ≠ []) : rread (bytes r ++ t) = none := by
  rcases h : rread (bytes r ++ t) with _ | q
  · rfl
  · obtain ⟨a, b, c⟩ := (rread_iff _ _).1 h
    exact absurd (rfree hs a hm b c).2 ht
theorem rread_less {r : R} (hs : RSh r) (hm : right r = true) {l t : List UInt8} (h : l ++ t = bytes r) (ht : t ≠ []) : rread l = none := by
  rcases hl : rread l with _ | q
  · rfl
  · obtain ⟨a, b, rfl⟩ := (rread_iff _ _).1 hl
    exact absurd (rfree a hs b hm h).2 ht
theorem bytes_22 {r : R} (hf : RFit r) (h : r.kind ≠ 6) : (bytes r).length ≤ 22 := by
  have h1 := grp_len r.ses hf.ses
  have h2 := grp_len r.seq hf.seq
  unfold bytes tail
  rw [if_neg h]
  repeat' split
  all_goals (simp only [List.length_append, one, List.length_cons, List.length_nil]; omega)
theorem oenc_len {c : Og.Oper} (hm : Og.may c) : (Og.enc c).length ≤ 60 := by
  have g : ∀ n : Int, Og.amt n → (Nm.grp n.toNat).length ≤ 10 := fun n h => grp_len _ (by unfold Og.amt at h; unfold Nm.top; omega)
  have ht := tok_len c.tok
  unfold Og.may at hm
  unfold Og.enc
  rcases hm with ⟨h1, h2, h3, h4, h5, h6, h7, h8, h9⟩ | h | h | h | h
  · rw [if_pos h1]
    have a := g _ h5
    have b := g _ h6
    have c := g _ h7
    have d := g _ h8
    simp only [List.length_append, one, List.length_cons, List.length_nil]; omega
  all_goals
    rw [if_neg (by omega)]
    repeat' split
    all_goals (simp only [List.length_append, one, List.length_cons, List.length_nil]; omega)
end Fr
end Go.Proofs.Ytlcgjlganmblpaa
namespace Go.Proofs.Ytlcgjlganmblpaa
open Go.RowKit
set_option maxRecDepth 100000
def frC (f : Fr.F) (A : Option Addr) (cap : Nat) : Array Value := #[.int .u8 (f.kind : Int), .int .u8 (f.tok.a0.toNat : Int), .int .u8 (f.tok.a1.toNat : Int), .int .u8 (f.tok.a2.toNat : Int), .int .u8 (f.tok.a3.toNat : Int), .int .u8 (f.tok.a4.toNat : Int), .int .u8 (f.tok.a5.toNat : Int), .int .u8 (f.tok.a6.toNat : Int), .int .u8 (f.tok.a7.toNat : Int), .int .u8 (f.cmd.op : Int), .int .u64 (f.cmd.ses : Int), .int .u64 (f.cmd.seq : Int), .string f.cmd.key, .string f.cmd.val, .string f.cmd.exp, .string f.cmd.frm, .string f.cmd.tto, .int .u8 (f.cmd.lim : Int), .int .u64 (f.cmd.lease : Int), .int .u64 (f.cmd.ttl : Int), .slice A f.cmd.parts.length cap, .int .u8 (f.op.op : Int), .int .u8 (f.op.slot : Int), .int .u8 (f.op.tok.a0.toNat : Int), .int .u8 (f.op.tok.a1.toNat : Int), .int .u8 (f.op.tok.a2.toNat : Int), .int .u8 (f.op.tok.a3.toNat : Int), .int .u8 (f.op.tok.a4.toNat : Int), .int .u8 (f.op.tok.a5.toNat : Int), .int .u8 (f.op.tok.a6.toNat : Int), .int .u8 (f.op.tok.a7.toNat : Int), .int .u8 (f.op.role : Int), .int .i64 f.op.keys, .int .i64 f.op.bytes, .int .i64 f.op.rate, .int .i64 f.op.burst, .int .u8 (f.op.node : Int)]
theorem frLit (f : Fr.F) (A : Option Addr) (cap : Nat) : frC f A cap = #[.int .u8 (f.kind : Int), .int .u8 (f.tok.a0.toNat : Int), .int .u8 (f.tok.a1.toNat : Int), .int .u8 (f.tok.a2.toNat : Int), .int .u8 (f.tok.a3.toNat : Int), .int .u8 (f.tok.a4.toNat : Int), .int .u8 (f.tok.a5.toNat : Int), .int .u8 (f.tok.a6.toNat : Int), .int .u8 (f.tok.a7.toNat : Int), .int .u8 (f.cmd.op : Int), .int .u64 (f.cmd.ses : Int), .int .u64 (f.cmd.seq : Int), .string f.cmd.key, .string f.cmd.val, .string f.cmd.exp, .string f.cmd.frm, .string f.cmd.tto, .int .u8 (f.cmd.lim : Int), .int .u64 (f.cmd.lease : Int), .int .u64 (f.cmd.ttl : Int), .slice A f.cmd.parts.length cap, .int .u8 (f.op.op : Int), .int .u8 (f.op.slot : Int), .int .u8 (f.op.tok.a0.toNat : Int), .int .u8 (f.op.tok.a1.toNat : Int), .int .u8 (f.op.tok.a2.toNat : Int), .int .u8 (f.op.tok.a3.toNat : Int), .int .u8 (f.op.tok.a4.toNat : Int), .int .u8 (f.op.tok.a5.toNat : Int), .int .u8 (f.op.tok.a6.toNat : Int), .int .u8 (f.op.tok.a7.toNat : Int), .int .u8 (f.op.role : Int), .int .i64 f.op.keys, .int .i64 f.op.bytes, .int .i64 f.op.rate, .int .i64 f.op.burst, .int .u8 (f.op.node : Int)] := rfl
/-- What the walk asks of them. -/
structure FrF (X : Array Value) (f : Fr.F) (A : Option Addr) (cap : Nat) : Prop where
  size : X.size = 37
  one : X.all (·.oneCell') = true
  f0 : ∀ h, X[0]'h = .int .u8 (f.kind : Int)
  f1 : ∀ h, X[1]'h = .int .u8 (f.tok.a0.toNat : Int)
  f2 : ∀ h, X[2]'h = .int .u8 (f.tok.a1.toNat : Int)
  f3 : ∀ h, X[3]'h = .int .u8 (f.tok.a2.toNat : Int)
  f4 : ∀ h, X[4]'h = .int .u8 (f.tok.a3.toNat : Int)
  f5 : ∀ h, X[5]'h = .int .u8 (f.tok.a4.toNat : Int)
  f6 : ∀ h, X[6]'h = .int .u8 (f.tok.a5.toNat : Int)
  f7 : ∀ h, X[7]'h = .int .u8 (f.tok.a6.toNat : Int)
  f8 : ∀ h, X[8]'h = .int .u8 (f.tok.a7.toNat : Int)
  f9 : ∀ h, X[9]'h = .int .u8 (f.cmd.op : Int)
  f10 : ∀ h, X[10]'h = .int .u64 (f.cmd.ses : Int)
  f11 : ∀ h, X[11]'h = .int .u64 (f.cmd.seq : Int)
  f12 : ∀ h, X[12]'h = .string f.cmd.key
  f13 : ∀ h, X[13]'h = .string f.cmd.val
  f14 : ∀ h, X[14]'h = .string f.cmd.exp
  f15 : ∀ h, X[15]'h = .string f.cmd.frm
  f16 : ∀ h, X[16]'h = .string f.cmd.tto
  f17 : ∀ h, X[17]'h = .int .u8 (f.cmd.lim : Int)
  f18 : ∀ h, X[18]'h = .int .u64 (f.cmd.lease : Int)
  f19 : ∀ h, X[19]'h = .int .u64 (f.cmd.ttl : Int)
  f20 : ∀ h, X[20]'h = .slice A f.cmd.parts.length cap
  f21 : ∀ h, X[21]'h = .int .u8 (f.op.op : Int)
  f22 : ∀ h, X[22]'h = .int .u8 (f.op.slot : Int)
  f23 : ∀ h, X[23]'h = .int .u8 (f.op.tok.a0.toNat : Int)
  f24 : ∀ h, X[24]'h = .int .u8 (f.op.tok.a1.toNat : Int)
  f25 : ∀ h, X[25]'h = .int .u8 (f.op.tok.a2.toNat : Int)
  f26 : ∀ h, X[26]'h = .int .u8 (f.op.tok.a3.toNat : Int)
  f27 : ∀ h, X[27]'h = .int .u8 (f.op.tok.a4.toNat : Int)
  f28 : ∀ h, X[28]'h = .int .u8 (f.op.tok.a5.toNat : Int)
  f29 : ∀ h, X[29]'h = .int .u8 (f.op.tok.a6.toNat : Int)
  f30 : ∀ h, X[30]'h = .int .u8 (f.op.tok.a7.toNat : Int)
  f31 : ∀ h, X[31]'h = .int .u8 (f.op.role : Int)
  f32 : ∀ h, X[32]'h = .int .i64 f.op.keys
  f33 : ∀ h, X[33]'h = .int .i64 f.op.bytes
  f34 : ∀ h, X[34]'h = .int .i64 f.op.rate
  f35 : ∀ h, X[35]'h = .int .i64 f.op.burst
  f36 : ∀ h, X[36]'h = .int .u8 (f.op.node : Int)
theorem frF (f : Fr.F) (A : Option Addr) (cap : Nat) : FrF (frC f A cap) f A cap :=
  ⟨rfl, by simp [frC, Value.oneCell'], fun _ => rfl, fun _ => rfl, fun _ => rfl, fun _ => rfl, fun _ => rfl, fun _ => rfl, fun _ => rfl, fun _ => rfl, fun _ => rfl, fun _ => rfl, fun _ => rfl, fun _ => rfl, fun _ => rfl, fun _ => rfl, fun _ => rfl, fun _ => rfl, fun _ => rfl, fun _ => rfl, fun _ => rfl, fun _ => rfl, fun _ => rfl, fun _ => rfl, fun _ => rfl, fun _ => rfl, fun _ => rfl, fun _ => rfl, fun _ => rfl, fun _ => rfl, fun _ => rfl, fun _ => rfl, fun _ => rfl, fun _ => rfl, fun _ => rfl, fun _ => rfl, fun _ => rfl, fun _ => rfl, fun _ => rfl⟩
/-- One that lies in block g. -/
structure FrAt (W : World) (g : Nat) (f : Fr.F) (A : Option Addr) (cap : Nat) : Prop where
  c0 : W.cell? ⟨g, 0, none⟩ = some (.int .u8 (f.kind : Int))
  c1 : W.cell? ⟨g, 1, none⟩ = some (.int .u8 (f.tok.a0.toNat : Int))
  c2 : W.cell? ⟨g, 2, none⟩ = some (.int .u8 (f.tok.a1.toNat : Int))
  c3 : W.cell? ⟨g, 3, none⟩ = some (.int .u8 (f.tok.a2.toNat : Int))
  c4 : W.cell? ⟨g, 4, none⟩ = some (.int .u8 (f.tok.a3.toNat : Int))
  c5 : W.cell? ⟨g, 5, none⟩ = some (.int .u8 (f.tok.a4.toNat : Int))
  c6 : W.cell? ⟨g, 6, none⟩ = some (.int .u8 (f.tok.a5.toNat : Int))
  c7 : W.cell? ⟨g, 7, none⟩ = some (.int .u8 (f.tok.a6.toNat : Int))
  c8 : W.cell? ⟨g, 8, none⟩ = some (.int .u8 (f.tok.a7.toNat : Int))
  c9 : W.cell? ⟨g, 9, none⟩ = some (.int .u8 (f.cmd.op : Int))
  c10 : W.cell? ⟨g, 10, none⟩ = some (.int .u64 (f.cmd.ses : Int))
  c11 : W.cell? ⟨g, 11, none⟩ = some (.int .u64 (f.cmd.seq : Int))
  c12 : W.cell? ⟨g, 12, none⟩ = some (.string f.cmd.key)
  c13 : W.cell? ⟨g, 13, none⟩ = some (.string f.cmd.val)
  c14 : W.cell? ⟨g, 14, none⟩ = some (.string f.cmd.exp)
  c15 : W.cell? ⟨g, 15, none⟩ = some (.string f.cmd.frm)
  c16 : W.cell? ⟨g, 16, none⟩ = some (.string f.cmd.tto)
  c17 : W.cell? ⟨g, 17, none⟩ = some (.int .u8 (f.cmd.lim : Int))
  c18 : W.cell? ⟨g, 18, none⟩ = some (.int .u64 (f.cmd.lease : Int))
  c19 : W.cell? ⟨g, 19, none⟩ = some (.int .u64 (f.cmd.ttl : Int))
  c20 : W.cell? ⟨g, 20, none⟩ = some (.slice A f.cmd.parts.length cap)
  c21 : W.cell? ⟨g, 21, none⟩ = some (.int .u8 (f.op.op : Int))
  c22 : W.cell? ⟨g, 22, none⟩ = some (.int .u8 (f.op.slot : Int))
  c23 : W.cell? ⟨g, 23, none⟩ = some (.int .u8 (f.op.tok.a0.toNat : Int))
  c24 : W.cell? ⟨g, 24, none⟩ = some (.int .u8 (f.op.tok.a1.toNat : Int))
  c25 : W.cell? ⟨g, 25, none⟩ = some (.int .u8 (f.op.tok.a2.toNat : Int))
  c26 : W.cell? ⟨g, 26, none⟩ = some (.int .u8 (f.op.tok.a3.toNat : Int))
  c27 : W.cell? ⟨g, 27, none⟩ = some (.int .u8 (f.op.tok.a4.toNat : Int))
  c28 : W.cell? ⟨g, 28, none⟩ = some (.int .u8 (f.op.tok.a5.toNat : Int))
  c29 : W.cell? ⟨g, 29, none⟩ = some (.int .u8 (f.op.tok.a6.toNat : Int))
  c30 : W.cell? ⟨g, 30, none⟩ = some (.int .u8 (f.op.tok.a7.toNat : Int))
  c31 : W.cell? ⟨g, 31, none⟩ = some (.int .u8 (f.op.role : Int))
  c32 : W.cell? ⟨g, 32, none⟩ = some (.int .i64 f.op.keys)
  c33 : W.cell? ⟨g, 33, none⟩ = some (.int .i64 f.op.bytes)
  c34 : W.cell? ⟨g, 34, none⟩ = some (.int .i64 f.op.rate)
  c35 : W.cell? ⟨g, 35, none⟩ = some (.int .i64 f.op.burst)
  c36 : W.cell? ⟨g, 36, none⟩ = some (.int .u8 (f.op.node : Int))
  fz : ∀ i, W.frozen? ⟨g, i, none⟩ = false
theorem frAt {W : World} {g : Nat} {f : Fr.F} {A : Option Addr} {cap : Nat} (h : W.heap[g]? = some (.cells (frC f A cap) 32 (0, 0))) : FrAt W g f A cap :=
  ⟨cell_of_row W g 0 _ _ _ h, cell_of_row W g 1 _ _ _ h, cell_of_row W g 2 _ _ _ h, cell_of_row W g 3 _ _ _ h, cell_of_row W g 4 _ _ _ h, cell_of_row W g 5 _ _ _ h, cell_of_row W g 6 _ _ _ h, cell_of_row W g 7 _ _ _ h, cell_of_row W g 8 _ _ _ h, cell_of_row W g 9 _ _ _ h, cell_of_row W g 10 _ _ _ h, cell_of_row W g 11 _ _ _ h, cell_of_row W g 12 _ _ _ h, cell_of_row W g 13 _ _ _ h, cell_of_row W g 14 _ _ _ h, cell_of_row W g 15 _ _ _ h, cell_of_row W g 16 _ _ _ h, cell_of_row W g 17 _ _ _ h, cell_of_row W g 18 _ _ _ h, cell_of_row W g 19 _ _ _ h, cell_of_row W g 20 _ _ _ h, cell_of_row W g 21 _ _ _ h, cell_of_row W g 22 _ _ _ h, cell_of_row W g 23 _ _ _ h, cell_of_row W g 24 _ _ _ h, cell_of_row W g 25 _ _ _ h, cell_of_row W g 26 _ _ _ h, cell_of_row W g 27 _ _ _ h, cell_of_row W g 28 _ _ _ h, cell_of_row W g 29 _ _ _ h, cell_of_row W g 30 _ _ _ h, cell_of_row W g 31 _ _ _ h, cell_of_row W g 32 _ _ _ h, cell_of_row W g 33 _ _ _ h, cell_of_row W g 34 _ _ _ h, cell_of_row W g 35 _ _ _ h, cell_of_row W g 36 _ _ _ h, fun i => frozen_of_row W g i _ _ h⟩
theorem sizeFr : (Try.prog.info? 32).map (·.size) = some 37 := by kernel_rfl
theorem storeFr (X : Array Value) (hs : X.size = 37) (ho : X.all (·.oneCell') = true) (W : World) : (storeCells ⟨W.heap.size, 0, none⟩ X.toList 0).run Try.prog (W.alloc (.cells #[.int .u8 0, .int .u8 0, .int .u8 0, .int .u8 0, .int .u8 0, .int .u8 0, .int .u8 0, .int .u8 0, .int .u8 0, .int .u8 0, .int .u64 0, .int .u64 0, .string ⟨#[]⟩, .string ⟨#[]⟩, .string ⟨#[]⟩, .string ⟨#[]⟩, .string ⟨#[]⟩, .int .u8 0, .int .u64 0, .int .u64 0, .slice none 0 0, .int .u8 0, .int .u8 0, .int .u8 0, .int .u8 0, .int .u8 0, .int .u8 0, .int .u8 0, .int .u8 0, .int .u8 0, .int .u8 0, .int .u8 0, .int .i64 0, .int .i64 0, .int .i64 0, .int .i64 0, .int .u8 0] 32)) = .ok () (W.alloc (.cells X 32)) :=
  run_storeCells_new (P := Try.prog) W 32 _ X (by rw [hs]; exact sizeFr) (by rw [hs]; rfl) ho
/-- Laid over a row, cell by cell. -/
theorem frPut {W : World} {g : Nat} {z f : Fr.F} {B A : Option Addr} {cz cap : Nat} (h : W.heap[g]? = some (.cells (frC z B cz) 32 (0, 0))) :
    ((((((((((((((((((((((((((((((((((((((W).setCell ⟨g, 0, none⟩ (.int .u8 (f.kind : Int))).setCell ⟨g, 1, none⟩ (.int .u8 (f.tok.a0.toNat : Int))).setCell ⟨g, 2, none⟩ (.int .u8 (f.tok.a1.toNat : Int))).setCell ⟨g, 3, none⟩ (.int .u8 (f.tok.a2.toNat : Int))).setCell ⟨g, 4, none⟩ (.int .u8 (f.tok.a3.toNat : Int))).setCell ⟨g, 5, none⟩ (.int .u8 (f.tok.a4.toNat : Int))).setCell ⟨g, 6, none⟩ (.int .u8 (f.tok.a5.toNat : Int))).setCell ⟨g, 7, none⟩ (.int .u8 (f.tok.a6.toNat : Int))).setCell ⟨g, 8, none⟩ (.int .u8 (f.tok.a7.toNat : Int))).setCell ⟨g, 9, none⟩ (.int .u8 (f.cmd.op : Int))).setCell ⟨g, 10, none⟩ (.int .u64 (f.cmd.ses : Int))).setCell ⟨g, 11, none⟩ (.int .u64 (f.cmd.seq : Int))).setCell ⟨g, 12, none⟩ (.string f.cmd.key)).setCell ⟨g, 13, none⟩ (.string f.cmd.val)).setCell ⟨g, 14, none⟩ (.string f.cmd.exp)).setCell ⟨g, 15, none⟩ (.string f.cmd.frm)).setCell ⟨g, 16, none⟩ (.string f.cmd.tto)).setCell ⟨g, 17, none⟩ (.int .u8 (f.cmd.lim : Int))).setCell ⟨g, 18, none⟩ (.int .u64 (f.cmd.lease : Int))).setCell ⟨g, 19, none⟩ (.int .u64 (f.cmd.ttl : Int))).setCell ⟨g, 20, none⟩ (.slice A f.cmd.parts.length cap)).setCell ⟨g, 21, none⟩ (.int .u8 (f.op.op : Int))).setCell ⟨g, 22, none⟩ (.int .u8 (f.op.slot : Int))).setCell ⟨g, 23, none⟩ (.int .u8 (f.op.tok.a0.toNat : Int))).setCell ⟨g, 24, none⟩ (.int .u8 (f.op.tok.a1.toNat : Int))).setCell ⟨g, 25, none⟩ (.int .u8 (f.op.tok.a2.toNat : Int))).setCell ⟨g, 26, none⟩ (.int .u8 (f.op.tok.a3.toNat : Int))).setCell ⟨g, 27, none⟩ (.int .u8 (f.op.tok.a4.toNat : Int))).setCell ⟨g, 28, none⟩ (.int .u8 (f.op.tok.a5.toNat : Int))).setCell ⟨g, 29, none⟩ (.int .u8 (f.op.tok.a6.toNat : Int))).setCell ⟨g, 30, none⟩ (.int .u8 (f.op.tok.a7.toNat : Int))).setCell ⟨g, 31, none⟩ (.int .u8 (f.op.role : Int))).setCell ⟨g, 32, none⟩ (.int .i64 f.op.keys)).setCell ⟨g, 33, none⟩ (.int .i64 f.op.bytes)).setCell ⟨g, 34, none⟩ (.int .i64 f.op.rate)).setCell ⟨g, 35, none⟩ (.int .i64 f.op.burst)).setCell ⟨g, 36, none⟩ (.int .u8 (f.op.node : Int))).heap[g]? = some (.cells (frC f A cap) 32 (0, 0)) := by
  have s0 := heap_setCell_same _ g 0 _ _ (.int .u8 (f.kind : Int)) h
  have s1 := heap_setCell_same _ g 1 _ _ (.int .u8 (f.tok.a0.toNat : Int)) s0
  have s2 := heap_setCell_same _ g 2 _ _ (.int .u8 (f.tok.a1.toNat : Int)) s1
  have s3 := heap_setCell_same _ g 3 _ _ (.int .u8 (f.tok.a2.toNat : Int)) s2
  have s4 := heap_setCell_same _ g 4 _ _ (.int .u8 (f.tok.a3.toNat : Int)) s3
  have s5 := heap_setCell_same _ g 5 _ _ (.int .u8 (f.tok.a4.toNat : Int)) s4
  have s6 := heap_setCell_same _ g 6 _ _ (.int .u8 (f.tok.a5.toNat : Int)) s5
  have s7 := heap_setCell_same _ g 7 _ _ (.int .u8 (f.tok.a6.toNat : Int)) s6
  have s8 := heap_setCell_same _ g 8 _ _ (.int .u8 (f.tok.a7.toNat : Int)) s7
  have s9 := heap_setCell_same _ g 9 _ _ (.int .u8 (f.cmd.op : Int)) s8
  have s10 := heap_setCell_same _ g 10 _ _ (.int .u64 (f.cmd.ses : Int)) s9
  have s11 := heap_setCell_same _ g 11 _ _ (.int .u64 (f.cmd.seq : Int)) s10
  have s12 := heap_setCell_same _ g 12 _ _ (.string f.cmd.key) s11
  have s13 := heap_setCell_same _ g 13 _ _ (.string f.cmd.val) s12
  have s14 := heap_setCell_same _ g 14 _ _ (.string f.cmd.exp) s13
  have s15 := heap_setCell_same _ g 15 _ _ (.string f.cmd.frm) s14
  have s16 := heap_setCell_same _ g 16 _ _ (.string f.cmd.tto) s15
  have s17 := heap_setCell_same _ g 17 _ _ (.int .u8 (f.cmd.lim : Int)) s16
  have s18 := heap_setCell_same _ g 18 _ _ (.int .u64 (f.cmd.lease : Int)) s17
  have s19 := heap_setCell_same _ g 19 _ _ (.int .u64 (f.cmd.ttl : Int)) s18
  have s20 := heap_setCell_same _ g 20 _ _ (.slice A f.cmd.parts.length cap) s19
  have s21 := heap_setCell_same _ g 21 _ _ (.int .u8 (f.op.op : Int)) s20
  have s22 := heap_setCell_same _ g 22 _ _ (.int .u8 (f.op.slot : Int)) s21
  have s23 := heap_setCell_same _ g 23 _ _ (.int .u8 (f.op.tok.a0.toNat : Int)) s22
  have s24 := heap_setCell_same _ g 24 _ _ (.int .u8 (f.op.tok.a1.toNat : Int)) s23
  have s25 := heap_setCell_same _ g 25 _ _ (.int .u8 (f.op.tok.a2.toNat : Int)) s24
  have s26 := heap_setCell_same _ g 26 _ _ (.int .u8 (f.op.tok.a3.toNat : Int)) s25
  have s27 := heap_setCell_same _ g 27 _ _ (.int .u8 (f.op.tok.a4.toNat : Int)) s26
  have s28 := heap_setCell_same _ g 28 _ _ (.int .u8 (f.op.tok.a5.toNat : Int)) s27
  have s29 := heap_setCell_same _ g 29 _ _ (.int .u8 (f.op.tok.a6.toNat : Int)) s28
  have s30 := heap_setCell_same _ g 30 _ _ (.int .u8 (f.op.tok.a7.toNat : Int)) s29
  have s31 := heap_setCell_same _ g 31 _ _ (.int .u8 (f.op.role : Int)) s30
  have s32 := heap_setCell_same _ g 32 _ _ (.int .i64 f.op.keys) s31
  have s33 := heap_setCell_same _ g 33 _ _ (.int .i64 f.op.bytes) s32
  have s34 := heap_setCell_same _ g 34 _ _ (.int .i64 f.op.rate) s33
  have s35 := heap_setCell_same _ g 35 _ _ (.int .i64 f.op.burst) s34
  have s36 := heap_setCell_same _ g 36 _ _ (.int .u8 (f.op.node : Int)) s35
  rw [s36]
  simp [frC]
theorem frBelow {W w : World} {B g : Nat} {f : Fr.F} {A : Option Addr} {cap : Nat} (h : Below B w W) (hg : B ≤ g) :
    Below B w ((((((((((((((((((((((((((((((((((((((W).setCell ⟨g, 0, none⟩ (.int .u8 (f.kind : Int))).setCell ⟨g, 1, none⟩ (.int .u8 (f.tok.a0.toNat : Int))).setCell ⟨g, 2, none⟩ (.int .u8 (f.tok.a1.toNat : Int))).setCell ⟨g, 3, none⟩ (.int .u8 (f.tok.a2.toNat : Int))).setCell ⟨g, 4, none⟩ (.int .u8 (f.tok.a3.toNat : Int))).setCell ⟨g, 5, none⟩ (.int .u8 (f.tok.a4.toNat : Int))).setCell ⟨g, 6, none⟩ (.int .u8 (f.tok.a5.toNat : Int))).setCell ⟨g, 7, none⟩ (.int .u8 (f.tok.a6.toNat : Int))).setCell ⟨g, 8, none⟩ (.int .u8 (f.tok.a7.toNat : Int))).setCell ⟨g, 9, none⟩ (.int .u8 (f.cmd.op : Int))).setCell ⟨g, 10, none⟩ (.int .u64 (f.cmd.ses : Int))).setCell ⟨g, 11, none⟩ (.int .u64 (f.cmd.seq : Int))).setCell ⟨g, 12, none⟩ (.string f.cmd.key)).setCell ⟨g, 13, none⟩ (.string f.cmd.val)).setCell ⟨g, 14, none⟩ (.string f.cmd.exp)).setCell ⟨g, 15, none⟩ (.string f.cmd.frm)).setCell ⟨g, 16, none⟩ (.string f.cmd.tto)).setCell ⟨g, 17, none⟩ (.int .u8 (f.cmd.lim : Int))).setCell ⟨g, 18, none⟩ (.int .u64 (f.cmd.lease : Int))).setCell ⟨g, 19, none⟩ (.int .u64 (f.cmd.ttl : Int))).setCell ⟨g, 20, none⟩ (.slice A f.cmd.parts.length cap)).setCell ⟨g, 21, none⟩ (.int .u8 (f.op.op : Int))).setCell ⟨g, 22, none⟩ (.int .u8 (f.op.slot : Int))).setCell ⟨g, 23, none⟩ (.int .u8 (f.op.tok.a0.toNat : Int))).setCell ⟨g, 24, none⟩ (.int .u8 (f.op.tok.a1.toNat : Int))).setCell ⟨g, 25, none⟩ (.int .u8 (f.op.tok.a2.toNat : Int))).setCell ⟨g, 26, none⟩ (.int .u8 (f.op.tok.a3.toNat : Int))).setCell ⟨g, 27, none⟩ (.int .u8 (f.op.tok.a4.toNat : Int))).setCell ⟨g, 28, none⟩ (.int .u8 (f.op.tok.a5.toNat : Int))).setCell ⟨g, 29, none⟩ (.int .u8 (f.op.tok.a6.toNat : Int))).setCell ⟨g, 30, none⟩ (.int .u8 (f.op.tok.a7.toNat : Int))).setCell ⟨g, 31, none⟩ (.int .u8 (f.op.role : Int))).setCell ⟨g, 32, none⟩ (.int .i64 f.op.keys)).setCell ⟨g, 33, none⟩ (.int .i64 f.op.bytes)).setCell ⟨g, 34, none⟩ (.int .i64 f.op.rate)).setCell ⟨g, 35, none⟩ (.int .i64 f.op.burst)).setCell ⟨g, 36, none⟩ (.int .u8 (f.op.node : Int))) :=
  (((((((((((((((((((((((((((((((((((((h).setCell (p := ⟨g, 0, none⟩) hg _).setCell (p := ⟨g, 1, none⟩) hg _).setCell (p := ⟨g, 2, none⟩) hg _).setCell (p := ⟨g, 3, none⟩) hg _).setCell (p := ⟨g, 4, none⟩) hg _).setCell (p := ⟨g, 5, none⟩) hg _).setCell (p := ⟨g, 6, none⟩) hg _).setCell (p := ⟨g, 7, none⟩) hg _).setCell (p := ⟨g, 8, none⟩) hg _).setCell (p := ⟨g, 9, none⟩) hg _).setCell (p := ⟨g, 10, none⟩) hg _).setCell (p := ⟨g, 11, none⟩) hg _).setCell (p := ⟨g, 12, none⟩) hg _).setCell (p := ⟨g, 13, none⟩) hg _).setCell (p := ⟨g, 14, none⟩) hg _).setCell (p := ⟨g, 15, none⟩) hg _).setCell (p := ⟨g, 16, none⟩) hg _).setCell (p := ⟨g, 17, none⟩) hg _).setCell (p := ⟨g, 18, none⟩) hg _).setCell (p := ⟨g, 19, none⟩) hg _).setCell (p := ⟨g, 20, none⟩) hg _).setCell (p := ⟨g, 21, none⟩) hg _).setCell (p := ⟨g, 22, none⟩) hg _).setCell (p := ⟨g, 23, none⟩) hg _).setCell (p := ⟨g, 24, none⟩) hg _).setCell (p := ⟨g, 25, none⟩) hg _).setCell (p := ⟨g, 26, none⟩) hg _).setCell (p := ⟨g, 27, none⟩) hg _).setCell (p := ⟨g, 28, none⟩) hg _).setCell (p := ⟨g, 29, none⟩) hg _).setCell (p := ⟨g, 30, none⟩) hg _).setCell (p := ⟨g, 31, none⟩) hg _).setCell (p := ⟨g, 32, none⟩) hg _).setCell (p := ⟨g, 33, none⟩) hg _).setCell (p := ⟨g, 34, none⟩) hg _).setCell (p := ⟨g, 35, none⟩) hg _).setCell (p := ⟨g, 36, none⟩) hg _
def rpC (r : Fr.R) (A : Option Addr) (cap : Nat) : Array Value := #[.int .u8 (r.kind : Int), .int .u64 (r.ses : Int), .int .u64 (r.seq : Int), .int .u8 (r.lead : Int), .int .u8 (r.res.code : Int), .int .u64 (r.res.n : Int), .string r.res.val, .slice A r.res.rows.length cap]
theorem rpLit (r : Fr.R) (A : Option Addr) (cap : Nat) : rpC r A cap = #[.int .u8 (r.kind : Int), .int .u64 (r.ses : Int), .int .u64 (r.seq : Int), .int .u8 (r.lead : Int), .int .u8 (r.res.code : Int), .int .u64 (r.res.n : Int), .string r.res.val, .slice A r.res.rows.length cap] := rfl
/-- What the walk asks of them. -/
structure RpF (X : Array Value) (r : Fr.R) (A : Option Addr) (cap : Nat) : Prop where
  size : X.size = 8
  one : X.all (·.oneCell') = true
  f0 : ∀ h, X[0]'h = .int .u8 (r.kind : Int)
  f1 : ∀ h, X[1]'h = .int .u64 (r.ses : Int)
  f2 : ∀ h, X[2]'h = .int .u64 (r.seq : Int)
  f3 : ∀ h, X[3]'h = .int .u8 (r.lead : Int)
  f4 : ∀ h, X[4]'h = .int .u8 (r.res.code : Int)
  f5 : ∀ h, X[5]'h = .int .u64 (r.res.n : Int)
  f6 : ∀ h, X[6]'h = .string r.res.val
  f7 : ∀ h, X[7]'h = .slice A r.res.rows.length cap
theorem rpF (r : Fr.R) (A : Option Addr) (cap : Nat) : RpF (rpC r A cap) r A cap :=
  ⟨rfl, by simp [rpC, Value.oneCell'], fun _ => rfl, fun _ => rfl, fun _ => rfl, fun _ => rfl, fun _ => rfl, fun _ => rfl, fun _ => rfl, fun _ => rfl⟩
/-- One that lies in block g. -/
structure RpAt (W : World) (g : Nat) (r : Fr.R) (A : Option Addr) (cap : Nat) : Prop where
  c0 : W.cell? ⟨g, 0, none⟩ = some (.int .u8 (r.kind : Int))
  c1 : W.cell? ⟨g, 1, none⟩ = some (.int .u64 (r.ses : Int))
  c2 : W.cell? ⟨g, 2, none⟩ = some (.int .u64 (r.seq : Int))
  c3 : W.cell? ⟨g, 3, none⟩ = some (.int .u8 (r.lead : Int))
  c4 : W.cell? ⟨g, 4, none⟩ = some (.int .u8 (r.res.code : Int))
  c5 : W.cell? ⟨g, 5, none⟩ = some (.int .u64 (r.res.n : Int))
  c6 : W.cell? ⟨g, 6, none⟩ = some (.string r.res.val)
  c7 : W.cell? ⟨g, 7, none⟩ = some (.slice A r.res.rows.length cap)
  fz : ∀ i, W.frozen? ⟨g, i, none⟩ = false
theorem rpAt {W : World} {g : Nat} {r : Fr.R} {A : Option Addr} {cap : Nat} (h : W.heap[g]? = some (.cells (rpC r A cap) 39 (0, 0))) : RpAt W g r A cap :=
  ⟨cell_of_row W g 0 _ _ _ h, cell_of_row W g 1 _ _ _ h, cell_of_row W g 2 _ _ _ h, cell_of_row W g 3 _ _ _ h, cell_of_row W g 4 _ _ _ h, cell_of_row W g 5 _ _ _ h, cell_of_row W g 6 _ _ _ h, cell_of_row W g 7 _ _ _ h, fun i => frozen_of_row W g i _ _ h⟩
theorem sizeRp : (Try.prog.info? 39).map (·.size) = some 8 := by kernel_rfl
theorem storeRp (X : Array Value) (hs : X.size = 8) (ho : X.all (·.oneCell') = true) (W : World) : (storeCells ⟨W.heap.size, 0, none⟩ X.toList 0).run Try.prog (W.alloc (.cells #[.int .u8 0, .int .u64 0, .int .u64 0, .int .u8 0, .int .u8 0, .int .u64 0, .string ⟨#[]⟩, .slice none 0 0] 39)) = .ok () (W.alloc (.cells X 39)) :=
  run_storeCells_new (P := Try.prog) W 39 _ X (by rw [hs]; exact sizeRp) (by rw [hs]; rfl) ho
/-- Laid over a row, cell by cell. -/
theorem rpPut {W : World} {g : Nat} {z r : Fr.R} {B A : Option Addr} {cz cap : Nat} (h : W.heap[g]? = some (.cells (rpC z B cz) 39 (0, 0))) :
    (((((((((W).setCell ⟨g, 0, none⟩ (.int .u8 (r.kind : Int))).setCell ⟨g, 1, none⟩ (.int .u64 (r.ses : Int))).setCell ⟨g, 2, none⟩ (.int .u64 (r.seq : Int))).setCell ⟨g, 3, none⟩ (.int .u8 (r.lead : Int))).setCell ⟨g, 4, none⟩ (.int .u8 (r.res.code : Int))).setCell ⟨g, 5, none⟩ (.int .u64 (r.res.n : Int))).setCell ⟨g, 6, none⟩ (.string r.res.val)).setCell ⟨g, 7, none⟩ (.slice A r.res.rows.length cap)).heap[g]? = some (.cells (rpC r A cap) 39 (0, 0)) := by
  have s0 := heap_setCell_same _ g 0 _ _ (.int .u8 (r.kind : Int)) h
  have s1 := heap_setCell_same _ g 1 _ _ (.int .u64 (r.ses : Int)) s0
  have s2 := heap_setCell_same _ g 2 _ _ (.int .u64 (r.seq : Int)) s1
  have s3 := heap_setCell_same _ g 3 _ _ (.int .u8 (r.lead : Int)) s2
  have s4 := heap_setCell_same _ g 4 _ _ (.int .u8 (r.res.code : Int)) s3
  have s5 := heap_setCell_same _ g 5 _ _ (.int .u64 (r.res.n : Int)) s4
  have s6 := heap_setCell_same _ g 6 _ _ (.string r.res.val) s5
  have s7 := heap_setCell_same _ g 7 _ _ (.slice A r.res.rows.length cap) s6
  rw [s7]
  simp [rpC]
theorem rpBelow {W w : World} {B g : Nat} {r : Fr.R} {A : Option Addr} {cap : Nat} (h : Below B w W) (hg : B ≤ g) :
    Below B w (((((((((W).setCell ⟨g, 0, none⟩ (.int .u8 (r.kind : Int))).setCell ⟨g, 1, none⟩ (.int .u64 (r.ses : Int))).setCell ⟨g, 2, none⟩ (.int .u64 (r.seq : Int))).setCell ⟨g, 3, none⟩ (.int .u8 (r.lead : Int))).setCell ⟨g, 4, none⟩ (.int .u8 (r.res.code : Int))).setCell ⟨g, 5, none⟩ (.int .u64 (r.res.n : Int))).setCell ⟨g, 6, none⟩ (.string r.res.val)).setCell ⟨g, 7, none⟩ (.slice A r.res.rows.length cap)) :=
  ((((((((h).setCell (p := ⟨g, 0, none⟩) hg _).setCell (p := ⟨g, 1, none⟩) hg _).setCell (p := ⟨g, 2, none⟩) hg _).setCell (p := ⟨g, 3, none⟩) hg _).setCell (p := ⟨g, 4, none⟩) hg _).setCell (p := ⟨g, 5, none⟩) hg _).setCell (p := ⟨g, 6, none⟩) hg _).setCell (p := ⟨g, 7, none⟩) hg _
end Go.Proofs.Ytlcgjlganmblpaa
namespace Go.Proofs.Ytlcgjlganmblpaa
open Go.RowKit
theorem tok_eql (x y : Og.Tk) (W : World) : (binOp .eql 23 (.agg (tk8 x)) (.agg (tk8 y))).run Try.prog W = .ok (.bool (decide (x = y))) W := by
  have h : (Op.equalIn 10000 23 (.agg (tk8 x)) (.agg (tk8 y))).run Try.prog W = .ok (decide (x = y)) W := tok_eq 9998 W x y
  rw [run_eql_struct, h, Result.andThen_ok]
theorem body_empty (s : ByteArray) : s.toList.isEmpty = (s.size == 0) := by
  rw [ByteArray.toList_eq, Lib.size_eq, Bool.eq_iff_iff, List.isEmpty_iff, beq_iff_eq, List.length_eq_zero_iff]
/-- A contract's end: a truth; what was there is as it was. -/
def RetTr (b : Bool) (w : World) (e : Ending) (w' : World) : Prop := e = .returned (.bool b) ∧ Below w.heap.size w w'
theorem bytes_eq (s t : ByteArray) : (s.toList == t.toList) = decide (s = t) := by
  rw [Bool.eq_iff_iff, beq_iff_eq, decide_eq_true_iff, ByteArray.toList_eq, ByteArray.toList_eq]
  constructor
  · intro h; exact ByteArray.ext (Array.toList_inj.1 h)
  · intro h; rw [h]
theorem dec_t {m n : Nat} (h : m < n) : decide ((m : Int) < (n : Int)) = true := by simp; omega
theorem dec_f {m n : Nat} (h : ¬ m < n) : decide ((m : Int) < (n : Int)) = false := by simp; omega
end Go.Proofs.Ytlcgjlganmblpaa
namespace Go.Proofs.Ytlcgjlganmblpaa
open Go.RowKit
section
variable {P : Program}
/-- Cells laid over a row from place k on. -/
def lay (X : Array Value) : Nat → List Value → Array Value
  | _, [] => X
  | k, v :: r => lay (X.setIfInBounds k v) (k + 1) r
theorem lay_size : ∀ (vs : List Value) (k : Nat) (X : Array Value), (lay X k vs).size = X.size
  | [], _, _ => rfl
  | v :: r, k, X => by rw [lay, lay_size r]; simp
theorem row_setCells {g : Nat} {T : TypeId} : ∀ (vs : List Value) (k : Nat) (W : World) (X : Array Value), W.heap[g]? = some (.cells X T (0, 0)) → (W.setCells g k vs).heap[g]? = some (.cells (lay X k vs) T (0, 0))
  | [], _, _, _, h => h
  | v :: r, k, W, X, h => by
    rw [World.setCells, lay]
    exact row_setCells r (k + 1) _ _ (heap_setCell_same W g k X T v h)
theorem setCells_other {g j : Nat} (hj : j ≠ g) : ∀ (vs : List Value) (k : Nat) (W : World), (W.setCells g k vs).heap[j]? = W.heap[j]?
  | [], _, _ => rfl
  | v :: r, k, W => by
    rw [World.setCells, setCells_other hj r (k + 1)]
    exact heap_setCell_other W ⟨g, k, none⟩ j v hj
theorem setCells_below {B g : Nat} {w : World} (hg : B ≤ g) : ∀ (vs : List Value) (k : Nat) (W : World), Below B w W → Below B w (W.setCells g k vs)
  | [], _, _, h => h
  | v :: r, k, W, h => by
    rw [World.setCells]
    exact setCells_below hg r (k + 1) _ (h.setCell (p := ⟨g, k, none⟩) hg v)
theorem there_row {W : World} {g : Nat} {X : Array Value} {T : TypeId} (h : W.heap[g]? = some (.cells X T (0, 0))) (k n : Nat) (hn : k + n ≤ X.size) : W.there g k n := fun j hj =>
  ⟨by rw [cell_of_row W g (k + j) X T _ h, Array.getElem?_eq_getElem (by omega)]; rfl, frozen_of_row W g (k + j) X T h⟩
theorem range_row {W : World} {g : Nat} {X : Array Value} {T : TypeId} {fr : Nat × Nat} (h : W.heap[g]? = some (.cells X T fr)) (k : Nat) (Y : Array Value) (hY : ∀ j, j < Y.size → X[k + j]? = Y[j]?) : W.rangeAt g k Y.toList := fun j v hv => by
  have hj : j < Y.size := by simpa using (List.getElem?_eq_some_iff.1 hv).1
  rw [cell_of_row W g (k + j) X T fr h, hY j hj]
  simpa using hv
section
variable {ops : Array Oper} {Q : Exit → Act → World → Prop} {a : Act} {w : World} {rest : List Oper} {o : Oper}
theorem wpList_want (hw : Region.wanted o (yielded ops a.tmps) = true)
    (h : ∀ K : Act → World → Prop, (∀ a w, wpList P ops Q rest a w → K a w) → o.wp P a w K Q) : wpList P ops Q (o :: rest) a w :=
  wpList_step fun K hK => by rw [if_pos hw]; exact h K hK
/-- A struct that lies in a row from place k on is loaded. -/
theorem wpList_load_sub (hw : Region.wanted o (yielded ops a.tmps) = true) (ty : TypeId) (x : Operand) (ho : o.op = .load ty x)
    (g k : Nat) (hx : a.eval x = .pointer (some ⟨g, k, none⟩)) (T : TypeId) (X Y : Array Value) (fr : Nat × Nat) (d : TypeDesc) (hg : w.heap[g]? = some (.cells X T fr)) (hY : ∀ j, j < Y.size → X[k + j]? = Y[j]?)
    (hu : P.underlying ty = some d) (hd : d.isRow = true) (hi : (P.info? ty).map (·.size) = some Y.size)
    (h : wpList P ops Q rest (a.put o.dst (.agg Y)) w) : wpList P ops Q (o :: rest) a w :=
  wpList_want hw fun K hK => wp_load_mid ty x ho g k hx Y.toList d (range_row hg k Y hY) hu hd (by simpa using hi) (by simpa using hK _ _ h)
/-- A struct is stored into a row from place k on. -/
theorem wpList_store_sub (hw : Region.wanted o (yielded ops a.tmps) = true) (ty : TypeId) (x y : Operand) (ho : o.op = .store ty x y)
    (g k : Nat) (hx : a.eval x = .pointer (some ⟨g, k, none⟩)) (T : TypeId) (X Y : Array Value) (hy : a.eval y = .agg Y) (hg : w.heap[g]? = some (.cells X T (0, 0))) (hk : k + Y.size ≤ X.size)
    (hi : (P.info? ty).map (·.size) = some Y.size) (h1 : Y.all (·.oneCell') = true)
    (h : wpList P ops Q rest (a.put o.dst undef) (w.setCells g k Y.toList)) : wpList P ops Q (o :: rest) a w :=
  wpList_want hw fun K hK => wp_store_mid ty x y ho g k Y hx hy (there_row hg k Y.size hk) hi h1 (hK _ _ h)
end
end
end Go.Proofs.Ytlcgjlganmblpaa
namespace Go.Proofs.Ytlcgjlganmblpaa
open Go.RowKit
set_option maxRecDepth 100000
set_option maxHeartbeats 1000000
theorem subTok (f : Fr.F) (A : Option Addr) (cap : Nat) : ∀ j, j < (tk8 f.tok).size → (frC f A cap)[1 + j]? = (tk8 f.tok)[j]? := fun j (h : j < 8) => match j, h with | 0, _ => rfl | 1, _ => rfl | 2, _ => rfl | 3, _ => rfl | 4, _ => rfl | 5, _ => rfl | 6, _ => rfl | 7, _ => rfl | n + 8, h => absurd h (by omega)
theorem subCmd (f : Fr.F) (A : Option Addr) (cap : Nat) : ∀ j, j < (cmdC f.cmd A cap).size → (frC f A cap)[9 + j]? = (cmdC f.cmd A cap)[j]? := fun j (h : j < 12) => match j, h with | 0, _ => rfl | 1, _ => rfl | 2, _ => rfl | 3, _ => rfl | 4, _ => rfl | 5, _ => rfl | 6, _ => rfl | 7, _ => rfl | 8, _ => rfl | 9, _ => rfl | 10, _ => rfl | 11, _ => rfl | n + 12, h => absurd h (by omega)
theorem subOp (f : Fr.F) (A : Option Addr) (cap : Nat) : ∀ j, j < (operC f.op).size → (frC f A cap)[21 + j]? = (operC f.op)[j]? := fun j (h : j < 16) => match j, h with | 0, _ => rfl | 1, _ => rfl | 2, _ => rfl | 3, _ => rfl | 4, _ => rfl | 5, _ => rfl | 6, _ => rfl | 7, _ => rfl | 8, _ => rfl | 9, _ => rfl | 10, _ => rfl | 11, _ => rfl | 12, _ => rfl | 13, _ => rfl | 14, _ => rfl | 15, _ => rfl | n + 16, h => absurd h (by omega)
theorem subAll (X : Array Value) : ∀ j, j < X.size → X[0 + j]? = X[j]? := fun j _ => by rw [Nat.zero_add]
theorem subRes (r : Fr.R) (A : Option Addr) (cap : Nat) : ∀ j, j < (resC r.res A cap).size → (rpC r A cap)[4 + j]? = (resC r.res A cap)[j]? := fun j (h : j < 4) => match j, h with | 0, _ => rfl | 1, _ => rfl | 2, _ => rfl | 3, _ => rfl | n + 4, h => absurd h (by omega)
theorem sizeTk8 (t : Og.Tk) : (Try.prog.info? 23).map (·.size) = some (tk8 t).size := by
  show _ = some 8
  kernel_rfl
theorem sizeCmdC (c : Cm.Cmd) (A : Option Addr) (cap : Nat) : (Try.prog.info? 30).map (·.size) = some (cmdC c A cap).size := sizeCmd
theorem sizeOpC (c : Og.Oper) : (Try.prog.info? 26).map (·.size) = some (operC c).size := sizeOper
theorem sizeResC (r : Rs.Res) (A : Option Addr) (cap : Nat) : (Try.prog.info? 37).map (·.size) = some (resC r A cap).size := by
  show _ = some 4
  kernel_rfl
theorem sizeFrC (f : Fr.F) (A : Option Addr) (cap : Nat) : (Try.prog.info? 32).map (·.size) = some (frC f A cap).size := sizeFr
theorem sizeRpC (r : Fr.R) (A : Option Addr) (cap : Nat) : (Try.prog.info? 39).map (·.size) = some (rpC r A cap).size := sizeRp
theorem layCmd (f : Fr.F) (A B : Option Addr) (cap cb : Nat) (c : Cm.Cmd) : lay (frC f A cap) 9 (cmdC c B cb).toList = frC ⟨f.kind, f.tok, c, f.op⟩ B cb := by
  simp [lay, frC, cmdC]
theorem layOp (f : Fr.F) (A : Option Addr) (cap : Nat) (o : Og.Oper) : lay (frC f A cap) 21 (operC o).toList = frC ⟨f.kind, f.tok, f.cmd, o⟩ A cap := by
  simp [lay, frC, operC]
theorem layFr (f g : Fr.F) (A B : Option Addr) (cap cb : Nat) : lay (frC f A cap) 0 (frC g B cb).toList = frC g B cb := by
  simp [lay, frC]
theorem layRes (r : Fr.R) (A B : Option Addr) (cap cb : Nat) (x : Rs.Res) : lay (rpC r A cap) 4 (resC x B cb).toList = rpC ⟨r.kind, r.ses, r.seq, r.lead, x⟩ B cb := by
  simp [lay, rpC, resC]
theorem layRp (r q : Fr.R) (A B : Option Addr) (cap cb : Nat) : lay (rpC r A cap) 0 (rpC q B cb).toList = rpC q B cb := by
  simp [lay, rpC]
theorem cmdC_one (c : Cm.Cmd) (A : Option Addr) (cap : Nat) : (cmdC c A cap).all (·.oneCell') = true := (cmdF c A cap).one
theorem resC_one (c : Rs.Res) (A : Option Addr) (cap : Nat) : (resC c A cap).all (·.oneCell') = true := by simp [resC, Value.oneCell']
theorem frC_one (c : Fr.F) (A : Option Addr) (cap : Nat) : (frC c A cap).all (·.oneCell') = true := (frF c A cap).one
theorem rpC_one (c : Fr.R) (A : Option Addr) (cap : Nat) : (rpC c A cap).all (·.oneCell') = true := (rpF c A cap).one
end Go.Proofs.Ytlcgjlganmblpaa
