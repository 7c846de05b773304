/-
  Operator's commands: which may be, their bytes; what the writer's and the reader's walk come to. No program is walked here. WRITTEN BY wip/tools/gen_opmath.py.
-/
import Derived.Test.YtkghldobefgjeaaQORead
import Derived.Test.YtkghldobefgjeaaQMath
set_option linter.unusedSimpArgs false
set_option linter.unusedVariables false
namespace Go.Proofs.Ytkghldobefgjeaa
namespace Og
def amt (n : Int) : Prop := 0 ≤ n ∧ n ≤ 2147483647
instance (n : Int) : Decidable (amt n) := by unfold amt; infer_instance
def none4 (c : Oper) : Prop := c.keys = 0 ∧ c.bytes = 0 ∧ c.rate = 0 ∧ c.burst = 0
instance (c : Oper) : Decidable (none4 c) := by unfold none4; infer_instance
def may (c : Oper) : Prop :=
  (c.op = 1 ∧ c.slot ≤ 3 ∧ c.tok = Tk.zero ∧ c.role = 0 ∧ amt c.keys ∧ amt c.bytes ∧ amt c.rate ∧ amt c.burst ∧ c.node = 0) ∨
  (c.op = 2 ∧ c.slot ≤ 3 ∧ (1 ≤ c.role ∧ c.role ≤ 3) ∧ none4 c ∧ c.node = 0) ∨
  (c.op = 3 ∧ c.slot = 0 ∧ c.role = 0 ∧ none4 c ∧ c.node = 0) ∨
  (c.op = 4 ∧ c.slot ≤ 3 ∧ c.tok = Tk.zero ∧ c.role = 0 ∧ none4 c ∧ c.node = 0) ∨
  ((c.op = 5 ∨ c.op = 6 ∨ c.op = 7) ∧ c.slot = 0 ∧ c.tok = Tk.zero ∧ c.role = 0 ∧ none4 c ∧ (1 ≤ c.node ∧ c.node ≤ 5))
instance (c : Oper) : Decidable (may c) := by unfold may; infer_instance
def enc (c : Oper) : List UInt8 :=
  Cm.one c.op ++ (if c.op = 1 then Cm.one c.slot ++ (Nm.grp c.keys.toNat ++ (Nm.grp c.bytes.toNat ++ (Nm.grp c.rate.toNat ++ Nm.grp c.burst.toNat)))
    else if c.op = 2 then Cm.one c.slot ++ (c.tok.l ++ Cm.one c.role)
    else if c.op = 3 then c.tok.l
    else if c.op = 4 then Cm.one c.slot
    else Cm.one c.node)
theorem un_amt {n : Int} (h : amt n) : un n = n.toNat ∧ n.toNat ≤ 2147483647 ∧ ((n.toNat : Nat) : Int) = n := by unfold amt at h; unfold un; omega
theorem amt_un {n : Int} (h : -9223372036854775808 ≤ n ∧ n < 9223372036854775808) (hu : un n ≤ 2147483647) : amt n := by unfold un at hu; unfold amt; omega
end Og
namespace Wk
theorem wG_in2 (s : St) {n m : Nat} (h : n ≤ m) : wA.grp s n m = (n, ⟨s.l ++ Nm.grp n, s.bad⟩) := by
  show wG s n m = _
  unfold wG; rw [if_neg (by omega)]
theorem wO_of {s : St} {n a b : Nat} (h : (wA.oct s n a b).2.bad = false) : s.bad = false ∧ a ≤ n ∧ n ≤ b := by
  by_cases hc : n < a ∨ b < n
  · rw [wO_out s hc] at h; cases h
  · rw [wO_in s (by omega)] at h; exact ⟨h, by omega, by omega⟩
theorem wG_of {s : St} {n m : Nat} (h : (wA.grp s n m).2.bad = false) : s.bad = false ∧ n ≤ m := by
  by_cases hc : m < n
  · have : wA.grp s n m = (0, ⟨s.l, true⟩) := by
      show wG s n m = _
      unfold wG; rw [if_pos hc]
    rw [this] at h; cases h
  · rw [wG_in2 s (by omega)] at h; exact ⟨h, by omega⟩
theorem wtk_eq (s : St) (t : Og.Tk) : wA.tk s t = (t, ⟨s.l ++ t.l, s.bad⟩) := rfl
theorem rG_in2 (r : List UInt8) (b : Bool) {n m k : Nat} (hn : n < Nm.top) (h : n ≤ k) : rA.grp ⟨Nm.grp n ++ r, b⟩ m k = (n, ⟨r, b⟩) := by
  show rG ⟨Nm.grp n ++ r, b⟩ m k = _
  unfold rG
  simp only [Nm.readV_grp n hn r, if_pos h, List.drop_left]
theorem rtk_in (r : List UInt8) (b : Bool) (x t : Og.Tk) : rA.tk ⟨x.l ++ r, b⟩ t = (x, ⟨r, b⟩) := rfl
theorem rtk_of {s s' : St} {t x : Og.Tk} (h : rA.tk s t = (x, s')) (hb : s'.bad = false) : s.bad = false ∧ s.l = x.l ++ s'.l := by
  unfold Alg.tk at h
  have e : rA.tok s t.l = rK s t.l := rfl
  rw [e] at h
  unfold rK at h
  by_cases h8 : 8 ≤ s.l.length
  · rw [if_pos h8] at h
    simp only [Prod.mk.injEq] at h
    obtain ⟨rfl, rfl⟩ := h
    refine ⟨hb, ?_⟩
    rw [Og.Tk.l_of (by rw [List.length_take]; omega), List.take_append_drop]
  · rw [if_neg h8] at h
    simp only [Prod.mk.injEq] at h
    obtain ⟨_, rfl⟩ := h
    cases hb
theorem oper_w (c : Og.Oper) (hf : Og.Fits c) : ((wA.oper ⟨[], false⟩ c).2.bad = true ∧ ¬ Og.may c) ∨ ((wA.oper ⟨[], false⟩ c).2.bad = false ∧ (wA.oper ⟨[], false⟩ c).2.l = Og.enc c ∧ ((wA.oper ⟨[], false⟩ c).1 = c ↔ Og.may c)) := by
  obtain ⟨op, slot, tok, role, keys, bytes, rate, burst, node⟩ := c
  obtain ⟨_, _, _, _, fk, fb, fr, fu⟩ := hf
  simp only at fk fb fr fu
  by_cases h : 1 ≤ op ∧ op ≤ 7
  · have e0 : wA.oct ⟨[], false⟩ op 1 7 = (op, ⟨Cm.one op, false⟩) := by rw [wO_in _ h]; rfl
    unfold Alg.oper
    simp only [e0]
    by_cases h1 : op = 1
    · subst h1
      have eb : ∀ c : Og.Oper, wA.obody 1 ⟨Cm.one 1, false⟩ c = _ := fun c => by unfold Alg.obody; rw [if_pos rfl]
      rw [eb]; simp only
      by_cases hr : slot ≤ 3 ∧ Og.amt keys ∧ Og.amt bytes ∧ Og.amt rate ∧ Og.amt burst
      · obtain ⟨r0, r1, r2, r3, r4⟩ := hr
        have a1 := Og.un_amt r1; have a2 := Og.un_amt r2; have a3 := Og.un_amt r3; have a4 := Og.un_amt r4
        right
        rw [wO_in _ ⟨Nat.zero_le _, r0⟩]; simp only
        rw [a1.1, a2.1, a3.1, a4.1, wG_in2 _ a1.2.1]; simp only
        rw [wG_in2 _ a2.2.1]; simp only
        rw [wG_in2 _ a3.2.1]; simp only
        rw [wG_in2 _ a4.2.1]; simp only
        refine ⟨trivial, by simp [Og.enc], ?_⟩
        rw [a1.2.2, a2.2.2, a3.2.2, a4.2.2]
        simp only [Og.Oper.mk.injEq, Og.may, Og.none4, r0, r1, r2, r3, r4, true_and, and_true]
        constructor
        · rintro ⟨e1, e2, e3⟩; left; exact ⟨e1.symm, e2.symm, e3.symm⟩
        · rintro (⟨e1, e2, e3⟩ | ⟨e, _⟩ | ⟨e, _⟩ | ⟨e, _⟩ | ⟨e, _⟩)
          · exact ⟨e1.symm, e2.symm, e3.symm⟩
          all_goals (exfalso; omega)
      · left
        refine ⟨?_, fun hm => hr ?_⟩
        · rw [← Bool.not_eq_false]
          intro hb
          obtain ⟨hb, k4⟩ := wG_of hb
          obtain ⟨hb, k3⟩ := wG_of hb
          obtain ⟨hb, k2⟩ := wG_of hb
          obtain ⟨hb, k1⟩ := wG_of hb
          obtain ⟨hb, _, k0⟩ := wO_of hb
          exact hr ⟨k0, Og.amt_un fk k1, Og.amt_un fb k2, Og.amt_un fr k3, Og.amt_un fu k4⟩
        · simp only [Og.may] at hm
          rcases hm with ⟨_, k0, _, _, k1, k2, k3, k4, _⟩ | ⟨e, _⟩ | ⟨e, _⟩ | ⟨e, _⟩ | ⟨e, _⟩
          · exact ⟨k0, k1, k2, k3, k4⟩
          all_goals (exfalso; omega)
    by_cases h2 : op = 2
    · subst h2
      have eb : ∀ c : Og.Oper, wA.obody 2 ⟨Cm.one 2, false⟩ c = _ := fun c => by unfold Alg.obody; rw [if_neg (by omega), if_pos rfl]
      rw [eb]; simp only [wtk_eq]
      by_cases hr : slot ≤ 3 ∧ 1 ≤ role ∧ role ≤ 3
      · obtain ⟨r0, r1⟩ := hr
        right
        rw [wO_in _ ⟨Nat.zero_le _, r0⟩]; simp only
        rw [wO_in _ r1]; simp only
        refine ⟨trivial, by simp [Og.enc], ?_⟩
        simp only [Og.Oper.mk.injEq, Og.may, Og.none4, r0, r1, true_and, and_true]
        constructor
        · rintro ⟨e1, e2, e3, e4, e5⟩; right; left; exact ⟨⟨e1.symm, e2.symm, e3.symm, e4.symm⟩, e5.symm⟩
        · rintro (⟨e, _⟩ | ⟨⟨e1, e2, e3, e4⟩, e5⟩ | ⟨e, _⟩ | ⟨e, _⟩ | ⟨e, _⟩)
          rotate_left
          · exact ⟨e1.symm, e2.symm, e3.symm, e4.symm, e5.symm⟩
          all_goals (exfalso; omega)
      · left
        refine ⟨?_, fun hm => hr ?_⟩
        · rw [← Bool.not_eq_false]
          intro hb
          obtain ⟨hb, k1, k2⟩ := wO_of hb
          obtain ⟨hb, _, k0⟩ := wO_of (s := ⟨Cm.one 2, false⟩) (n := slot) (a := 0) (b := 3) hb
          exact hr ⟨k0, k1, k2⟩
        · simp only [Og.may] at hm
          rcases hm with ⟨e, _⟩ | ⟨_, k0, k1, _⟩ | ⟨e, _⟩ | ⟨e, _⟩ | ⟨e, _⟩
          rotate_left
          · exact ⟨k0, k1⟩
          all_goals (exfalso; omega)
    by_cases h3 : op = 3
    · subst h3
      have eb : ∀ c : Og.Oper, wA.obody 3 ⟨Cm.one 3, false⟩ c = _ := fun c => by unfold Alg.obody; rw [if_neg (by omega), if_neg (by omega), if_pos rfl]
      rw [eb]; simp only [wtk_eq]
      right
      refine ⟨trivial, by simp [Og.enc], ?_⟩
      simp only [Og.Oper.mk.injEq, Og.may, Og.none4, true_and]
      constructor
      · rintro ⟨e0, e1, e2, e3, e4, e5, e6⟩; right; right; left; exact ⟨e0.symm, e1.symm, ⟨e2.symm, e3.symm, e4.symm, e5.symm⟩, e6.symm⟩
      · rintro (⟨e, _⟩ | ⟨e, _⟩ | ⟨e0, e1, ⟨e2, e3, e4, e5⟩, e6⟩ | ⟨e, _⟩ | ⟨e, _⟩)
        rotate_left 2
        · exact ⟨e0.symm, e1.symm, e2.symm, e3.symm, e4.symm, e5.symm, e6.symm⟩
        all_goals (exfalso; omega)
    by_cases h4 : op = 4
    · subst h4
      have eb : ∀ c : Og.Oper, wA.obody 4 ⟨Cm.one 4, false⟩ c = _ := fun c => by unfold Alg.obody; rw [if_neg (by omega), if_neg (by omega), if_neg (by omega), if_pos rfl]
      rw [eb]; simp only
      by_cases hr : slot ≤ 3
      · right
        rw [wO_in _ ⟨Nat.zero_le _, hr⟩]; simp only
        refine ⟨trivial, by simp [Og.enc], ?_⟩
        simp only [Og.Oper.mk.injEq, Og.may, Og.none4, hr, true_and]
        constructor
        · rintro ⟨e0, e1, e2, e3, e4, e5, e6⟩; right; right; right; left; exact ⟨e0.symm, e1.symm, ⟨e2.symm, e3.symm, e4.symm, e5.symm⟩, e6.symm⟩
        · rintro (⟨e, _⟩ | ⟨e, _⟩ | ⟨e, _⟩ | ⟨e0, e1, ⟨e2, e3, e4, e5⟩, e6⟩ | ⟨e, _⟩)
          rotate_left 3
          · exact ⟨e0.symm, e1.symm, e2.symm, e3.symm, e4.symm, e5.symm, e6.symm⟩
          all_goals (exfalso; omega)
      · left
        refine ⟨?_, fun hm => hr ?_⟩
        · rw [← Bool.not_eq_false]
          intro hb
          exact hr (wO_of hb).2.2
        · simp only [Og.may] at hm
          rcases hm with ⟨e, _⟩ | ⟨e, _⟩ | ⟨e, _⟩ | ⟨_, k0, _⟩ | ⟨e, _⟩
          rotate_left 3
          · exact k0
          all_goals (exfalso; omega)
    have h5 : op = 5 ∨ op = 6 ∨ op = 7 := by omega
    have eb : ∀ c : Og.Oper, wA.obody op ⟨Cm.one op, false⟩ c = _ := fun c => by unfold Alg.obody; rw [if_neg h1, if_neg h2, if_neg h3, if_neg h4, if_pos h5]
    rw [eb]; simp only
    by_cases hr : 1 ≤ node ∧ node ≤ 5
    · right
      rw [wO_in _ hr]; simp only
      refine ⟨trivial, by simp [Og.enc, h1, h2, h3, h4], ?_⟩
      simp only [Og.Oper.mk.injEq, Og.may, Og.none4, hr, h1, h2, h3, h4, h5, true_and, and_true, false_and, false_or]
      constructor
      · rintro ⟨e0, e1, e2, e3, e4, e5, e6⟩; exact ⟨e0.symm, e1.symm, e2.symm, e3.symm, e4.symm, e5.symm, e6.symm⟩
      · rintro ⟨e0, e1, e2, e3, e4, e5, e6⟩; exact ⟨e0.symm, e1.symm, e2.symm, e3.symm, e4.symm, e5.symm, e6.symm⟩
    · left
      refine ⟨?_, fun hm => hr ?_⟩
      · rw [← Bool.not_eq_false]
        intro hb
        exact hr (wO_of hb).2
      · simp only [Og.may, h1, h2, h3, h4, false_and, false_or] at hm
        exact hm.2.2.2.2.2
  · left
    have h' : op < 1 ∨ 7 < op := by omega
    unfold Alg.oper
    simp only
    rw [wO_out _ h']
    refine ⟨by simp [Alg.obody], ?_⟩
    intro hm
    simp only [Og.may] at hm
    omega
/-- An operator's command's bytes. -/
theorem oout_eq (c : Og.Oper) (hf : Og.Fits c) : oout c = if Og.may c then Og.enc c else [] := by
  unfold oout
  rcases oper_w c hf with ⟨hb, hm⟩ | ⟨hb, hl, hi⟩
  · rw [hb, if_neg hm]; simp
  · rw [hb, hl]
    by_cases hm : Og.may c
    · rw [if_pos hm, if_pos (by simpa using hi.2 hm)]; rfl
    · rw [if_neg hm, if_neg (by simpa using fun e => hm (hi.1 e))]
theorem oper_ne (c : Og.Oper) (hf : Og.Fits c) : (wA.oper ⟨[], false⟩ c).2.bad = false → (wA.oper ⟨[], false⟩ c).2.l ≠ [] := by
  intro h
  rcases oper_w c hf with ⟨hb, _⟩ | ⟨_, hl, _⟩
  · rw [h] at hb; cases hb
  · rw [hl]; unfold Og.enc Cm.one; simp
end Wk
end Go.Proofs.Ytkghldobefgjeaa
