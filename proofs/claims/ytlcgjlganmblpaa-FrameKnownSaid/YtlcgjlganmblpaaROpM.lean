/-
  Operator's commands: which may be, their bytes; what the writer's and the reader's walk come to. No program is walked here. WRITTEN BY wip/tools/gen_opmath.py.
  What the reader's walk comes to, of operator's commands. No program is walked here.
-/
import Derived.Test.YtlcgjlganmblpaaROWr
import Derived.Test.YtlcgjlganmblpaaRMath
set_option linter.unusedSimpArgs false
set_option linter.unusedVariables false
namespace Go.Proofs.Ytlcgjlganmblpaa
namespace Og
def amt (n : Int) : Prop := 0 ≤ n ∧ n ≤ 2147483647
instance (n : Int) : Decidable (amt n) := by unfold amt; infer_instance
def none4 (c : Oper) : Prop := c.keys = 0 ∧ c.bytes = 0 ∧ c.rate = 0 ∧ c.burst = 0
instance (c : Oper) : Decidable (none4 c) := by unfold none4; infer_instance
def may (c : Oper) : Prop :=
  (c.op = 1 ∧ c.slot ≤ 3 ∧ c.tok = Tk.zero ∧ c.role = 0 ∧ amt c.keys ∧ amt c.bytes ∧ amt c.rate ∧ amt c.burst ∧ c.node = 0) ∨
  (c.op = 2 ∧ c.slot ≤ 3 ∧ (1 ≤ c.role ∧ c.role ≤ 3) ∧ none4 c ∧ c.node = 0) ∨
  (c.op = 3 ∧ c.slot = 0 ∧ c.role = 0 ∧ none4 c ∧ c.node = 0) ∨
  (c.op = 4 ∧ c.slot ≤ 3 ∧ c.tok = Tk.zero ∧ c.role = 0 ∧ none4 c ∧ c.node = 0) ∨
  ((c.op = 5 ∨ c.op = 6 ∨ c.op = 7) ∧ c.slot = 0 ∧ c.tok = Tk.zero ∧ c.role = 0 ∧ none4 c ∧ (1 ≤ c.node ∧ c.node ≤ 5))
instance (c : Oper) : Decidable (may c) := by unfold may; infer_instance
def enc (c : Oper) : List UInt8 :=
  Cm.one c.op ++ (if c.op = 1 then Cm.one c.slot ++ (Nm.grp c.keys.toNat ++ (Nm.grp c.bytes.toNat ++ (Nm.grp c.rate.toNat ++ Nm.grp c.burst.toNat)))
    else if c.op = 2 then Cm.one c.slot ++ (c.tok.l ++ Cm.one c.role)
    else if c.op = 3 then c.tok.l
    else if c.op = 4 then Cm.one c.slot
    else Cm.one c.node)
theorem un_amt {n : Int} (h : amt n) : un n = n.toNat ∧ n.toNat ≤ 2147483647 ∧ ((n.toNat : Nat) : Int) = n := by unfold amt at h; unfold un; omega
theorem amt_un {n : Int} (h : -9223372036854775808 ≤ n ∧ n < 9223372036854775808) (hu : un n ≤ 2147483647) : amt n := by unfold un at hu; unfold amt; omega
end Og
namespace Wk
theorem wG_in2 (s : St) {n m : Nat} (h : n ≤ m) : wA.grp s n m = (n, ⟨s.l ++ Nm.grp n, s.bad⟩) := by
  show wG s n m = _
  unfold wG; rw [if_neg (by omega)]
theorem wO_of {s : St} {n a b : Nat} (h : (wA.oct s n a b).2.bad = false) : s.bad = false ∧ a ≤ n ∧ n ≤ b := by
  by_cases hc : n < a ∨ b < n
  · rw [wO_out s hc] at h; cases h
  · rw [wO_in s (by omega)] at h; exact ⟨h, by omega, by omega⟩
theorem wG_of {s : St} {n m : Nat} (h : (wA.grp s n m).2.bad = false) : s.bad = false ∧ n ≤ m := by
  by_cases hc : m < n
  · have : wA.grp s n m = (0, ⟨s.l, true⟩) := by
      show wG s n m = _
      unfold wG; rw [if_pos hc]
    rw [this] at h; cases h
  · rw [wG_in2 s (by omega)] at h; exact ⟨h, by omega⟩
theorem wtk_eq (s : St) (t : Og.Tk) : wA.tk s t = (t, ⟨s.l ++ t.l, s.bad⟩) := rfl
theorem rG_in2 (r : List UInt8) (b : Bool) {n m k : Nat} (hn : n < Nm.top) (h : n ≤ k) : rA.grp ⟨Nm.grp n ++ r, b⟩ m k = (n, ⟨r, b⟩) := by
  show rG ⟨Nm.grp n ++ r, b⟩ m k = _
  unfold rG
  simp only [Nm.readV_grp n hn r, if_pos h, List.drop_left]
theorem rtk_in (r : List UInt8) (b : Bool) (x t : Og.Tk) : rA.tk ⟨x.l ++ r, b⟩ t = (x, ⟨r, b⟩) := rfl
theorem rtk_of {s s' : St} {t x : Og.Tk} (h : rA.tk s t = (x, s')) (hb : s'.bad = false) : s.bad = false ∧ s.l = x.l ++ s'.l := by
  unfold Alg.tk at h
  have e : rA.tok s t.l = rK s t.l := rfl
  rw [e] at h
  unfold rK at h
  by_cases h8 : 8 ≤ s.l.length
  · rw [if_pos h8] at h
    simp only [Prod.mk.injEq] at h
    obtain ⟨rfl, rfl⟩ := h
    refine ⟨hb, ?_⟩
    rw [Og.Tk.l_of (by rw [List.length_take]; omega), List.take_append_drop]
  · rw [if_neg h8] at h
    simp only [Prod.mk.injEq] at h
    obtain ⟨_, rfl⟩ := h
    cases hb
theorem oper_w (c : Og.Oper) (hf : Og.Fits c) : ((wA.oper ⟨[], false⟩ c).2.bad = true ∧ ¬ Og.may c) ∨ ((wA.oper ⟨[], false⟩ c).2.bad = false ∧ (wA.oper ⟨[], false⟩ c).2.l = Og.enc c ∧ ((wA.oper ⟨[], false⟩ c).1 = c ↔ Og.may c)) := by
  obtain ⟨op, slot, tok, role, keys, bytes, rate, burst, node⟩ := c
  obtain ⟨_, _, _, _, fk, fb, fr, fu⟩ := hf
  simp only at fk fb fr fu
  by_cases h : 1 ≤ op ∧ op ≤ 7
  · have e0 : wA.oct ⟨[], false⟩ op 1 7 = (op, ⟨Cm.one op, false⟩) := by rw [wO_in _ h]; rfl
    unfold Alg.oper
    simp only [e0]
    by_cases h1 : op = 1
    · subst h1
      have eb : ∀ c : Og.Oper, wA.obody 1 ⟨Cm.one 1, false⟩ c = _ := fun c => by unfold Alg.obody; rw [if_pos rfl]
      rw [eb]; simp only
      by_cases hr : slot ≤ 3 ∧ Og.amt keys ∧ Og.amt bytes ∧ Og.amt rate ∧ Og.amt burst
      · obtain ⟨r0, r1, r2, r3, r4⟩ := hr
        have a1 := Og.un_amt r1; have a2 := Og.un_amt r2; have a3 := Og.un_amt r3; have a4 := Og.un_amt r4
        right
        rw [wO_in _ ⟨Nat.zero_le _, r0⟩]; simp only
        rw [a1.1, a2.1, a3.1, a4.1, wG_in2 _ a1.2.1]; simp only
        rw [wG_in2 _ a2.2.1]; simp only
        rw [wG_in2 _ a3.2.1]; simp only
        rw [wG_in2 _ a4.2.1]; simp only
        refine ⟨trivial, by simp [Og.enc], ?_⟩
        rw [a1.2.2, a2.2.2, a3.2.2, a4.2.2]
        simp only [Og.Oper.mk.injEq, Og.may, Og.none4, r0, r1, r2, r3, r4, true_and, and_true]
        constructor
        · rintro ⟨e1, e2, e3⟩; left; exact ⟨e1.symm, e2.symm, e3.symm⟩
        · rintro (⟨e1, e2, e3⟩ | ⟨e, _⟩ | ⟨e, _⟩ | ⟨e, _⟩ | ⟨e, _⟩)
          · exact ⟨e1.symm, e2.symm, e3.symm⟩
          all_goals (exfalso; omega)
      · left
        refine ⟨?_, fun hm => hr ?_⟩
        · rw [← Bool.not_eq_false]
          intro hb
          obtain ⟨hb, k4⟩ := wG_of hb
          obtain ⟨hb, k3⟩ := wG_of hb
          obtain ⟨hb, k2⟩ := wG_of hb
          obtain ⟨hb, k1⟩ := wG_of hb
          obtain ⟨hb, _, k0⟩ := wO_of hb
          exact hr ⟨k0, Og.amt_un fk k1, Og.amt_un fb k2, Og.amt_un fr k3, Og.amt_un fu k4⟩
        · simp only [Og.may] at hm
          rcases hm with ⟨_, k0, _, _, k1, k2, k3, k4, _⟩ | ⟨e, _⟩ | ⟨e, _⟩ | ⟨e, _⟩ | ⟨e, _⟩
          · exact ⟨k0, k1, k2, k3, k4⟩
          all_goals (exfalso; omega)
    by_cases h2 : op = 2
    · subst h2
      have eb : ∀ c : Og.Oper, wA.obody 2 ⟨Cm.one 2, false⟩ c = _ := fun c => by unfold Alg.obody; rw [if_neg (by omega), if_pos rfl]
      rw [eb]; simp only [wtk_eq]
      by_cases hr : slot ≤ 3 ∧ 1 ≤ role ∧ role ≤ 3
      · obtain ⟨r0, r1⟩ := hr
        right
        rw [wO_in _ ⟨Nat.zero_le _, r0⟩]; simp only
        rw [wO_in _ r1]; simp only
        refine ⟨trivial, by simp [Og.enc], ?_⟩
        simp only [Og.Oper.mk.injEq, Og.may, Og.none4, r0, r1, true_and, and_true]
        constructor
        · rintro ⟨e1, e2, e3, e4, e5⟩; right; left; exact ⟨⟨e1.symm, e2.symm, e3.symm, e4.symm⟩, e5.symm⟩
        · rintro (⟨e, _⟩ | ⟨⟨e1, e2, e3, e4⟩, e5⟩ | ⟨e, _⟩ | ⟨e, _⟩ | ⟨e, _⟩)
          rotate_left
          · exact ⟨e1.symm, e2.symm, e3.symm, e4.symm, e5.symm⟩
          all_goals (exfalso; omega)
      · left
        refine ⟨?_, fun hm => hr ?_⟩
        · rw [← Bool.not_eq_false]
          intro hb
          obtain ⟨hb, k1, k2⟩ := wO_of hb
          obtain ⟨hb, _, k0⟩ := wO_of (s := ⟨Cm.one 2, false⟩) (n := slot) (a := 0) (b := 3) hb
          exact hr ⟨k0, k1, k2⟩
        · simp only [Og.may] at hm
          rcases hm with ⟨e, _⟩ | ⟨_, k0, k1, _⟩ | ⟨e, _⟩ | ⟨e, _⟩ | ⟨e, _⟩
          rotate_left
          · exact ⟨k0, k1⟩
          all_goals (exfalso; omega)
    by_cases h3 : op = 3
    · subst h3
      have eb : ∀ c : Og.Oper, wA.obody 3 ⟨Cm.one 3, false⟩ c = _ := fun c => by unfold Alg.obody; rw [if_neg (by omega), if_neg (by omega), if_pos rfl]
      rw [eb]; simp only [wtk_eq]
      right
      refine ⟨trivial, by simp [Og.enc], ?_⟩
      simp only [Og.Oper.mk.injEq, Og.may, Og.none4, true_and]
      constructor
      · rintro ⟨e0, e1, e2, e3, e4, e5, e6⟩; right; right; left; exact ⟨e0.symm, e1.symm, ⟨e2.symm, e3.symm, e4.symm, e5.symm⟩, e6.symm⟩
      · rintro (⟨e, _⟩ | ⟨e, _⟩ | ⟨e0, e1, ⟨e2, e3, e4, e5⟩, e6⟩ | ⟨e, _⟩ | ⟨e, _⟩)
        rotate_left 2
        · exact ⟨e0.symm, e1.symm, e2.symm, e3.symm, e4.symm, e5.symm, e6.symm⟩
        all_goals (exfalso; omega)
    by_cases h4 : op = 4
    · subst h4
      have eb : ∀ c : Og.Oper, wA.obody 4 ⟨Cm.one 4, false⟩ c = _ := fun c => by unfold Alg.obody; rw [if_neg (by omega), if_neg (by omega), if_neg (by omega), if_pos rfl]
      rw [eb]; simp only
      by_cases hr : slot ≤ 3
      · right
        rw [wO_in _ ⟨Nat.zero_le _, hr⟩]; simp only
        refine ⟨trivial, by simp [Og.enc], ?_⟩
        simp only [Og.Oper.mk.injEq, Og.may, Og.none4, hr, true_and]
        constructor
        · rintro ⟨e0, e1, e2, e3, e4, e5, e6⟩; right; right; right; left; exact ⟨e0.symm, e1.symm, ⟨e2.symm, e3.symm, e4.symm, e5.symm⟩, e6.symm⟩
        · rintro (⟨e, _⟩ | ⟨e, _⟩ | ⟨e, _⟩ | ⟨e0, e1, ⟨e2, e3, e4, e5⟩, e6⟩ | ⟨e, _⟩)
          rotate_left 3
          · exact ⟨e0.symm, e1.symm, e2.symm, e3.symm, e4.symm, e5.symm, e6.symm⟩
          all_goals (exfalso; omega)
      · left
        refine ⟨?_, fun hm => hr ?_⟩
        · rw [← Bool.not_eq_false]
          intro hb
          exact hr (wO_of hb).2.2
        · simp only [Og.may] at hm
          rcases hm with ⟨e, _⟩ | ⟨e, _⟩ | ⟨e, _⟩ | ⟨_, k0, _⟩ | ⟨e, _⟩
          rotate_left 3
          · exact k0
          all_goals (exfalso; omega)
    have h5 : op = 5 ∨ op = 6 ∨ op = 7 := by omega
    have eb : ∀ c : Og.Oper, wA.obody op ⟨Cm.one op, false⟩ c = _ := fun c => by unfold Alg.obody; rw [if_neg h1, if_neg h2, if_neg h3, if_neg h4, if_pos h5]
    rw [eb]; simp only
    by_cases hr : 1 ≤ node ∧ node ≤ 5
    · right
      rw [wO_in _ hr]; simp only
      refine ⟨trivial, by simp [Og.enc, h1, h2, h3, h4], ?_⟩
      simp only [Og.Oper.mk.injEq, Og.may, Og.none4, hr, h1, h2, h3, h4, h5, true_and, and_true, false_and, false_or]
      constructor
      · rintro ⟨e0, e1, e2, e3, e4, e5, e6⟩; exact ⟨e0.symm, e1.symm, e2.symm, e3.symm, e4.symm, e5.symm, e6.symm⟩
      · rintro ⟨e0, e1, e2, e3, e4, e5, e6⟩; exact ⟨e0.symm, e1.symm, e2.symm, e3.symm, e4.symm, e5.symm, e6.symm⟩
    · left
      refine ⟨?_, fun hm => hr ?_⟩
      · rw [← Bool.not_eq_false]
        intro hb
        exact hr (wO_of hb).2
      · simp only [Og.may, h1, h2, h3, h4, false_and, false_or] at hm
        exact hm.2.2.2.2.2
  · left
    have h' : op < 1 ∨ 7 < op := by omega
    unfold Alg.oper
    simp only
    rw [wO_out _ h']
    refine ⟨by simp [Alg.obody], ?_⟩
    intro hm
    simp only [Og.may] at hm
    omega
/-- An operator's command's bytes. -/
theorem oout_eq (c : Og.Oper) (hf : Og.Fits c) : oout c = if Og.may c then Og.enc c else [] := by
  unfold oout
  rcases oper_w c hf with ⟨hb, hm⟩ | ⟨hb, hl, hi⟩
  · rw [hb, if_neg hm]; simp
  · rw [hb, hl]
    by_cases hm : Og.may c
    · rw [if_pos hm, if_pos (by simpa using hi.2 hm)]; rfl
    · rw [if_neg hm, if_neg (by simpa using fun e => hm (hi.1 e))]
theorem oper_ne (c : Og.Oper) (hf : Og.Fits c) : (wA.oper ⟨[], false⟩ c).2.bad = false → (wA.oper ⟨[], false⟩ c).2.l ≠ [] := by
  intro h
  rcases oper_w c hf with ⟨hb, _⟩ | ⟨_, hl, _⟩
  · rw [h] at hb; cases hb
  · rw [hl]; unfold Og.enc Cm.one; simp
end Wk
end Go.Proofs.Ytlcgjlganmblpaa
namespace Go.Proofs.Ytlcgjlganmblpaa
namespace Wk
theorem rO_in0 (b : Bool) {n m lo hi : Nat} (hn : n < 256) (h : lo ≤ n ∧ n ≤ hi) : rA.oct ⟨Cm.one n, b⟩ m lo hi = (n, ⟨[], b⟩) := by
  have := rO_in [] b (m := m) hn h
  rwa [List.append_nil] at this
theorem rG_in0 (b : Bool) {n m k : Nat} (hn : n < Nm.top) (h : n ≤ k) : rA.grp ⟨Nm.grp n, b⟩ m k = (n, ⟨[], b⟩) := by
  have := rG_in2 [] b (m := m) hn h
  rwa [List.append_nil] at this
theorem rtk_in0 (b : Bool) (x t : Og.Tk) : rA.tk ⟨x.l, b⟩ t = (x, ⟨[], b⟩) := rfl
theorem rG_le {s s' : St} {n m x : Nat} (h : rA.grp s n m = (x, s')) : x ≤ m := by
  have := rA.leG s n m
  rw [h] at this; exact this
theorem amt_nat {n : Nat} (h : n ≤ 2147483647) : Og.amt (n : Int) := by unfold Og.amt; omega
theorem oper_inr (c : Og.Oper) (hm : Og.may c) (r : List UInt8) : rA.oper ⟨Og.enc c ++ r, false⟩ Og.Oper.zero = (c, ⟨r, false⟩) := by
  obtain ⟨op, slot, tok, role, keys, bytes, rate, burst, node⟩ := c
  have ho : 1 ≤ op ∧ op ≤ 7 := by simp only [Og.may] at hm; omega
  unfold Alg.oper Og.enc
  dsimp only
  rw [List.append_assoc, rO_in _ _ (by omega) ho]
  dsimp only
  simp only [Og.may, Og.none4] at hm
  rcases hm with ⟨rfl, k0, rfl, rfl, k1, k2, k3, k4, rfl⟩ | ⟨rfl, k0, k1, ⟨rfl, rfl, rfl, rfl⟩, rfl⟩ | ⟨rfl, rfl, rfl, ⟨rfl, rfl, rfl, rfl⟩, rfl⟩ | ⟨rfl, k0, rfl, rfl, ⟨rfl, rfl, rfl, rfl⟩, rfl⟩ | ⟨h5, rfl, rfl, rfl, ⟨rfl, rfl, rfl, rfl⟩, k1⟩
  · have a1 := Og.un_amt k1; have a2 := Og.un_amt k2; have a3 := Og.un_amt k3; have a4 := Og.un_amt k4
    have eb : ∀ (s : St) (c : Og.Oper), rA.obody 1 s c = _ := fun s c => by unfold Alg.obody; rw [if_pos rfl]
    rw [eb, if_pos rfl]
    simp only [List.append_assoc]
    rw [rO_in _ _ (by omega) ⟨Nat.zero_le _, k0⟩]; simp only
    rw [rG_in2 _ _ (by unfold Nm.top; omega) a1.2.1]; simp only
    rw [rG_in2 _ _ (by unfold Nm.top; omega) a2.2.1]; simp only
    rw [rG_in2 _ _ (by unfold Nm.top; omega) a3.2.1]; simp only
    rw [rG_in2 _ _ (by unfold Nm.top; omega) a4.2.1]; simp only
    rw [a1.2.2, a2.2.2, a3.2.2, a4.2.2]
  · have eb : ∀ (s : St) (c : Og.Oper), rA.obody 2 s c = _ := fun s c => by unfold Alg.obody; rw [if_neg (by omega), if_pos rfl]
    rw [eb, if_neg (by omega), if_pos rfl]
    simp only [List.append_assoc]
    rw [rO_in _ _ (by omega) ⟨Nat.zero_le _, k0⟩]; simp only
    rw [rtk_in]; simp only
    rw [rO_in _ _ (by omega) k1]
  · have eb : ∀ (s : St) (c : Og.Oper), rA.obody 3 s c = _ := fun s c => by unfold Alg.obody; rw [if_neg (by omega), if_neg (by omega), if_pos rfl]
    rw [eb, if_neg (by omega), if_neg (by omega), if_pos rfl]
    rw [rtk_in]
  · have eb : ∀ (s : St) (c : Og.Oper), rA.obody 4 s c = _ := fun s c => by unfold Alg.obody; rw [if_neg (by omega), if_neg (by omega), if_neg (by omega), if_pos rfl]
    rw [eb, if_neg (by omega), if_neg (by omega), if_neg (by omega), if_pos rfl]
    rw [rO_in _ _ (by omega) ⟨Nat.zero_le _, k0⟩]
  · have h1 : op ≠ 1 := by omega
    have h2 : op ≠ 2 := by omega
    have h3 : op ≠ 3 := by omega
    have h4 : op ≠ 4 := by omega
    have eb : ∀ (s : St) (c : Og.Oper), rA.obody op s c = _ := fun s c => by unfold Alg.obody; rw [if_neg h1, if_neg h2, if_neg h3, if_neg h4, if_pos h5]
    rw [eb, if_neg h1, if_neg h2, if_neg h3, if_neg h4]
    rw [rO_in _ _ (by omega) k1]
theorem oper_in (c : Og.Oper) (hm : Og.may c) : rA.oper ⟨Og.enc c, false⟩ Og.Oper.zero = (c, ⟨[], false⟩) := by
  have := oper_inr c hm []
  rwa [List.append_nil] at this
theorem oper_r (l : List UInt8) (hb : (rA.oper ⟨l, false⟩ Og.Oper.zero).2.bad = false) (he : (rA.oper ⟨l, false⟩ Og.Oper.zero).2.l = []) : Og.may (rA.oper ⟨l, false⟩ Og.Oper.zero).1 ∧ Og.enc (rA.oper ⟨l, false⟩ Og.Oper.zero).1 = l := by
  rcases e0 : rA.oct ⟨l, false⟩ Og.Oper.zero.op 1 7 with ⟨op, s1⟩
  have ed : rA.oper ⟨l, false⟩ Og.Oper.zero = rA.obody op s1 Og.Oper.zero := by unfold Alg.oper; rw [e0]
  rw [ed] at hb he ⊢
  clear ed
  by_cases h1 : op = 1
  · subst h1
    have eb : ∀ (s : St) (c : Og.Oper), rA.obody 1 s c = _ := fun s c => by unfold Alg.obody; rw [if_pos rfl]
    rw [eb] at hb he ⊢
    rcases e1 : rA.oct s1 Og.Oper.zero.slot 0 3 with ⟨x0, s2⟩
    rw [e1] at hb he; simp only at hb he ⊢
    rcases e2 : rA.grp s2 (Og.un Og.Oper.zero.keys) 2147483647 with ⟨x1, s3⟩
    rw [e2] at hb he; simp only at hb he ⊢
    rcases e3 : rA.grp s3 (Og.un Og.Oper.zero.bytes) 2147483647 with ⟨x2, s4⟩
    rw [e3] at hb he; simp only at hb he ⊢
    rcases e4 : rA.grp s4 (Og.un Og.Oper.zero.rate) 2147483647 with ⟨x3, s5⟩
    rw [e4] at hb he; simp only at hb he ⊢
    rcases e5 : rA.grp s5 (Og.un Og.Oper.zero.burst) 2147483647 with ⟨x4, s6⟩
    rw [e5] at hb he; simp only at hb he ⊢
    obtain ⟨hb, _, q5⟩ := rG_of e5 hb
    obtain ⟨hb, _, q4⟩ := rG_of e4 hb
    obtain ⟨hb, _, q3⟩ := rG_of e3 hb
    obtain ⟨hb, _, q2⟩ := rG_of e2 hb
    obtain ⟨hb, _, _, k0, q1⟩ := rO_of e1 hb
    obtain ⟨hb, _, _, _, q0⟩ := rO_of e0 hb
    refine ⟨.inl ⟨rfl, k0, rfl, rfl, amt_nat (rG_le e2), amt_nat (rG_le e3), amt_nat (rG_le e4), amt_nat (rG_le e5), rfl⟩, ?_⟩
    simp only at q0
    rw [q0, q1, q2, q3, q4, q5, he]
    simp [Og.enc]
  by_cases h2 : op = 2
  · subst h2
    have eb : ∀ (s : St) (c : Og.Oper), rA.obody 2 s c = _ := fun s c => by unfold Alg.obody; rw [if_neg (by omega), if_pos rfl]
    rw [eb] at hb he ⊢
    rcases e1 : rA.oct s1 Og.Oper.zero.slot 0 3 with ⟨x0, s2⟩
    rw [e1] at hb he; simp only at hb he ⊢
    rcases e2 : rA.tk s2 Og.Oper.zero.tok with ⟨x1, s3⟩
    rw [e2] at hb he; simp only at hb he ⊢
    rcases e3 : rA.oct s3 Og.Oper.zero.role 1 3 with ⟨x2, s4⟩
    rw [e3] at hb he; simp only at hb he ⊢
    obtain ⟨hb, _, k1, k2, q3⟩ := rO_of e3 hb
    obtain ⟨hb, q2⟩ := rtk_of e2 hb
    obtain ⟨hb, _, _, k0, q1⟩ := rO_of e1 hb
    obtain ⟨hb, _, _, _, q0⟩ := rO_of e0 hb
    refine ⟨.inr (.inl ⟨rfl, k0, ⟨k1, k2⟩, ⟨rfl, rfl, rfl, rfl⟩, rfl⟩), ?_⟩
    simp only at q0
    rw [q0, q1, q2, q3, he]
    simp [Og.enc]
  by_cases h3 : op = 3
  · subst h3
    have eb : ∀ (s : St) (c : Og.Oper), rA.obody 3 s c = _ := fun s c => by unfold Alg.obody; rw [if_neg (by omega), if_neg (by omega), if_pos rfl]
    rw [eb] at hb he ⊢
    rcases e2 : rA.tk s1 Og.Oper.zero.tok with ⟨x1, s3⟩
    rw [e2] at hb he; simp only at hb he ⊢
    obtain ⟨hb, q2⟩ := rtk_of e2 hb
    obtain ⟨hb, _, _, _, q0⟩ := rO_of e0 hb
    refine ⟨.inr (.inr (.inl ⟨rfl, rfl, rfl, ⟨rfl, rfl, rfl, rfl⟩, rfl⟩)), ?_⟩
    simp only at q0
    rw [q0, q2, he]
    simp [Og.enc]
  by_cases h4 : op = 4
  · subst h4
    have eb : ∀ (s : St) (c : Og.Oper), rA.obody 4 s c = _ := fun s c => by unfold Alg.obody; rw [if_neg (by omega), if_neg (by omega), if_neg (by omega), if_pos rfl]
    rw [eb] at hb he ⊢
    rcases e1 : rA.oct s1 Og.Oper.zero.slot 0 3 with ⟨x0, s2⟩
    rw [e1] at hb he; simp only at hb he ⊢
    obtain ⟨hb, _, _, k0, q1⟩ := rO_of e1 hb
    obtain ⟨hb, _, _, _, q0⟩ := rO_of e0 hb
    refine ⟨.inr (.inr (.inr (.inl ⟨rfl, k0, rfl, rfl, ⟨rfl, rfl, rfl, rfl⟩, rfl⟩))), ?_⟩
    simp only at q0
    rw [q0, q1, he]
    simp [Og.enc]
  by_cases h5 : op = 5 ∨ op = 6 ∨ op = 7
  · have eb : ∀ (s : St) (c : Og.Oper), rA.obody op s c = _ := fun s c => by unfold Alg.obody; rw [if_neg h1, if_neg h2, if_neg h3, if_neg h4, if_pos h5]
    rw [eb] at hb he ⊢
    rcases e1 : rA.oct s1 Og.Oper.zero.node 1 5 with ⟨x0, s2⟩
    rw [e1] at hb he; simp only at hb he ⊢
    obtain ⟨hb, _, k0, k1, q1⟩ := rO_of e1 hb
    obtain ⟨hb, _, _, _, q0⟩ := rO_of e0 hb
    refine ⟨.inr (.inr (.inr (.inr ⟨h5, rfl, rfl, rfl, ⟨rfl, rfl, rfl, rfl⟩, ⟨k0, k1⟩⟩))), ?_⟩
    simp only at q0
    rw [q0, q1, he]
    simp [Og.enc, h1, h2, h3, h4]
  · exfalso
    have eb : ∀ (s : St) (c : Og.Oper), rA.obody op s c = _ := fun s c => by unfold Alg.obody; rw [if_neg h1, if_neg h2, if_neg h3, if_neg h4, if_neg h5]
    rw [eb] at hb
    obtain ⟨_, _, k0, k1, _⟩ := rO_of e0 hb
    omega
theorem oin_iff (l : List UInt8) (c : Og.Oper) : oin l = some c ↔ Og.may c ∧ Og.enc c = l := by
  unfold oin
  constructor
  · intro h
    split at h
    · rename_i hc
      injection h with h
      have := oper_r l hc.1 hc.2
      rw [h] at this; exact this
    · cases h
  · rintro ⟨hm, rfl⟩
    rw [oper_in c hm]
    simp
/-- Whatever stands behind an operator's command's bytes: with them it is none's. -/
theorem oin_more {c : Og.Oper} (hm : Og.may c) {r : List UInt8} (hr : r ≠ []) : oin (Og.enc c ++ r) = none := by
  unfold oin
  rw [oper_inr c hm r, if_neg]
  rintro ⟨_, h⟩; exact hr h
/-- Cut anywhere, an operator's command's bytes are none's. -/
theorem oin_less {c : Og.Oper} (hm : Og.may c) {l r : List UInt8} (h : l ++ r = Og.enc c) (hr : r ≠ []) : oin l = none := by
  rcases hd : oin l with _ | d
  · rfl
  · exfalso
    obtain ⟨hd1, rfl⟩ := (oin_iff _ _).1 hd
    have h1 := oper_inr d hd1 r
    have h2 := oper_in c hm
    rw [h, h2] at h1
    injection h1 with _ h1
    injection h1 with h1 _
    exact hr h1.symm
theorem enc_inj {c d : Og.Oper} (hc : Og.may c) (hd : Og.may d) (h : Og.enc c = Og.enc d) : c = d := by
  have h1 := (oin_iff _ c).2 ⟨hc, rfl⟩
  have h2 := (oin_iff _ d).2 ⟨hd, rfl⟩
  rw [h] at h1
  rw [h1] at h2
  injection h2
theorem may_fits {c : Og.Oper} (h : Og.may c) : Og.Fits c := by
  obtain ⟨op, slot, tok, role, keys, bytes, rate, burst, node⟩ := c
  simp only [Og.may, Og.none4, Og.amt] at h
  constructor <;> simp only <;> omega
end Wk
end Go.Proofs.Ytlcgjlganmblpaa
