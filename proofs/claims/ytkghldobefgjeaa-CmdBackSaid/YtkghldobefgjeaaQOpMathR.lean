/-
  What the reader's walk comes to, of operator's commands. No program is walked here.
-/
import Derived.Test.YtkghldobefgjeaaQOpMath
set_option linter.unusedSimpArgs false
set_option linter.unusedVariables false
namespace Go.Proofs.Ytkghldobefgjeaa
namespace Wk
theorem rO_in0 (b : Bool) {n m lo hi : Nat} (hn : n < 256) (h : lo ≤ n ∧ n ≤ hi) : rA.oct ⟨Cm.one n, b⟩ m lo hi = (n, ⟨[], b⟩) := by
  have := rO_in [] b (m := m) hn h
  rwa [List.append_nil] at this
theorem rG_in0 (b : Bool) {n m k : Nat} (hn : n < Nm.top) (h : n ≤ k) : rA.grp ⟨Nm.grp n, b⟩ m k = (n, ⟨[], b⟩) := by
  have := rG_in2 [] b (m := m) hn h
  rwa [List.append_nil] at this
theorem rtk_in0 (b : Bool) (x t : Og.Tk) : rA.tk ⟨x.l, b⟩ t = (x, ⟨[], b⟩) := rfl
theorem rG_le {s s' : St} {n m x : Nat} (h : rA.grp s n m = (x, s')) : x ≤ m := by
  have := rA.leG s n m
  rw [h] at this; exact this
theorem amt_nat {n : Nat} (h : n ≤ 2147483647) : Og.amt (n : Int) := by unfold Og.amt; omega
theorem oper_inr (c : Og.Oper) (hm : Og.may c) (r : List UInt8) : rA.oper ⟨Og.enc c ++ r, false⟩ Og.Oper.zero = (c, ⟨r, false⟩) := by
  obtain ⟨op, slot, tok, role, keys, bytes, rate, burst, node⟩ := c
  have ho : 1 ≤ op ∧ op ≤ 7 := by simp only [Og.may] at hm; omega
  unfold Alg.oper Og.enc
  dsimp only
  rw [List.append_assoc, rO_in _ _ (by omega) ho]
  dsimp only
  simp only [Og.may, Og.none4] at hm
  rcases hm with ⟨rfl, k0, rfl, rfl, k1, k2, k3, k4, rfl⟩ | ⟨rfl, k0, k1, ⟨rfl, rfl, rfl, rfl⟩, rfl⟩ | ⟨rfl, rfl, rfl, ⟨rfl, rfl, rfl, rfl⟩, rfl⟩ | ⟨rfl, k0, rfl, rfl, ⟨rfl, rfl, rfl, rfl⟩, rfl⟩ | ⟨h5, rfl, rfl, rfl, ⟨rfl, rfl, rfl, rfl⟩, k1⟩
  · have a1 := Og.un_amt k1; have a2 := Og.un_amt k2; have a3 := Og.un_amt k3; have a4 := Og.un_amt k4
    have eb : ∀ (s : St) (c : Og.Oper), rA.obody 1 s c = _ := fun s c => by unfold Alg.obody; rw [if_pos rfl]
    rw [eb, if_pos rfl]
    simp only [List.append_assoc]
    rw [rO_in _ _ (by omega) ⟨Nat.zero_le _, k0⟩]; simp only
    rw [rG_in2 _ _ (by unfold Nm.top; omega) a1.2.1]; simp only
    rw [rG_in2 _ _ (by unfold Nm.top; omega) a2.2.1]; simp only
    rw [rG_in2 _ _ (by unfold Nm.top; omega) a3.2.1]; simp only
    rw [rG_in2 _ _ (by unfold Nm.top; omega) a4.2.1]; simp only
    rw [a1.2.2, a2.2.2, a3.2.2, a4.2.2]
  · have eb : ∀ (s : St) (c : Og.Oper), rA.obody 2 s c = _ := fun s c => by unfold Alg.obody; rw [if_neg (by omega), if_pos rfl]
    rw [eb, if_neg (by omega), if_pos rfl]
    simp only [List.append_assoc]
    rw [rO_in _ _ (by omega) ⟨Nat.zero_le _, k0⟩]; simp only
    rw [rtk_in]; simp only
    rw [rO_in _ _ (by omega) k1]
  · have eb : ∀ (s : St) (c : Og.Oper), rA.obody 3 s c = _ := fun s c => by unfold Alg.obody; rw [if_neg (by omega), if_neg (by omega), if_pos rfl]
    rw [eb, if_neg (by omega), if_neg (by omega), if_pos rfl]
    rw [rtk_in]
  · have eb : ∀ (s : St) (c : Og.Oper), rA.obody 4 s c = _ := fun s c => by unfold Alg.obody; rw [if_neg (by omega), if_neg (by omega), if_neg (by omega), if_pos rfl]
    rw [eb, if_neg (by omega), if_neg (by omega), if_neg (by omega), if_pos rfl]
    rw [rO_in _ _ (by omega) ⟨Nat.zero_le _, k0⟩]
  · have h1 : op ≠ 1 := by omega
    have h2 : op ≠ 2 := by omega
    have h3 : op ≠ 3 := by omega
    have h4 : op ≠ 4 := by omega
    have eb : ∀ (s : St) (c : Og.Oper), rA.obody op s c = _ := fun s c => by unfold Alg.obody; rw [if_neg h1, if_neg h2, if_neg h3, if_neg h4, if_pos h5]
    rw [eb, if_neg h1, if_neg h2, if_neg h3, if_neg h4]
    rw [rO_in _ _ (by omega) k1]
theorem oper_in (c : Og.Oper) (hm : Og.may c) : rA.oper ⟨Og.enc c, false⟩ Og.Oper.zero = (c, ⟨[], false⟩) := by
  have := oper_inr c hm []
  rwa [List.append_nil] at this
theorem oper_r (l : List UInt8) (hb : (rA.oper ⟨l, false⟩ Og.Oper.zero).2.bad = false) (he : (rA.oper ⟨l, false⟩ Og.Oper.zero).2.l = []) : Og.may (rA.oper ⟨l, false⟩ Og.Oper.zero).1 ∧ Og.enc (rA.oper ⟨l, false⟩ Og.Oper.zero).1 = l := by
  rcases e0 : rA.oct ⟨l, false⟩ Og.Oper.zero.op 1 7 with ⟨op, s1⟩
  have ed : rA.oper ⟨l, false⟩ Og.Oper.zero = rA.obody op s1 Og.Oper.zero := by unfold Alg.oper; rw [e0]
  rw [ed] at hb he ⊢
  clear ed
  by_cases h1 : op = 1
  · subst h1
    have eb : ∀ (s : St) (c : Og.Oper), rA.obody 1 s c = _ := fun s c => by unfold Alg.obody; rw [if_pos rfl]
    rw [eb] at hb he ⊢
    rcases e1 : rA.oct s1 Og.Oper.zero.slot 0 3 with ⟨x0, s2⟩
    rw [e1] at hb he; simp only at hb he ⊢
    rcases e2 : rA.grp s2 (Og.un Og.Oper.zero.keys) 2147483647 with ⟨x1, s3⟩
    rw [e2] at hb he; simp only at hb he ⊢
    rcases e3 : rA.grp s3 (Og.un Og.Oper.zero.bytes) 2147483647 with ⟨x2, s4⟩
    rw [e3] at hb he; simp only at hb he ⊢
    rcases e4 : rA.grp s4 (Og.un Og.Oper.zero.rate) 2147483647 with ⟨x3, s5⟩
    rw [e4] at hb he; simp only at hb he ⊢
    rcases e5 : rA.grp s5 (Og.un Og.Oper.zero.burst) 2147483647 with ⟨x4, s6⟩
    rw [e5] at hb he; simp only at hb he ⊢
    obtain ⟨hb, _, q5⟩ := rG_of e5 hb
    obtain ⟨hb, _, q4⟩ := rG_of e4 hb
    obtain ⟨hb, _, q3⟩ := rG_of e3 hb
    obtain ⟨hb, _, q2⟩ := rG_of e2 hb
    obtain ⟨hb, _, _, k0, q1⟩ := rO_of e1 hb
    obtain ⟨hb, _, _, _, q0⟩ := rO_of e0 hb
    refine ⟨.inl ⟨rfl, k0, rfl, rfl, amt_nat (rG_le e2), amt_nat (rG_le e3), amt_nat (rG_le e4), amt_nat (rG_le e5), rfl⟩, ?_⟩
    simp only at q0
    rw [q0, q1, q2, q3, q4, q5, he]
    simp [Og.enc]
  by_cases h2 : op = 2
  · subst h2
    have eb : ∀ (s : St) (c : Og.Oper), rA.obody 2 s c = _ := fun s c => by unfold Alg.obody; rw [if_neg (by omega), if_pos rfl]
    rw [eb] at hb he ⊢
    rcases e1 : rA.oct s1 Og.Oper.zero.slot 0 3 with ⟨x0, s2⟩
    rw [e1] at hb he; simp only at hb he ⊢
    rcases e2 : rA.tk s2 Og.Oper.zero.tok with ⟨x1, s3⟩
    rw [e2] at hb he; simp only at hb he ⊢
    rcases e3 : rA.oct s3 Og.Oper.zero.role 1 3 with ⟨x2, s4⟩
    rw [e3] at hb he; simp only at hb he ⊢
    obtain ⟨hb, _, k1, k2, q3⟩ := rO_of e3 hb
    obtain ⟨hb, q2⟩ := rtk_of e2 hb
    obtain ⟨hb, _, _, k0, q1⟩ := rO_of e1 hb
    obtain ⟨hb, _, _, _, q0⟩ := rO_of e0 hb
    refine ⟨.inr (.inl ⟨rfl, k0, ⟨k1, k2⟩, ⟨rfl, rfl, rfl, rfl⟩, rfl⟩), ?_⟩
    simp only at q0
    rw [q0, q1, q2, q3, he]
    simp [Og.enc]
  by_cases h3 : op = 3
  · subst h3
    have eb : ∀ (s : St) (c : Og.Oper), rA.obody 3 s c = _ := fun s c => by unfold Alg.obody; rw [if_neg (by omega), if_neg (by omega), if_pos rfl]
    rw [eb] at hb he ⊢
    rcases e2 : rA.tk s1 Og.Oper.zero.tok with ⟨x1, s3⟩
    rw [e2] at hb he; simp only at hb he ⊢
    obtain ⟨hb, q2⟩ := rtk_of e2 hb
    obtain ⟨hb, _, _, _, q0⟩ := rO_of e0 hb
    refine ⟨.inr (.inr (.inl ⟨rfl, rfl, rfl, ⟨rfl, rfl, rfl, rfl⟩, rfl⟩)), ?_⟩
    simp only at q0
    rw [q0, q2, he]
    simp [Og.enc]
  by_cases h4 : op = 4
  · subst h4
    have eb : ∀ (s : St) (c : Og.Oper), rA.obody 4 s c = _ := fun s c => by unfold Alg.obody; rw [if_neg (by omega), if_neg (by omega), if_neg (by omega), if_pos rfl]
    rw [eb] at hb he ⊢
    rcases e1 : rA.oct s1 Og.Oper.zero.slot 0 3 with ⟨x0, s2⟩
    rw [e1] at hb he; simp only at hb he ⊢
    obtain ⟨hb, _, _, k0, q1⟩ := rO_of e1 hb
    obtain ⟨hb, _, _, _, q0⟩ := rO_of e0 hb
    refine ⟨.inr (.inr (.inr (.inl ⟨rfl, k0, rfl, rfl, ⟨rfl, rfl, rfl, rfl⟩, rfl⟩))), ?_⟩
    simp only at q0
    rw [q0, q1, he]
    simp [Og.enc]
  by_cases h5 : op = 5 ∨ op = 6 ∨ op = 7
  · have eb : ∀ (s : St) (c : Og.Oper), rA.obody op s c = _ := fun s c => by unfold Alg.obody; rw [if_neg h1, if_neg h2, if_neg h3, if_neg h4, if_pos h5]
    rw [eb] at hb he ⊢
    rcases e1 : rA.oct s1 Og.Oper.zero.node 1 5 with ⟨x0, s2⟩
    rw [e1] at hb he; simp only at hb he ⊢
    obtain ⟨hb, _, k0, k1, q1⟩ := rO_of e1 hb
    obtain ⟨hb, _, _, _, q0⟩ := rO_of e0 hb
    refine ⟨.inr (.inr (.inr (.inr ⟨h5, rfl, rfl, rfl, ⟨rfl, rfl, rfl, rfl⟩, ⟨k0, k1⟩⟩))), ?_⟩
    simp only at q0
    rw [q0, q1, he]
    simp [Og.enc, h1, h2, h3, h4]
  · exfalso
    have eb : ∀ (s : St) (c : Og.Oper), rA.obody op s c = _ := fun s c => by unfold Alg.obody; rw [if_neg h1, if_neg h2, if_neg h3, if_neg h4, if_neg h5]
    rw [eb] at hb
    obtain ⟨_, _, k0, k1, _⟩ := rO_of e0 hb
    omega
theorem oin_iff (l : List UInt8) (c : Og.Oper) : oin l = some c ↔ Og.may c ∧ Og.enc c = l := by
  unfold oin
  constructor
  · intro h
    split at h
    · rename_i hc
      injection h with h
      have := oper_r l hc.1 hc.2
      rw [h] at this; exact this
    · cases h
  · rintro ⟨hm, rfl⟩
    rw [oper_in c hm]
    simp
/-- Whatever stands behind an operator's command's bytes: with them it is none's. -/
theorem oin_more {c : Og.Oper} (hm : Og.may c) {r : List UInt8} (hr : r ≠ []) : oin (Og.enc c ++ r) = none := by
  unfold oin
  rw [oper_inr c hm r, if_neg]
  rintro ⟨_, h⟩; exact hr h
/-- Cut anywhere, an operator's command's bytes are none's. -/
theorem oin_less {c : Og.Oper} (hm : Og.may c) {l r : List UInt8} (h : l ++ r = Og.enc c) (hr : r ≠ []) : oin l = none := by
  rcases hd : oin l with _ | d
  · rfl
  · exfalso
    obtain ⟨hd1, rfl⟩ := (oin_iff _ _).1 hd
    have h1 := oper_inr d hd1 r
    have h2 := oper_in c hm
    rw [h, h2] at h1
    injection h1 with _ h1
    injection h1 with h1 _
    exact hr h1.symm
theorem enc_inj {c d : Og.Oper} (hc : Og.may c) (hd : Og.may d) (h : Og.enc c = Og.enc d) : c = d := by
  have h1 := (oin_iff _ c).2 ⟨hc, rfl⟩
  have h2 := (oin_iff _ d).2 ⟨hd, rfl⟩
  rw [h] at h1
  rw [h1] at h2
  injection h2
theorem may_fits {c : Og.Oper} (h : Og.may c) : Og.Fits c := by
  obtain ⟨op, slot, tok, role, keys, bytes, rate, burst, node⟩ := c
  simp only [Og.may, Og.none4, Og.amt] at h
  constructor <;> simp only <;> omega
end Wk
end Go.Proofs.Ytkghldobefgjeaa
