/-
  What the writer's walk comes to: a command's bytes just if it may be; a result's bytes. No program is walked here.
  What the reader's walk comes to: the command, or the result, whose bytes these are. No program is walked here.
-/
import Derived.Test.YtlcgjlganmblpaaRInst
import Derived.Test.YtlcgjlganmblpaaRRes
set_option linter.unusedSimpArgs false
set_option linter.unusedVariables false
namespace Go.Proofs.Ytlcgjlganmblpaa
namespace Wk
theorem body1 {A : Alg} {op ses seq : Nat} {s : St} {c : Cm.Cmd} (h : op = 1 ∨ op = 6) : A.body op ses seq s c = (⟨op, ses, seq, Cm.e0, Cm.e0, Cm.e0, Cm.e0, Cm.e0, 0, 0, (A.grp s c.ttl 18446744073709551615).1, []⟩, (A.grp s c.ttl 18446744073709551615).2) := by unfold Alg.body; rw [if_pos h]
theorem body2 {A : Alg} {op ses seq : Nat} {s : St} {c : Cm.Cmd} (h : op = 2) : A.body op ses seq s c = (⟨op, ses, seq, (A.txt s c.key).1, (A.txt (A.txt s c.key).2 c.val).1, Cm.e0, Cm.e0, Cm.e0, 0, (A.grp (A.txt (A.txt s c.key).2 c.val).2 c.lease 18446744073709551615).1, 0, []⟩, (A.grp (A.txt (A.txt s c.key).2 c.val).2 c.lease 18446744073709551615).2) := by unfold Alg.body; rw [if_neg (by omega), if_pos h]
theorem body3 {A : Alg} {op ses seq : Nat} {s : St} {c : Cm.Cmd} (h : op = 3 ∨ op = 8) : A.body op ses seq s c = (⟨op, ses, seq, (A.txt s c.key).1, Cm.e0, Cm.e0, Cm.e0, Cm.e0, 0, 0, 0, []⟩, (A.txt s c.key).2) := by unfold Alg.body; rw [if_neg (by omega), if_neg (by omega), if_pos h]
theorem body4 {A : Alg} {op ses seq : Nat} {s : St} {c : Cm.Cmd} (h : op = 4) : A.body op ses seq s c = (⟨op, ses, seq, (A.txt s c.key).1, (A.txt (A.txt (A.txt s c.key).2 c.exp).2 c.val).1, (A.txt (A.txt s c.key).2 c.exp).1, Cm.e0, Cm.e0, 0, 0, 0, []⟩, (A.txt (A.txt (A.txt s c.key).2 c.exp).2 c.val).2) := by unfold Alg.body; rw [if_neg (by omega), if_neg (by omega), if_neg (by omega), if_pos h]
theorem body5 {A : Alg} {op ses seq : Nat} {s : St} {c : Cm.Cmd} (h : op = 5) : A.body op ses seq s c = (⟨op, ses, seq, Cm.e0, Cm.e0, Cm.e0, Cm.e0, Cm.e0, 0, 0, 0, (A.batch s c.parts).1⟩, (A.batch s c.parts).2) := by unfold Alg.body; rw [if_neg (by omega), if_neg (by omega), if_neg (by omega), if_neg (by omega), if_pos h]
theorem body7 {A : Alg} {op ses seq : Nat} {s : St} {c : Cm.Cmd} (h : op = 7) : A.body op ses seq s c = (⟨op, ses, seq, Cm.e0, Cm.e0, Cm.e0, Cm.e0, Cm.e0, 0, (A.grp s c.lease 18446744073709551615).1, 0, []⟩, (A.grp s c.lease 18446744073709551615).2) := by unfold Alg.body; rw [if_neg (by omega), if_neg (by omega), if_neg (by omega), if_neg (by omega), if_neg (by omega), if_pos h]
theorem body9 {A : Alg} {op ses seq : Nat} {s : St} {c : Cm.Cmd} (h : op = 9) : A.body op ses seq s c = (⟨op, ses, seq, Cm.e0, Cm.e0, Cm.e0, (A.txt s c.frm).1, (A.txt (A.txt s c.frm).2 c.tto).1, (A.oct (A.txt (A.txt s c.frm).2 c.tto).2 c.lim 0 255).1, 0, 0, []⟩, (A.oct (A.txt (A.txt s c.frm).2 c.tto).2 c.lim 0 255).2) := by unfold Alg.body; rw [if_neg (by omega), if_neg (by omega), if_neg (by omega), if_neg (by omega), if_neg (by omega), if_neg (by omega), if_pos h]
theorem body0 {A : Alg} {op ses seq : Nat} {s : St} {c : Cm.Cmd} (h : op = 0 ∨ 9 < op) : A.body op ses seq s c = (⟨op, ses, seq, Cm.e0, Cm.e0, Cm.e0, Cm.e0, Cm.e0, 0, 0, 0, []⟩, s) := by unfold Alg.body; rw [if_neg (by omega), if_neg (by omega), if_neg (by omega), if_neg (by omega), if_neg (by omega), if_neg (by omega), if_neg (by omega)]

/-! The writer. -/
theorem wO_in (s : St) {n a b : Nat} (h : a ≤ n ∧ n ≤ b) : wA.oct s n a b = (n, ⟨s.l ++ Cm.one n, s.bad⟩) := by
  show wO s n a b = _
  unfold wO; rw [if_neg (by omega)]; rfl
theorem wO_out (s : St) {n a b : Nat} (h : n < a ∨ b < n) : wA.oct s n a b = (0, ⟨s.l, true⟩) := by
  show wO s n a b = _
  unfold wO; rw [if_pos h]
theorem wG_in (s : St) {n : Nat} (h : n < Nm.top) : wA.grp s n 18446744073709551615 = (n, ⟨s.l ++ Nm.grp n, s.bad⟩) := by
  show wG s n 18446744073709551615 = _
  unfold wG; rw [if_neg (by unfold Nm.top at h; omega)]
theorem wT_eq (s : St) (x : ByteArray) : wA.txt s x = (x, ⟨s.l ++ Cm.txt x, s.bad⟩) := rfl
/-- Once bad, always bad. -/
theorem wO_bad (s : St) (n a b : Nat) (h : s.bad = true) : (wA.oct s n a b).2.bad = true := by
  show (wO s n a b).2.bad = _
  unfold wO; split
  · rfl
  · exact h
theorem wG_bad (s : St) (n m : Nat) (h : s.bad = true) : (wA.grp s n m).2.bad = true := by
  show (wG s n m).2.bad = _
  unfold wG; split
  · rfl
  · exact h
theorem wT_bad (s : St) (x : ByteArray) (h : s.bad = true) : (wA.txt s x).2.bad = true := h
theorem wpart_bad (s : St) (p : Cm.Part) (h : s.bad = true) : (wA.part s p).2.bad = true := by
  unfold Alg.part; split
  · exact wT_bad _ _ (wT_bad _ _ (wO_bad _ _ _ _ h))
  · exact wT_bad _ _ (wO_bad _ _ _ _ h)
theorem wparts_bad : ∀ (n : Nat) (xs : List Cm.Part) (s : St), s.bad = true → (wA.parts n xs s).2.bad = true
  | 0, _, _, h => h
  | n + 1, xs, s, h => by unfold Alg.parts; rw [if_pos h]; exact h
theorem wbody_bad (op ses seq : Nat) (s : St) (c : Cm.Cmd) (h : s.bad = true) : (wA.body op ses seq s c).2.bad = true := by
  unfold Alg.body; repeat' split
  · exact wG_bad _ _ _ h
  · exact wG_bad _ _ _ (wT_bad _ _ (wT_bad _ _ h))
  · exact wT_bad _ _ h
  · exact wT_bad _ _ (wT_bad _ _ (wT_bad _ _ h))
  · exact wparts_bad _ _ _ (wO_bad _ _ _ _ h)
  · exact wG_bad _ _ _ h
  · exact wO_bad _ _ _ _ (wT_bad _ _ (wT_bad _ _ h))
  · exact h
/-- A part without a value that it may not have. -/
def strip (p : Cm.Part) : Cm.Part := if p.op = 2 then p else ⟨p.op, p.key, Cm.e0⟩
theorem wpart_ok (s : St) (p : Cm.Part) (h : p.op = 2 ∨ p.op = 3) : wA.part s p = (strip p, ⟨s.l ++ Cm.partB p, s.bad⟩) := by
  unfold Alg.part strip Cm.partB
  rw [wO_in s (by omega)]
  by_cases h2 : p.op = 2
  · simp only [wT_eq, if_pos h2, List.append_assoc]
  · simp only [wT_eq, if_neg h2, List.append_assoc, List.append_nil]
theorem wpart_no (s : St) (p : Cm.Part) (h : ¬ (p.op = 2 ∨ p.op = 3)) : (wA.part s p).2.bad = true := by
  unfold Alg.part
  rw [wO_out s (by omega)]
  rfl
theorem wparts_ok : ∀ (xs : List Cm.Part) (s : St), s.bad = false → (∀ p ∈ xs, p.op = 2 ∨ p.op = 3) → wA.parts xs.length xs s = (xs.map strip, ⟨s.l ++ Cm.partsB xs, s.bad⟩)
  | [], s, _, _ => by simp [Alg.parts, Cm.partsB]
  | p :: xs, s, hs, h => by
    unfold List.length Alg.parts
    rw [if_neg (by rw [hs]; simp)]
    simp only [List.headD_cons, List.tail_cons]
    rw [wpart_ok s p (h p (by simp))]
    simp only
    rw [wparts_ok xs ⟨s.l ++ Cm.partB p, s.bad⟩ hs (fun q hq => h q (by simp [hq]))]
    simp [Cm.partsB]
theorem wparts_no : ∀ (xs : List Cm.Part) (s : St), ¬ (∀ p ∈ xs, p.op = 2 ∨ p.op = 3) → (wA.parts xs.length xs s).2.bad = true
  | [], s, h => by exfalso; apply h; intro p hp; cases hp
  | p :: xs, s, h => by
    unfold List.length Alg.parts
    by_cases hs : s.bad = true
    · rw [if_pos hs]; exact hs
    rw [if_neg hs]
    simp only [List.headD_cons, List.tail_cons]
    by_cases hp : p.op = 2 ∨ p.op = 3
    · exact wparts_no xs _ (fun h2 => h (fun q hq => by
        rcases List.mem_cons.1 hq with e | e
        · rw [e]; exact hp
        · exact h2 q e))
    · exact wparts_bad _ _ _ (wpart_no s p hp)
theorem map_self : ∀ {xs : List Cm.Part}, xs.map strip = xs ↔ ∀ p ∈ xs, strip p = p
  | [] => by simp
  | p :: xs => by
    simp only [List.map_cons, List.cons.injEq, map_self (xs := xs), List.mem_cons, forall_eq_or_imp]
theorem strip_all {xs : List Cm.Part} (h : xs.map strip = xs) (ho : ∀ p ∈ xs, p.op = 2 ∨ p.op = 3) : xs.all Cm.okPart = true := by
  rw [List.all_eq_true]
  intro p hp
  have e : strip p = p := by
    exact map_self.1 h p hp
  unfold Cm.okPart
  rcases ho p hp with h2 | h3
  · simp [h2]
  · unfold strip at e
    rw [if_neg (by omega)] at e
    have hv : p.val = Cm.e0 := by rw [← e]
    simp [h3, hv, Cm.eqS]
theorem strip_of {xs : List Cm.Part} (h : xs.all Cm.okPart = true) : xs.map strip = xs ∧ ∀ p ∈ xs, p.op = 2 ∨ p.op = 3 := by
  rw [List.all_eq_true] at h
  refine ⟨?_, fun p hp => ?_⟩
  · rw [map_self]
    intro p hp
    have := h p hp
    simp only [Cm.okPart, Bool.or_eq_true, Bool.and_eq_true, beq_iff_eq, Cm.eqS_iff] at this
    unfold strip
    rcases this with h2 | ⟨h3, hv⟩
    · rw [if_pos h2]
    · rw [if_neg (by omega), ← hv]
  · have := h p hp
    simp only [Cm.okPart, Bool.or_eq_true, Bool.and_eq_true, beq_iff_eq] at this
    rcases this with h2 | ⟨h3, _⟩
    · exact .inl h2
    · exact .inr h3
theorem wbatch_ok (s : St) (xs : List Cm.Part) (hs : s.bad = false) (hl : 1 ≤ xs.length ∧ xs.length ≤ 4) (h : ∀ p ∈ xs, p.op = 2 ∨ p.op = 3) : wA.batch s xs = (xs.map strip, ⟨s.l ++ Cm.one xs.length ++ Cm.partsB xs, s.bad⟩) := by
  unfold Alg.batch
  rw [show min xs.length 255 = xs.length by omega, wO_in s hl]
  simp only
  exact wparts_ok xs ⟨s.l ++ Cm.one xs.length, s.bad⟩ hs h
theorem wbatch_no (s : St) (xs : List Cm.Part) (h : ¬ ((1 ≤ xs.length ∧ xs.length ≤ 4) ∧ ∀ p ∈ xs, p.op = 2 ∨ p.op = 3)) : (wA.batch s xs).2.bad = true := by
  unfold Alg.batch
  by_cases hl : 1 ≤ xs.length ∧ xs.length ≤ 4
  · rw [show min xs.length 255 = xs.length by omega, wO_in s hl]
    exact wparts_no xs _ (fun h2 => h ⟨hl, h2⟩)
  · exact wparts_bad _ _ _ (by rw [wO_out s (by omega)])
theorem wbatch_len (s : St) (xs : List Cm.Part) : (wA.batch s xs).1.length ≤ 255 := by
  unfold Alg.batch
  have h1 := wA.parts_len (wA.oct s (min xs.length 255) 1 4).1 xs (wA.oct s (min xs.length 255) 1 4).2
  have h2 := wA.ltO s (min xs.length 255) 1 4 (by omega)
  omega

/-- A command's head, written. -/
theorem whead (c : Cm.Cmd) (hf : Cm.Fits c) (ho : 1 ≤ c.op ∧ c.op ≤ 11) : wA.cmd ⟨[], false⟩ c = wA.body c.op c.ses c.seq ⟨Cm.head c, false⟩ c := by
  unfold Alg.cmd Cm.head
  rw [wO_in _ ho]
  simp only
  rw [wG_in _ hf.ses]
  simp only
  rw [wG_in _ hf.seq]
  simp
/-- What the walk of a command that is plain comes to. -/
theorem wcmd_plain (c : Cm.Cmd) (hf : Cm.Fits c) (ho : 1 ≤ c.op ∧ c.op ≤ 11) (h5 : c.op = 5 → (1 ≤ c.parts.length ∧ c.parts.length ≤ 4) ∧ ∀ p ∈ c.parts, p.op = 2 ∨ p.op = 3) :
    wA.cmd ⟨[], false⟩ c = (if c.op = 5 then { Cm.plain c with parts := c.parts.map strip } else Cm.plain c, ⟨Cm.bytes c, false⟩) := by
  rw [whead c hf ho]
  unfold Cm.bytes
  by_cases h1 : c.op = 1 ∨ c.op = 6
  · rw [body1 h1, Cm.plain1 h1, Cm.body1 h1, wG_in _ hf.ttl, if_neg (by omega)]
  by_cases h2 : c.op = 2
  · rw [body2 h2, Cm.plain2 h2, Cm.body2 h2, if_neg (by omega)]
    simp only [wT_eq]
    rw [wG_in _ hf.lease]
    simp
  by_cases h3 : c.op = 3 ∨ c.op = 8
  · rw [body3 h3, Cm.plain3 h3, Cm.body3 h3, if_neg (by omega)]
    simp only [wT_eq]
  by_cases h4 : c.op = 4
  · rw [body4 h4, Cm.plain4 h4, Cm.body4 h4, if_neg (by omega)]
    simp only [wT_eq]
    simp
  by_cases h5' : c.op = 5
  · rw [body5 h5', Cm.plain5 h5', Cm.body5 h5', if_pos h5', wbatch_ok _ _ rfl (h5 h5').1 (h5 h5').2]
    simp
  by_cases h7 : c.op = 7
  · rw [body7 h7, Cm.plain7 h7, Cm.body7 h7, wG_in _ hf.lease, if_neg (by omega)]
  by_cases h9 : c.op = 9
  · rw [body9 h9, Cm.plain9 h9, Cm.body9 h9, if_neg (by omega)]
    simp only [wT_eq]
    rw [wO_in _ (by have := hf.lim; omega)]
    simp
  · rw [body0 (by omega), Cm.plain0 (by omega), Cm.body0 (by omega), if_neg (by omega)]
    simp
theorem wcmd_noop (c : Cm.Cmd) (ho : ¬ (1 ≤ c.op ∧ c.op ≤ 11)) : (wA.cmd ⟨[], false⟩ c).2.bad = true := by
  unfold Alg.cmd
  refine wbody_bad _ _ _ _ _ (wG_bad _ _ _ (wG_bad _ _ _ ?_))
  rw [wO_out _ (by omega)]
theorem wcmd_no5 (c : Cm.Cmd) (hf : Cm.Fits c) (ho : 1 ≤ c.op ∧ c.op ≤ 11) (h : c.op = 5) (h5 : ¬ ((1 ≤ c.parts.length ∧ c.parts.length ≤ 4) ∧ ∀ p ∈ c.parts, p.op = 2 ∨ p.op = 3)) : (wA.cmd ⟨[], false⟩ c).2.bad = true := by
  rw [whead c hf ho, body5 h]
  exact wbatch_no _ _ h5
/-- What Write answers. -/
def out (c : Cm.Cmd) : List UInt8 := if Cm.same (wA.cmd ⟨[], false⟩ c).1 c then (if (wA.cmd ⟨[], false⟩ c).2.bad then [] else (wA.cmd ⟨[], false⟩ c).2.l) else []
theorem out_eq (c : Cm.Cmd) (hf : Cm.Fits c) : out c = Cm.write c := by
  unfold out Cm.write
  by_cases ho : 1 ≤ c.op ∧ c.op ≤ 11
  case neg =>
    have hm : Cm.may c = false := by unfold Cm.may; rw [decide_eq_false ho]; rfl
    rw [wcmd_noop c ho, hm]; simp
  by_cases h5 : c.op = 5 → (1 ≤ c.parts.length ∧ c.parts.length ≤ 4) ∧ ∀ p ∈ c.parts, p.op = 2 ∨ p.op = 3
  case neg =>
    have hc5 : c.op = 5 := Classical.byContradiction fun h => h5 (fun e => absurd e h)
    have h5n : ¬ ((1 ≤ c.parts.length ∧ c.parts.length ≤ 4) ∧ ∀ p ∈ c.parts, p.op = 2 ∨ p.op = 3) := fun h => h5 (fun _ => h)
    have hm : Cm.may c = false := by
      rw [Bool.eq_false_iff]; intro hm
      simp only [Cm.may, Bool.and_eq_true, decide_eq_true_iff, Bool.or_eq_true, bne_iff_ne] at hm
      obtain ⟨_, _, h6, h7⟩ := hm
      rcases h6 with h6 | h6
      · exact h6 hc5
      · exact h5n ⟨h6, (strip_of h7).2⟩
    rw [wcmd_no5 c hf ho hc5 h5n, hm]; simp
  rw [wcmd_plain c hf ho h5]
  simp only [Bool.false_eq_true, if_false]
  by_cases h : c.op = 5
  · rw [if_pos h]
    obtain ⟨hl, hp⟩ := h5 h
    by_cases hm : Cm.may c = true
    · rw [hm]
      simp only [Cm.may, Bool.and_eq_true, decide_eq_true_iff, Cm.same_iff] at hm
      obtain ⟨_, hpl, _, hall⟩ := hm
      have e : { Cm.plain c with parts := c.parts.map strip } = c := by
        rw [(strip_of hall).1]
        have : { Cm.plain c with parts := c.parts } = Cm.plain c := by rw [Cm.plain5 h]
        rw [this, ← hpl]
      rw [e, Cm.same_refl]
    · have hm' : Cm.may c = false := by simpa using hm
      rw [hm']
      rw [if_neg]
      · simp
      intro hs
      have e := (Cm.same_iff _ _).1 hs
      apply hm
      have e1 : c.parts.map strip = c.parts := by
        have := congrArg Cm.Cmd.parts e
        simpa using this
      have e2 : c = Cm.plain c := by
        rw [e1] at e
        have : { Cm.plain c with parts := c.parts } = Cm.plain c := by rw [Cm.plain5 h]
        rw [this] at e
        exact e.symm
      simp only [Cm.may, Bool.and_eq_true, decide_eq_true_iff, Cm.same_iff, Bool.or_eq_true]
      exact ⟨ho, e2, .inr hl, strip_all e1 hp⟩
  · rw [if_neg h]
    by_cases hs : Cm.plain c = c
    · have hpn : c.parts = [] := by
        rw [← hs]; unfold Cm.plain; repeat' split
        all_goals first | rfl | (rename_i h'; exact absurd h' h)
      have hm : Cm.may c = true := by
        simp only [Cm.may, Bool.and_eq_true, decide_eq_true_iff, Cm.same_iff, Bool.or_eq_true, bne_iff_ne]
        exact ⟨ho, hs.symm, .inl h, by rw [hpn]; rfl⟩
      rw [hm, hs, Cm.same_refl]
    · have hm : Cm.may c = false := by
        rw [Bool.eq_false_iff]; intro hm
        simp only [Cm.may, Bool.and_eq_true, decide_eq_true_iff, Cm.same_iff] at hm
        exact hs hm.2.1.symm
      have h2 : Cm.same (Cm.plain c) c = false := by rw [Bool.eq_false_iff]; intro e; exact hs ((Cm.same_iff _ _).1 e)
      rw [hm, h2]
/-- What has been written isn't empty, unless it is bad. -/
theorem wcmd_ne (c : Cm.Cmd) (hf : Cm.Fits c) : (wA.cmd ⟨[], false⟩ c).2.bad = false → (wA.cmd ⟨[], false⟩ c).2.l ≠ [] := by
  intro hb
  by_cases ho : 1 ≤ c.op ∧ c.op ≤ 11
  case neg => rw [wcmd_noop c ho] at hb; cases hb
  by_cases h5 : c.op = 5 → (1 ≤ c.parts.length ∧ c.parts.length ≤ 4) ∧ ∀ p ∈ c.parts, p.op = 2 ∨ p.op = 3
  case neg =>
    have hc5 : c.op = 5 := Classical.byContradiction fun h => h5 (fun e => absurd e h)
    rw [wcmd_no5 c hf ho hc5 (fun h => h5 (fun _ => h))] at hb; cases hb
  rw [wcmd_plain c hf ho h5]
  exact Cm.bytes_ne c
theorem wcmd_len (c : Cm.Cmd) : (wA.cmd ⟨[], false⟩ c).1.parts.length ≤ 255 := by
  unfold Alg.cmd Alg.body; repeat' split
  all_goals first | (simp; done) | exact wbatch_len _ _

/-! Results. -/
theorem wrow (s : St) (x : Rs.Row) (h : x.ver < Nm.top) : wA.row s x = (x, ⟨s.l ++ Rs.rowB x, s.bad⟩) := by
  unfold Alg.row Rs.rowB
  simp only [wT_eq]
  rw [wG_in _ h]
  simp
theorem wrows : ∀ (xs : List Rs.Row) (s : St), s.bad = false → (∀ x ∈ xs, x.ver < Nm.top) → wA.rows xs.length xs s = (xs, ⟨s.l ++ Rs.rowsB xs, s.bad⟩)
  | [], s, _, _ => by simp [Alg.rows, Rs.rowsB]
  | p :: xs, s, hs, h => by
    unfold List.length Alg.rows
    rw [if_neg (by rw [hs]; simp)]
    simp only [List.headD_cons, List.tail_cons]
    rw [wrow s p (h p (by simp))]
    simp only
    rw [wrows xs ⟨s.l ++ Rs.rowB p, s.bad⟩ hs (fun q hq => h q (by simp [hq]))]
    simp [Rs.rowsB]
theorem wpre (r : Rs.Res) (hc : r.code < 256) (hn : r.n < Nm.top) (hl : r.rows.length < Nm.top) : wA.pre ⟨[], false⟩ r = (r.rows.length, ⟨Cm.one r.code ++ Nm.grp r.n ++ Cm.txt r.val ++ Nm.grp r.rows.length, false⟩) := by
  unfold Alg.pre
  rw [wO_in _ (by omega)]
  simp only
  rw [wG_in _ hn]
  simp only [wT_eq]
  rw [wG_in _ hl]
  simp
theorem wres (r : Rs.Res) (hc : r.code < 256) (hn : r.n < Nm.top) (hl : r.rows.length < Nm.top) (hx : ∀ x ∈ r.rows, x.ver < Nm.top) : wA.res ⟨[], false⟩ r = (r, ⟨Rs.bytes r, false⟩) := by
  have h1 := wpre r hc hn hl
  unfold Alg.res Rs.bytes
  rw [h1]
  simp only
  rw [wO_in _ (by omega)]
  simp only
  rw [wG_in _ hn]
  simp only [wT_eq]
  rw [wrows r.rows _ rfl hx]
end Wk
end Go.Proofs.Ytlcgjlganmblpaa
namespace Go.Proofs.Ytlcgjlganmblpaa
namespace Wk
theorem rO_in (r : List UInt8) (b : Bool) {n m lo hi : Nat} (hn : n < 256) (h : lo ≤ n ∧ n ≤ hi) : rA.oct ⟨Cm.one n ++ r, b⟩ m lo hi = (n, ⟨r, b⟩) := by
  have e : (Nm.b8 n).toNat = n := Nm.b8_toNat n hn
  show rO ⟨Cm.one n ++ r, b⟩ m lo hi = _
  unfold rO Cm.one
  simp only [List.singleton_append, e]
  rw [if_pos h]
theorem rG_in (r : List UInt8) (b : Bool) {n m : Nat} (hn : n < Nm.top) : rA.grp ⟨Nm.grp n ++ r, b⟩ m 18446744073709551615 = (n, ⟨r, b⟩) := by
  show rG _ m 18446744073709551615 = _
  unfold rG
  simp only
  rw [Nm.readV_grp n hn]
  simp only
  rw [if_pos (by unfold Nm.top at hn; omega)]
  simp
theorem rT_in (r : List UInt8) (b : Bool) {x y : ByteArray} (hx : x.size < Nm.top) : rA.txt ⟨Cm.txt x ++ r, b⟩ y = (x, ⟨r, b⟩) := by
  show rT _ y = _
  unfold rT Cm.txt
  simp only
  rw [Cm.readS_row _ _ (by rw [← Lib.size_eq]; exact hx)]
  simp
theorem rO_of {s s' : St} {n lo hi x : Nat} (h : rA.oct s n lo hi = (x, s')) (hb : s'.bad = false) : s.bad = false ∧ x < 256 ∧ lo ≤ x ∧ x ≤ hi ∧ s.l = Cm.one x ++ s'.l := by
  have h : rO s n lo hi = (x, s') := h
  unfold rO at h
  split at h
  · injection h with _ h; rw [← h] at hb; cases hb
  · rename_i c r hl
    split at h
    · rename_i hin
      injection h with h1 h2
      subst h1 h2
      exact ⟨hb, UInt8.toNat_lt _, hin.1, hin.2, by rw [hl]; unfold Cm.one; rw [Nm.b8_of c _ rfl]; rfl⟩
    · injection h with _ h; rw [← h] at hb; cases hb
theorem rG_of {s s' : St} {n m x : Nat} (h : rA.grp s n m = (x, s')) (hb : s'.bad = false) : s.bad = false ∧ x < Nm.top ∧ s.l = Nm.grp x ++ s'.l := by
  have h : rG s n m = (x, s') := h
  unfold rG at h
  split at h
  · rename_i k j hv
    split at h
    · injection h with h1 h2
      subst h1 h2
      obtain ⟨hn, r, hl, hk⟩ := (Nm.readV_iff _ _ _).1 hv
      exact ⟨hb, hn, by simp only; rw [hl, hk, List.drop_left' rfl]⟩
    · injection h with _ h; rw [← h] at hb; cases hb
  · injection h with _ h; rw [← h] at hb; cases hb
theorem rT_of {s s' : St} {y x : ByteArray} (h : rA.txt s y = (x, s')) (hb : s'.bad = false) : s.bad = false ∧ x.size < Nm.top ∧ s.l = Cm.txt x ++ s'.l := by
  have h : rT s y = (x, s') := h
  unfold rT at h
  split at h
  · rename_i k j hv
    injection h with h1 h2
    subst h1 h2
    obtain ⟨hn, hl, hk⟩ := Cm.readS_some hv
    exact ⟨hb, by rw [Lib.size_eq]; simpa using hn, by simpa [Cm.txt] using hl⟩
  · injection h with _ h; rw [← h] at hb; cases hb
theorem pair_eta {α β : Type} (x : α × β) : x = (x.1, x.2) := rfl
/-- A part that is read. -/
theorem rpart_of {s : St} {p : Cm.Part} (hb : (rA.part s p).2.bad = false) : s.bad = false ∧ ((rA.part s p).1.op = 2 ∨ (rA.part s p).1.op = 3) ∧ Cm.okPart (rA.part s p).1 = true ∧ (rA.part s p).1.key.size < Nm.top ∧ (rA.part s p).1.val.size < Nm.top ∧ s.l = Cm.partB (rA.part s p).1 ++ (rA.part s p).2.l := by
  unfold Alg.part at hb ⊢
  split
  · rename_i h2
    rw [if_pos h2] at hb
    simp only at hb ⊢
    obtain ⟨b3, z3, e3⟩ := rT_of (pair_eta _) hb
    obtain ⟨b2, z2, e2⟩ := rT_of (pair_eta _) b3
    obtain ⟨b1, z1, g1, g2, e1⟩ := rO_of (pair_eta _) b2
    refine ⟨b1, .inl h2, by simp [Cm.okPart, h2], z2, z3, ?_⟩
    unfold Cm.partB
    simp only
    rw [if_pos h2, e1, e2, e3]
    simp
  · rename_i h2
    rw [if_neg h2] at hb
    simp only at hb ⊢
    obtain ⟨b2, z2, e2⟩ := rT_of (pair_eta _) hb
    obtain ⟨b1, z1, g1, g2, e1⟩ := rO_of (pair_eta _) b2
    refine ⟨b1, .inr (by omega), ?_, z2, Cm.e0_lt, ?_⟩
    · have : (rA.oct s p.op 2 3).1 = 3 := by omega
      simp [Cm.okPart, this, Cm.eqS]
    · unfold Cm.partB
      simp only
      rw [if_neg h2, e1, e2]
      simp
theorem rparts_of : ∀ (n : Nat) (xs : List Cm.Part) (s : St), (rA.parts n xs s).2.bad = false → s.bad = false ∧ (rA.parts n xs s).1.length = n ∧ (∀ p ∈ (rA.parts n xs s).1, (p.op = 2 ∨ p.op = 3) ∧ Cm.okPart p = true ∧ p.key.size < Nm.top ∧ p.val.size < Nm.top) ∧ s.l = Cm.partsB (rA.parts n xs s).1 ++ (rA.parts n xs s).2.l
  | 0, xs, s, h => ⟨h, rfl, fun p hp => (by cases hp), (by simp [Alg.parts, Cm.partsB])⟩
  | n + 1, xs, s, h => by
    unfold Alg.parts at h ⊢
    by_cases hs : s.bad = true
    · rw [if_pos hs] at h; simp only at h; rw [hs] at h; cases h
    rw [if_neg hs] at h ⊢
    simp only at h ⊢
    obtain ⟨b1, l1, p1, e1⟩ := rparts_of n _ _ h
    obtain ⟨b2, o2, k2, z2, v2, e2⟩ := rpart_of b1
    refine ⟨b2, by simp only [List.length_cons, l1], fun p hp => ?_, ?_⟩
    · rcases List.mem_cons.1 hp with e | e
      · rw [e]; exact ⟨o2, k2, z2, v2⟩
      · exact p1 p e
    · rw [e2, e1]; simp [Cm.partsB]
theorem rpart_in (r : List UInt8) (p q : Cm.Part) (hk : p.key.size < Nm.top) (hv : p.val.size < Nm.top) (h : Cm.okPart p = true) : rA.part ⟨Cm.partB p ++ r, false⟩ q = (p, ⟨r, false⟩) := by
  simp only [Cm.okPart, Bool.or_eq_true, Bool.and_eq_true, beq_iff_eq, Cm.eqS_iff] at h
  obtain ⟨op, key, val⟩ := p
  simp only at h hk hv
  unfold Alg.part Cm.partB
  simp only
  rcases h with h2 | ⟨h3, hv0⟩
  · subst h2
    rw [if_pos rfl, List.append_assoc, List.append_assoc, rO_in _ _ (by omega) (by omega)]
    simp only [if_true]
    rw [rT_in _ _ hk]
    simp only
    rw [rT_in _ _ hv]
  · subst h3
    subst hv0
    have h32 : ¬ ((3 : Nat) = 2) := by omega
    simp only [h32, if_false, List.append_nil]
    rw [List.append_assoc, rO_in _ _ (by omega) (by omega)]
    simp only [h32, if_false]
    rw [rT_in _ _ hk]
theorem rparts_in : ∀ (ps : List Cm.Part) (r : List UInt8) (xs : List Cm.Part), (∀ p ∈ ps, Cm.okPart p = true ∧ p.key.size < Nm.top ∧ p.val.size < Nm.top) → rA.parts ps.length xs ⟨Cm.partsB ps ++ r, false⟩ = (ps, ⟨r, false⟩)
  | [], r, xs, _ => by simp [Alg.parts, Cm.partsB]
  | p :: ps, r, xs, h => by
    obtain ⟨h1, h2, h3⟩ := h p (by simp)
    unfold List.length Alg.parts
    have e : Cm.partsB (p :: ps) ++ r = Cm.partB p ++ (Cm.partsB ps ++ r) := by simp [Cm.partsB]
    rw [if_neg (by simp), e, rpart_in _ p _ h2 h3 h1]
    simp only
    rw [rparts_in ps r _ (fun q hq => h q (by simp [hq]))]
/-- What is left when a command is read: the command, and its bytes. -/
theorem rbody_of {op ses seq : Nat} {s : St} (hb : (rA.body op ses seq s Cm.zero).2.bad = false) (ho : 1 ≤ op ∧ op ≤ 11) (hses : ses < Nm.top) (hseq : seq < Nm.top) :
    s.bad = false ∧ ∃ u, (rA.body op ses seq s Cm.zero).1 = u ∧ u.op = op ∧ u.ses = ses ∧ u.seq = seq ∧ Cm.Shape u ∧ Cm.may u = true ∧ s.l = Cm.body u ++ (rA.body op ses seq s Cm.zero).2.l := by
  have z0 := Cm.e0_lt
  have y0 := Cm.z_lt
  have l0 : (0 : Nat) < 256 := by omega
  have ho2 : op < 256 := by omega
  have fin : ∀ u : Cm.Cmd, u.op = op → Cm.Fits u → u = Cm.plain u → u.parts = [] → op ≠ 5 → u.key.size < Nm.top → u.val.size < Nm.top → u.exp.size < Nm.top → u.frm.size < Nm.top → u.tto.size < Nm.top → Cm.Shape u ∧ Cm.may u = true := by
    intro u h1 h2 h3 h4 h5 k1 k2 k3 k4 k5
    have hm : Cm.may u = true := by
      simp only [Cm.may, Bool.and_eq_true, decide_eq_true_iff, Cm.same_iff, Bool.or_eq_true, bne_iff_ne]
      exact ⟨by rw [h1]; exact ho, h3, .inl (by rw [h1]; exact h5), by rw [h4]; rfl⟩
    exact ⟨Cm.shape_of h2 hm k1 k2 k3 k4 k5 (fun p hp => by rw [h4] at hp; cases hp), hm⟩
  have nil : ∀ p ∈ ([] : List Cm.Part), p.op < 256 := fun p hp => by cases hp
  by_cases h1 : op = 1 ∨ op = 6
  · rw [body1 h1] at hb ⊢
    simp only at hb ⊢
    obtain ⟨b1, z1, e1⟩ := rG_of (pair_eta _) hb
    refine ⟨b1, _, rfl, rfl, rfl, rfl, ?_⟩
    obtain ⟨f1, f2⟩ := fin ⟨op, ses, seq, Cm.e0, Cm.e0, Cm.e0, Cm.e0, Cm.e0, 0, 0, (rA.grp s Cm.zero.ttl 18446744073709551615).1, []⟩ rfl ⟨ho2, hses, hseq, l0, y0, z1, nil⟩ (by rw [Cm.plain1 h1]) rfl (by omega) z0 z0 z0 z0 z0
    exact ⟨f1, f2, by rw [Cm.body1 h1]; exact e1⟩
  by_cases h2 : op = 2
  · rw [body2 h2] at hb ⊢
    simp only at hb ⊢
    obtain ⟨b3, z3, e3⟩ := rG_of (pair_eta _) hb
    obtain ⟨b2, z2, e2⟩ := rT_of (pair_eta _) b3
    obtain ⟨b1, z1, e1⟩ := rT_of (pair_eta _) b2
    refine ⟨b1, _, rfl, rfl, rfl, rfl, ?_⟩
    obtain ⟨f1, f2⟩ := fin ⟨op, ses, seq, (rA.txt s Cm.zero.key).1, (rA.txt (rA.txt s Cm.zero.key).2 Cm.zero.val).1, Cm.e0, Cm.e0, Cm.e0, 0, (rA.grp (rA.txt (rA.txt s Cm.zero.key).2 Cm.zero.val).2 Cm.zero.lease 18446744073709551615).1, 0, []⟩ rfl ⟨ho2, hses, hseq, l0, z3, y0, nil⟩ (by rw [Cm.plain2 h2]) rfl (by omega) z1 z2 z0 z0 z0
    exact ⟨f1, f2, by rw [Cm.body2 h2]; simp only; rw [e1, e2, e3]; simp⟩
  by_cases h3 : op = 3 ∨ op = 8
  · rw [body3 h3] at hb ⊢
    simp only at hb ⊢
    obtain ⟨b1, z1, e1⟩ := rT_of (pair_eta _) hb
    refine ⟨b1, _, rfl, rfl, rfl, rfl, ?_⟩
    obtain ⟨f1, f2⟩ := fin ⟨op, ses, seq, (rA.txt s Cm.zero.key).1, Cm.e0, Cm.e0, Cm.e0, Cm.e0, 0, 0, 0, []⟩ rfl ⟨ho2, hses, hseq, l0, y0, y0, nil⟩ (by rw [Cm.plain3 h3]) rfl (by omega) z1 z0 z0 z0 z0
    exact ⟨f1, f2, by rw [Cm.body3 h3]; exact e1⟩
  by_cases h4 : op = 4
  · rw [body4 h4] at hb ⊢
    simp only at hb ⊢
    obtain ⟨b3, z3, e3⟩ := rT_of (pair_eta _) hb
    obtain ⟨b2, z2, e2⟩ := rT_of (pair_eta _) b3
    obtain ⟨b1, z1, e1⟩ := rT_of (pair_eta _) b2
    refine ⟨b1, _, rfl, rfl, rfl, rfl, ?_⟩
    obtain ⟨f1, f2⟩ := fin ⟨op, ses, seq, (rA.txt s Cm.zero.key).1, (rA.txt (rA.txt (rA.txt s Cm.zero.key).2 Cm.zero.exp).2 Cm.zero.val).1, (rA.txt (rA.txt s Cm.zero.key).2 Cm.zero.exp).1, Cm.e0, Cm.e0, 0, 0, 0, []⟩ rfl ⟨ho2, hses, hseq, l0, y0, y0, nil⟩ (by rw [Cm.plain4 h4]) rfl (by omega) z1 z3 z2 z0 z0
    exact ⟨f1, f2, by rw [Cm.body4 h4]; simp only; rw [e1, e2, e3]; simp⟩
  by_cases h5 : op = 5
  · rw [body5 h5] at hb ⊢
    simp only at hb ⊢
    unfold Alg.batch at hb ⊢
    obtain ⟨b2, l2, p2, e2⟩ := rparts_of _ _ _ hb
    obtain ⟨b1, z1, g1, g2, e1⟩ := rO_of (pair_eta _) b2
    refine ⟨b1, _, rfl, rfl, rfl, rfl, ?_⟩
    generalize hps : (rA.parts (rA.oct s (min Cm.zero.parts.length 255) 1 4).1 Cm.zero.parts (rA.oct s (min Cm.zero.parts.length 255) 1 4).2) = q at *
    obtain ⟨ps, s2⟩ := q
    simp only at hb l2 p2 e2 ⊢
    have hm : Cm.may ⟨op, ses, seq, Cm.e0, Cm.e0, Cm.e0, Cm.e0, Cm.e0, 0, 0, 0, ps⟩ = true := by
      simp only [Cm.may, Bool.and_eq_true, decide_eq_true_iff, Cm.same_iff, Bool.or_eq_true]
      exact ⟨ho, by rw [Cm.plain5 h5], .inr ⟨by omega, by omega⟩, List.all_eq_true.2 fun p hp => (p2 p hp).2.1⟩
    have hf : Cm.Fits ⟨op, ses, seq, Cm.e0, Cm.e0, Cm.e0, Cm.e0, Cm.e0, 0, 0, 0, ps⟩ := ⟨ho2, hses, hseq, l0, y0, y0, fun p hp => by rcases (p2 p hp).1 with e | e <;> omega⟩
    refine ⟨Cm.shape_of hf hm z0 z0 z0 z0 z0 (fun p hp => ⟨(p2 p hp).2.2.1, (p2 p hp).2.2.2⟩), hm, ?_⟩
    rw [Cm.body5 h5]
    simp only
    rw [e1, e2, l2]; simp
  by_cases h7 : op = 7
  · rw [body7 h7] at hb ⊢
    simp only at hb ⊢
    obtain ⟨b1, z1, e1⟩ := rG_of (pair_eta _) hb
    refine ⟨b1, _, rfl, rfl, rfl, rfl, ?_⟩
    obtain ⟨f1, f2⟩ := fin ⟨op, ses, seq, Cm.e0, Cm.e0, Cm.e0, Cm.e0, Cm.e0, 0, (rA.grp s Cm.zero.lease 18446744073709551615).1, 0, []⟩ rfl ⟨ho2, hses, hseq, l0, z1, y0, nil⟩ (by rw [Cm.plain7 h7]) rfl (by omega) z0 z0 z0 z0 z0
    exact ⟨f1, f2, by rw [Cm.body7 h7]; exact e1⟩
  by_cases h9 : op = 9
  · rw [body9 h9] at hb ⊢
    simp only at hb ⊢
    obtain ⟨b3, z3, _, _, e3⟩ := rO_of (pair_eta _) hb
    obtain ⟨b2, z2, e2⟩ := rT_of (pair_eta _) b3
    obtain ⟨b1, z1, e1⟩ := rT_of (pair_eta _) b2
    refine ⟨b1, _, rfl, rfl, rfl, rfl, ?_⟩
    obtain ⟨f1, f2⟩ := fin ⟨op, ses, seq, Cm.e0, Cm.e0, Cm.e0, (rA.txt s Cm.zero.frm).1, (rA.txt (rA.txt s Cm.zero.frm).2 Cm.zero.tto).1, (rA.oct (rA.txt (rA.txt s Cm.zero.frm).2 Cm.zero.tto).2 Cm.zero.lim 0 255).1, 0, 0, []⟩ rfl ⟨ho2, hses, hseq, z3, y0, y0, nil⟩ (by rw [Cm.plain9 h9]) rfl (by omega) z0 z0 z0 z1 z2
    exact ⟨f1, f2, by rw [Cm.body9 h9]; simp only; rw [e1, e2, e3]; simp⟩
  · rw [body0 (by omega)] at hb ⊢
    simp only at hb ⊢
    refine ⟨hb, _, rfl, rfl, rfl, rfl, ?_⟩
    obtain ⟨f1, f2⟩ := fin ⟨op, ses, seq, Cm.e0, Cm.e0, Cm.e0, Cm.e0, Cm.e0, 0, 0, 0, []⟩ rfl ⟨ho2, hses, hseq, l0, y0, y0, nil⟩ (by rw [Cm.plain0 (by simp only; omega)]) rfl (by omega) z0 z0 z0 z0 z0
    exact ⟨f1, f2, by rw [Cm.body0 (by simp only; omega)]; rfl⟩
theorem rbody_in (c : Cm.Cmd) (r : List UInt8) (hs : Cm.Shape c) (hm : Cm.may c = true) : rA.body c.op c.ses c.seq ⟨Cm.body c ++ r, false⟩ Cm.zero = (c, ⟨r, false⟩) := by
  have hpl := hs.plain
  have hm2 := hm
  simp only [Cm.may, Bool.and_eq_true, decide_eq_true_iff, Cm.same_iff, Bool.or_eq_true, bne_iff_ne] at hm2
  obtain ⟨ho, _, h5p, hall⟩ := hm2
  have hf := hs.fits
  by_cases h1 : c.op = 1 ∨ c.op = 6
  · rw [body1 h1, Cm.body1 h1, rG_in _ _ hf.ttl]
    rw [Cm.plain1 h1] at hpl; simp only; rw [hpl]
  by_cases h2 : c.op = 2
  · rw [body2 h2, Cm.body2 h2, List.append_assoc, List.append_assoc, rT_in _ _ hs.key]
    simp only
    rw [rT_in _ _ hs.val]
    simp only
    rw [rG_in _ _ hf.lease]
    rw [Cm.plain2 h2] at hpl; simp only; rw [hpl]
  by_cases h3 : c.op = 3 ∨ c.op = 8
  · rw [body3 h3, Cm.body3 h3, rT_in _ _ hs.key]
    rw [Cm.plain3 h3] at hpl; simp only; rw [hpl]
  by_cases h4 : c.op = 4
  · rw [body4 h4, Cm.body4 h4, List.append_assoc, List.append_assoc, rT_in _ _ hs.key]
    simp only
    rw [rT_in _ _ hs.exp]
    simp only
    rw [rT_in _ _ hs.val]
    rw [Cm.plain4 h4] at hpl; simp only; rw [hpl]
  by_cases h5 : c.op = 5
  · have hl : 1 ≤ c.parts.length ∧ c.parts.length ≤ 4 := by rcases h5p with h | h; (exact absurd h5 h); exact h
    rw [body5 h5, Cm.body5 h5, List.append_assoc]
    unfold Alg.batch
    rw [rO_in _ _ (by omega) hl]
    simp only
    rw [rparts_in c.parts r _ (fun p hp => ⟨List.all_eq_true.1 hall p hp, (hs.parts p hp).key, (hs.parts p hp).val⟩)]
    rw [Cm.plain5 h5] at hpl; simp only; rw [hpl]
  by_cases h7 : c.op = 7
  · rw [body7 h7, Cm.body7 h7, rG_in _ _ hf.lease]
    rw [Cm.plain7 h7] at hpl; simp only; rw [hpl]
  by_cases h9 : c.op = 9
  · rw [body9 h9, Cm.body9 h9, List.append_assoc, List.append_assoc, rT_in _ _ hs.frm]
    simp only
    rw [rT_in _ _ hs.tto]
    simp only
    rw [rO_in _ _ hf.lim (by have := hf.lim; omega)]
    rw [Cm.plain9 h9] at hpl; simp only; rw [hpl]
  · rw [body0 (by omega), Cm.body0 (by omega)]
    rw [Cm.plain0 (by omega)] at hpl; simp only [List.nil_append]; rw [hpl]
/-- What Read answers. -/
def inn (l : List UInt8) : Option Cm.Cmd := if (rA.cmd ⟨l, false⟩ Cm.zero).2.bad = false ∧ (rA.cmd ⟨l, false⟩ Cm.zero).2.l = [] then some (rA.cmd ⟨l, false⟩ Cm.zero).1 else none
theorem inn_eq (l : List UInt8) : inn l = Cm.read l := by
  apply Option.ext
  intro c
  rw [Cm.read_iff]
  unfold inn
  constructor
  · intro h
    split at h
    · rename_i hc
      obtain ⟨hb, hl⟩ := hc
      injection h with h
      unfold Alg.cmd at hb hl h
      have h3 : (rA.grp (rA.grp (rA.oct ⟨l, false⟩ Cm.zero.op 1 11).2 Cm.zero.ses 18446744073709551615).2 Cm.zero.seq 18446744073709551615).2.bad = false := by
        by_cases ho : 1 ≤ (rA.oct ⟨l, false⟩ Cm.zero.op 1 11).1 ∧ (rA.oct ⟨l, false⟩ Cm.zero.op 1 11).1 ≤ 11
        · exact (rbody_of hb ho (rA.ltG _ _ _ (by decide)) (rA.ltG _ _ _ (by decide))).1
        · rw [body0 (by
            have : rA.oct ⟨l, false⟩ Cm.zero.op 1 11 = rO ⟨l, false⟩ Cm.zero.op 1 11 := rfl
            rw [this] at ho ⊢
            unfold rO at ho ⊢
            split
            · left; rfl
            · rename_i c r hl
              rw [hl] at ho
              simp only at ho ⊢
              split
              · rename_i hin; rw [if_pos hin] at ho; exact absurd hin ho
              · left; rfl)] at hb
          exact hb
      obtain ⟨b3, z3, e3⟩ := rG_of (pair_eta _) h3
      obtain ⟨b2, z2, e2⟩ := rG_of (pair_eta _) b3
      obtain ⟨b1, z1, g1, g2, e1⟩ := rO_of (pair_eta _) b2
      obtain ⟨_, u, hu, u1, u2, u3, hsh, hm, e4⟩ := rbody_of hb ⟨g1, g2⟩ z2 z3
      rw [hu] at h
      subst h
      refine ⟨hsh, hm, ?_⟩
      unfold Cm.bytes Cm.head
      rw [u1, u2, u3]
      rw [hl, List.append_nil] at e4
      refine (show l = _ from e1).trans ?_
      rw [e2, e3, e4]
      simp
    · cases h
  · rintro ⟨hs, hm, rfl⟩
    have hm2 := hm
    simp only [Cm.may, Bool.and_eq_true, decide_eq_true_iff] at hm2
    have hf := hs.fits
    have e : rA.cmd ⟨Cm.bytes c, false⟩ Cm.zero = (c, ⟨[], false⟩) := by
      unfold Alg.cmd Cm.bytes Cm.head
      rw [List.append_assoc, List.append_assoc, rO_in _ _ hf.op hm2.1]
      simp only
      rw [rG_in _ _ hf.ses]
      simp only
      rw [rG_in _ _ hf.seq]
      simp only
      have := rbody_in c [] hs hm
      rw [List.append_nil] at this
      exact this
    rw [e]; simp
/-! Results. -/
theorem rrow_of {s : St} {p : Rs.Row} (hb : (rA.row s p).2.bad = false) : s.bad = false ∧ Rs.RowW (rA.row s p).1 ∧ s.l = Rs.rowB (rA.row s p).1 ++ (rA.row s p).2.l := by
  unfold Alg.row at hb ⊢
  simp only at hb ⊢
  obtain ⟨b3, z3, e3⟩ := rG_of (pair_eta _) hb
  obtain ⟨b2, z2, e2⟩ := rT_of (pair_eta _) b3
  obtain ⟨b1, z1, e1⟩ := rT_of (pair_eta _) b2
  refine ⟨b1, ⟨z1, z2, z3⟩, ?_⟩
  unfold Rs.rowB
  simp only
  refine (show s.l = _ from e1).trans ?_
  rw [e2, e3]
  simp
theorem rrows_of : ∀ (n : Nat) (xs : List Rs.Row) (s : St), (rA.rows n xs s).2.bad = false → s.bad = false ∧ (rA.rows n xs s).1.length = n ∧ (∀ p ∈ (rA.rows n xs s).1, Rs.RowW p) ∧ s.l = Rs.rowsB (rA.rows n xs s).1 ++ (rA.rows n xs s).2.l
  | 0, xs, s, h => ⟨h, rfl, fun p hp => (by cases hp), (by simp [Alg.rows, Rs.rowsB])⟩
  | n + 1, xs, s, h => by
    unfold Alg.rows at h ⊢
    by_cases hs : s.bad = true
    · rw [if_pos hs] at h; simp only at h; rw [hs] at h; cases h
    rw [if_neg hs] at h ⊢
    simp only at h ⊢
    obtain ⟨b1, l1, p1, e1⟩ := rrows_of n _ _ h
    obtain ⟨b2, o2, e2⟩ := rrow_of b1
    refine ⟨b2, by simp only [List.length_cons, l1], fun p hp => ?_, ?_⟩
    · rcases List.mem_cons.1 hp with e | e
      · rw [e]; exact o2
      · exact p1 p e
    · rw [e2, e1]; simp [Rs.rowsB]
theorem rrow_in (r : List UInt8) (p q : Rs.Row) (h : Rs.RowW p) : rA.row ⟨Rs.rowB p ++ r, false⟩ q = (p, ⟨r, false⟩) := by
  unfold Alg.row Rs.rowB
  rw [List.append_assoc, List.append_assoc, rT_in _ _ h.key]
  simp only
  rw [rT_in _ _ h.val]
  simp only
  rw [rG_in _ _ h.ver]
theorem rrows_in : ∀ (ps : List Rs.Row) (r : List UInt8) (xs : List Rs.Row), (∀ p ∈ ps, Rs.RowW p) → rA.rows ps.length xs ⟨Rs.rowsB ps ++ r, false⟩ = (ps, ⟨r, false⟩)
  | [], r, xs, _ => by simp [Alg.rows, Rs.rowsB]
  | p :: ps, r, xs, h => by
    unfold List.length Alg.rows
    have e : Rs.rowsB (p :: ps) ++ r = Rs.rowB p ++ (Rs.rowsB ps ++ r) := by simp [Rs.rowsB]
    rw [if_neg (by simp), e, rrow_in _ p _ (h p (by simp))]
    simp only
    rw [rrows_in ps r _ (fun q hq => h q (by simp [hq]))]
/-- What ReadResult answers. -/
def innR (l : List UInt8) : Option Rs.Res := if (rA.res ⟨l, false⟩ Rs.zero).2.bad = false ∧ (rA.res ⟨l, false⟩ Rs.zero).2.l = [] then some (rA.res ⟨l, false⟩ Rs.zero).1 else none
theorem innR_eq (l : List UInt8) : innR l = Rs.read l := by
  apply Option.ext
  intro c
  rw [Rs.read_iff]
  unfold innR
  constructor
  · intro h
    split at h
    · rename_i hc
      obtain ⟨hb, hl⟩ := hc
      injection h with h
      unfold Alg.res at hb hl h
      simp only at hb hl h
      obtain ⟨b5, l5, p5, e5⟩ := rrows_of _ _ _ hb
      have hp : rA.pre ⟨l, false⟩ Rs.zero = rA.grp (rA.txt (rA.grp (rA.oct ⟨l, false⟩ Rs.zero.code 0 255).2 Rs.zero.n 18446744073709551615).2 Rs.zero.val).2 Rs.zero.rows.length 18446744073709551615 := rfl
      obtain ⟨b4, z4, e4⟩ := rG_of (hp.symm.trans (pair_eta _)) b5
      obtain ⟨b3, z3, e3⟩ := rT_of (pair_eta _) b4
      obtain ⟨b2, z2, e2⟩ := rG_of (pair_eta _) b3
      obtain ⟨b1, z1, _, _, e1⟩ := rO_of (pair_eta _) b2
      rw [hl, List.append_nil] at e5
      generalize rA.rows (rA.pre ⟨l, false⟩ Rs.zero).1 Rs.zero.rows (rA.pre ⟨l, false⟩ Rs.zero).2 = q at h l5 p5 e5
      subst h
      refine ⟨⟨z1, z2, z3, ?_, p5⟩, ?_⟩
      · simp only; rw [l5]; exact z4
      · unfold Rs.bytes
        simp only
        refine (show l = _ from e1).trans ?_
        rw [e2, e3, e4, e5, l5]
        simp
    · cases h
  · rintro ⟨hs, rfl⟩
    have e : rA.res ⟨Rs.bytes c, false⟩ Rs.zero = (c, ⟨[], false⟩) := by
      have h1 : rA.oct ⟨Rs.bytes c, false⟩ Rs.zero.code 0 255 = (c.code, ⟨Nm.grp c.n ++ (Cm.txt c.val ++ (Nm.grp c.rows.length ++ Rs.rowsB c.rows)), false⟩) := by
        unfold Rs.bytes
        rw [List.append_assoc, List.append_assoc, List.append_assoc, rO_in _ _ hs.code (by have := hs.code; omega)]
      have hp : rA.pre ⟨Rs.bytes c, false⟩ Rs.zero = (c.rows.length, ⟨Rs.rowsB c.rows, false⟩) := by
        unfold Alg.pre
        rw [h1]
        simp only
        rw [rG_in _ _ hs.n]
        simp only
        rw [rT_in _ _ hs.val]
        simp only
        rw [rG_in _ _ hs.len]
      unfold Alg.res
      rw [hp, h1]
      simp only
      rw [rG_in _ _ hs.n]
      simp only
      rw [rT_in _ _ hs.val]
      have := rrows_in c.rows [] Rs.zero.rows hs.rows
      rw [List.append_nil] at this
      rw [this]
    rw [e]; simp
end Wk
end Go.Proofs.Ytlcgjlganmblpaa
