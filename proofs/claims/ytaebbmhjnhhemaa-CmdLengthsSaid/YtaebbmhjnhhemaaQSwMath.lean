/-
  Layer 3's mathematics, fourth part: a command with other texts in the place of its own. No program is named here.
-/
import Derived.Test.YtaebbmhjnhhemaaQCmd
set_option linter.unusedSimpArgs false
set_option linter.unusedVariables false
namespace Go.Proofs.Ytaebbmhjnhhemaa
namespace Cm
/-- The text that is next, the k-th. -/
def nx (ts : List ByteArray) (k : Nat) : ByteArray := ts.getD k e0
def swP (ts : List ByteArray) : Nat → List Part → List Part
  | _, [] => []
  | k, p :: ps => if p.op = 2 then ⟨p.op, nx ts k, nx ts (k + 1)⟩ :: swP ts (k + 2) ps else ⟨p.op, nx ts k, p.val⟩ :: swP ts (k + 1) ps
/-- How many texts so many parts have taken. -/
def swN (k : Nat) : List Part → Nat
  | [] => k
  | p :: ps => if p.op = 2 then swN (k + 2) ps else swN (k + 1) ps
def swap (c : Cmd) (ts : List ByteArray) : Cmd :=
  if c.op = 2 then { c with key := nx ts 0, val := nx ts 1 }
  else if c.op = 3 ∨ c.op = 8 then { c with key := nx ts 0 }
  else if c.op = 4 then { c with key := nx ts 0, exp := nx ts 1, val := nx ts 2 }
  else if c.op = 9 then { c with frm := nx ts 0, tto := nx ts 1 }
  else if c.op = 5 then { c with parts := swP ts 0 c.parts }
  else c
theorem swP_len (ts : List ByteArray) : ∀ (k : Nat) (ps : List Part), (swP ts k ps).length = ps.length
  | _, [] => rfl
  | k, p :: ps => by unfold swP; split <;> simp [swP_len ts _ ps]
theorem swP_ok (ts : List ByteArray) : ∀ (k : Nat) (ps : List Part), (swP ts k ps).all okPart = ps.all okPart
  | _, [] => rfl
  | k, p :: ps => by
    unfold swP; split
    · rename_i h; simp [swP_ok ts _ ps, okPart, h]
    · rename_i h; simp [swP_ok ts _ ps, okPart, h]
theorem swP_app (ts : List ByteArray) : ∀ (k : Nat) (ps qs : List Part), swP ts k (ps ++ qs) = swP ts k ps ++ swP ts (swN k ps) qs
  | _, [], _ => rfl
  | k, p :: ps, qs => by
    simp only [List.cons_append, swP, swN]; split
    · simp [swP_app ts _ ps qs]
    · simp [swP_app ts _ ps qs]
theorem swN_app : ∀ (k : Nat) (ps qs : List Part), swN k (ps ++ qs) = swN (swN k ps) qs
  | _, [], _ => rfl
  | k, p :: ps, qs => by
    simp only [List.cons_append, swN]; split
    · exact swN_app _ ps qs
    · exact swN_app _ ps qs
theorem swN_le : ∀ (k : Nat) (ps : List Part), swN k ps ≤ k + 2 * ps.length
  | _, [] => by simp [swN]
  | k, p :: ps => by
    unfold swN; split
    · have := swN_le (k + 2) ps; simp only [List.length_cons]; omega
    · have := swN_le (k + 1) ps; simp only [List.length_cons]; omega
theorem swP_op (ts : List ByteArray) : ∀ (k : Nat) (ps : List Part), ∀ q ∈ swP ts k ps, (∃ p ∈ ps, q.op = p.op) 
  | _, [], q, h => by cases h
  | k, p :: ps, q, h => by
    unfold swP at h; split at h
    · rcases List.mem_cons.1 h with e | e
      · exact ⟨p, by simp, by rw [e]⟩
      · obtain ⟨r, hr, e2⟩ := swP_op ts _ ps q e; exact ⟨r, by simp [hr], e2⟩
    · rcases List.mem_cons.1 h with e | e
      · exact ⟨p, by simp, by rw [e]⟩
      · obtain ⟨r, hr, e2⟩ := swP_op ts _ ps q e; exact ⟨r, by simp [hr], e2⟩
theorem swP_size (ts : List ByteArray) (M : Nat) (ht : ∀ k, (nx ts k).size ≤ M) : ∀ (k : Nat) (ps : List Part), (∀ p ∈ ps, p.val.size ≤ M) → ∀ q ∈ swP ts k ps, q.key.size ≤ M ∧ q.val.size ≤ M
  | _, [], _, q, h => by cases h
  | k, p :: ps, hp, q, h => by
    have ih := fun j => swP_size ts M ht j ps (fun x hx => hp x (by simp [hx]))
    unfold swP at h; split at h
    · rcases List.mem_cons.1 h with e | e
      · rw [e]; exact ⟨ht _, ht _⟩
      · exact ih _ q e
    · rcases List.mem_cons.1 h with e | e
      · rw [e]; exact ⟨ht _, hp p (by simp)⟩
      · exact ih _ q e
theorem nx_size (ts : List ByteArray) (M : Nat) (h : ∀ t ∈ ts, t.size ≤ M) (k : Nat) : (nx ts k).size ≤ M := by
  unfold nx
  by_cases hk : k < ts.length
  · rw [List.getD_eq_getElem?_getD, List.getElem?_eq_getElem hk]; exact h _ (List.getElem_mem hk)
  · rw [List.getD_eq_getElem?_getD, List.getElem?_eq_none (by omega)]; show (0 : Nat) ≤ _; omega
theorem swap_op (c : Cmd) (ts : List ByteArray) : (swap c ts).op = c.op := by unfold swap; repeat' split
                                                                              all_goals rfl
theorem swap_parts (c : Cmd) (ts : List ByteArray) : (swap c ts).parts.length = c.parts.length := by
  unfold swap; repeat' split
  all_goals first | rfl | exact swP_len _ _ _
/-- Whether a command is plain doesn't hang on its texts. -/
theorem swap_plain (c : Cmd) (ts : List ByteArray) : (swap c ts = plain (swap c ts)) ↔ (c = plain c) := by
  obtain ⟨op, ses, seq, key, val, exp, frm, tto, lim, lease, ttl, parts⟩ := c
  by_cases h1 : op = 1 ∨ op = 6
  · have e : swap ⟨op, ses, seq, key, val, exp, frm, tto, lim, lease, ttl, parts⟩ ts = ⟨op, ses, seq, key, val, exp, frm, tto, lim, lease, ttl, parts⟩ := by
      unfold swap; rw [if_neg (by simp only; omega), if_neg (by simp only; omega), if_neg (by simp only; omega), if_neg (by simp only; omega), if_neg (by simp only; omega)]
    rw [e]
  by_cases h2 : op = 2
  · subst h2; simp [swap, plain]
  by_cases h3 : op = 3
  · subst h3; simp [swap, plain]
  by_cases h8 : op = 8
  · subst h8; simp [swap, plain]
  by_cases h4 : op = 4
  · subst h4; simp [swap, plain]
  by_cases h9 : op = 9
  · subst h9; simp [swap, plain]
  by_cases h5 : op = 5
  · subst h5; simp [swap, plain]
  · have e : swap ⟨op, ses, seq, key, val, exp, frm, tto, lim, lease, ttl, parts⟩ ts = ⟨op, ses, seq, key, val, exp, frm, tto, lim, lease, ttl, parts⟩ := by
      unfold swap; rw [if_neg (by simp only; omega), if_neg (by simp only; omega), if_neg (by simp only; omega), if_neg (by simp only; omega), if_neg (by simp only; omega)]
    rw [e]
theorem swap_all (c : Cmd) (ts : List ByteArray) : (swap c ts).parts.all okPart = c.parts.all okPart := by
  unfold swap; repeat' split
  all_goals first | rfl | exact swP_ok _ _ _
theorem swap_may (c : Cmd) (ts : List ByteArray) : may (swap c ts) = may c := by
  have hp : same (swap c ts) (plain (swap c ts)) = same c (plain c) := by
    rw [Bool.eq_iff_iff, same_iff, same_iff]; exact swap_plain c ts
  unfold may
  rw [swap_op, hp, swap_parts, swap_all]
theorem swap_fits {c : Cmd} (h : Fits c) (ts : List ByteArray) : Fits (swap c ts) := by
  have hq : ∀ q ∈ swP ts 0 c.parts, q.op < 256 := fun q hq => by
    obtain ⟨p, hp, e⟩ := swP_op ts 0 c.parts q hq
    rw [e]; exact h.parts p hp
  unfold swap; repeat' split
  all_goals first | exact h | exact ⟨h.op, h.ses, h.seq, h.lim, h.lease, h.ttl, h.parts⟩ | exact ⟨h.op, h.ses, h.seq, h.lim, h.lease, h.ttl, hq⟩
/-- Two commands that may be have the same bytes just if they are the same. -/
theorem bytes_inj {c d : Cmd} (hc : Shape c) (hd : Shape d) : (bytes c = bytes d) ↔ c = d :=
  ⟨fun h => (bytes_free (r := []) hc hd (by rw [List.append_nil]; exact h)).1, fun h => by rw [h]⟩
end Cm
end Go.Proofs.Ytaebbmhjnhhemaa
