/-
  LogsOwn walked.
-/
import Derived.Test.YtlnohjboldenpaaLLgCutL
set_option linter.unusedSimpArgs false
set_option linter.unusedVariables false
namespace Go.Proofs.Ytlnohjboldenpaa
open Go.RowKit Go.Sort
/-- There are cells for n entries, and none is frozen. -/
def Rm (W : World) (A : Option Addr) (n : Nat) : Prop := n = 0 ∨ ∃ b off, A = some ⟨b, off, none⟩ ∧ ∀ j, j < n * 13 → (W.cell? ⟨b, off + j, none⟩).isSome = true ∧ W.frozen? ⟨b, off + j, none⟩ = false
theorem Sl.rm {W : World} {A : Option Addr} {n c : Nat} {xs : List Value} (h : Sl W 13 A n c xs) : Rm W A n := by
  rcases h.lies with ⟨_, h0⟩ | ⟨b, off, rfl, _, _, hf⟩
  · exact .inl (by have := h.le; omega)
  · exact .inr ⟨b, off, rfl, fun j hj => hf j (by have := h.le; omega)⟩
theorem some_setCell (W : World) (p a : Addr) (v : Value) (h : (W.cell? a).isSome = true) : ((W.setCell p v).cell? a).isSome = true := by
  by_cases he : a = p
  · subst he
    rw [World.cell?_setCell_same' W _ v h]; rfl
  · rw [World.cell?_setCell_other _ _ _ _ (fun e => he e.symm)]; exact h
theorem Rm.set {W : World} {A : Option Addr} {n : Nat} (h : Rm W A n) (p : Addr) (v : Value) : Rm (W.setCell p v) A n := by
  rcases h with h | ⟨b, off, rfl, hf⟩
  · exact .inl h
  · exact .inr ⟨b, off, rfl, fun j hj => ⟨some_setCell W p _ v (hf j hj).1, by rw [World.frozen?_setCell]; exact (hf j hj).2⟩⟩
theorem Rm.at_ {W : World} {A : Option Addr} {n : Nat} (h : Rm W A n) (k : Nat) (hk : k < n) : ∃ b off v, A = some ⟨b, off, none⟩ ∧ W.cell? ⟨b, off + k * 13 + 12, none⟩ = some v ∧ W.frozen? ⟨b, off + k * 13 + 12, none⟩ = false := by
  rcases h with h | ⟨b, off, rfl, hf⟩
  · omega
  · obtain ⟨h1, h2⟩ := hf (k * 13 + 12) (by omega)
    obtain ⟨v, hv⟩ := Option.isSome_iff_exists.1 h1
    exact ⟨b, off, v, rfl, by rw [Nat.add_assoc]; exact hv, by rw [Nat.add_assoc]; exact h2⟩
theorem Ks.set {Z : Nat → Prop} {w W : World} (h : Ks Z w W) {p : Addr} (hp : Z p.block) (v : Value) : Ks Z w (W.setCell p v) := by
  have hb : Below p.block W (W.setCell p v) := Below.setCell (Below.refl _ _) (Nat.le_refl _) v
  exact h.trans (T := Z) ⟨hb.os, hb.tape, hb.output, hb.size, fun k _ hk => heap_setCell_other W p k v (fun e => hk (by rw [e]; exact hp))⟩ fun k hk => .inl hk
/-- What stands while the slices are written on. -/
structure OwnI (Z : Nat → Prop) (w W : World) (n : Nat) (A B C : Option Addr) : Prop where
  ks : Ks Z w W
  a : Rm W A n
  b : Rm W B n
  c : Rm W C n
theorem OwnI.set {Z : Nat → Prop} {w W : World} {n : Nat} {A B C : Option Addr} (h : OwnI Z w W n A B C) {p : Addr} (hp : Z p.block) (v : Value) : OwnI Z w (W.setCell p v) n A B C := ⟨h.ks.set hp v, h.a.set p v, h.b.set p v, h.c.set p v⟩
end Go.Proofs.Ytlnohjboldenpaa
