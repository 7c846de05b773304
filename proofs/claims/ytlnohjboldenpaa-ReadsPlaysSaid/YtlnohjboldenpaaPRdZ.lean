/-
  Layer 13: the contracts in a law's frame, with blocks Z that are no part of the list.
-/
import Derived.Test.YtlnohjboldenpaaPRdAwake
set_option linter.unusedSimpArgs false
set_option linter.unusedVariables false
namespace Go.Proofs.Ytlnohjboldenpaa
open Go.RowKit Go.Sort
/-- Since w a list has been made at block p, and stands for r; the blocks Z are none of its own. -/
structure RZ (w W : World) (p : Nat) (r : Rd.R) (Z : Nat → Prop) : Prop where
  at_ : ∃ S, RdAt W p S r ∧ (∀ k, S k → w.heap.size ≤ k) ∧ ∀ k, Z k → ¬ S k
  bl : Below w.heap.size w W
  zl : ∀ k, Z k → k < W.heap.size
/-- The blocks Z are as they were. -/
structure Zk (Z : Nat → Prop) (W W' : World) : Prop where
  size : W.heap.size ≤ W'.heap.size
  keep : ∀ k, Z k → W'.heap[k]? = W.heap[k]?
section
variable {w W W' W2 : World} {p : Nat} {r r' : Rd.R} {Z Z' S : Nat → Prop}
theorem Zk.trans (h : Zk Z W W') (k : Zk Z W' W2) : Zk Z W W2 := ⟨Nat.le_trans h.size k.size, fun j hj => (k.keep j hj).trans (h.keep j hj)⟩
theorem Zk.mono (h : Zk Z W W') (hz : ∀ k, Z' k → Z k) : Zk Z' W W' := ⟨h.size, fun k hk => h.keep k (hz k hk)⟩
theorem Zk.bel (hb : Below W.heap.size W W') (hz : ∀ k, Z k → k < W.heap.size) : Zk Z W W' := ⟨hb.size, fun k hk => hb.block k (hz k hk)⟩
theorem Zk.sl (h : Zk Z W W') {A : Option Addr} {size n c : Nat} {xs : List Value} (hs : Sl W size A n c xs) (hz : ∀ b, blk A = some b → Z b) : Sl W' size A n c xs := hs.keep fun b hb => h.keep b (hz b hb)
theorem Zk.cell (h : Zk Z W W') {a : Addr} {v : Value} (hz : Z a.block) (hc : W.cell? a = some v) : W'.cell? a = some v := (World.cell?_of_block (a := a) (h.keep a.block hz)).trans hc
theorem Zk.at_ (h : Zk Z W W') {b o : Nat} {v : Value} (hc : W.cell? ⟨b, o, none⟩ = some v) (hz : Z b) : W'.cell? ⟨b, o, none⟩ = some v := h.cell (a := ⟨b, o, none⟩) hz hc
theorem Zk.rw (h : Zk Z W W') {g : Nat} {X : Array Value} {T : TypeId} (hz : Z g) (hr : Rw W g X T) : Rw W' g X T := (h.keep g hz).trans hr
theorem Kr.zk (h : Kr S W W') (hz : ∀ k, Z k → ¬ S k ∧ k < W.heap.size) : Zk Z W W' := ⟨h.size, fun k hk => h.block k (hz k hk).2 (hz k hk).1⟩
theorem RZ.mono (h : RZ w W p r Z) (hz : ∀ k, Z' k → Z k) : RZ w W p r Z' := by
  obtain ⟨⟨S, h1, h2, h3⟩, h4, h5⟩ := h
  exact ⟨⟨S, h1, h2, fun k hk => h3 k (hz k hk)⟩, h4, fun k hk => h5 k (hz k hk)⟩
theorem RZ.bel (h : RZ w W p r Z) (hb : Below W.heap.size W W') : RZ w W' p r Z := by
  obtain ⟨⟨S, h1, h2, h3⟩, h4, h5⟩ := h
  exact ⟨⟨S, h1.bel hb, h2, h3⟩, bnext h4 hb, fun k hk => Nat.lt_of_lt_of_le (h5 k hk) hb.size⟩
/-- Blocks that came since are none of the list's. -/
theorem RZ.belZ (h : RZ w W p r Z) (hb : Below W.heap.size W W') (hz : ∀ k, Z' k → Z k ∨ (W.heap.size ≤ k ∧ k < W'.heap.size)) : RZ w W' p r Z' := by
  obtain ⟨⟨S, h1, h2, h3⟩, h4, h5⟩ := h
  refine ⟨⟨S, h1.bel hb, h2, fun k hk hs => ?_⟩, bnext h4 hb, fun k hk => ?_⟩
  · rcases hz k hk with h | h
    · exact h3 k h hs
    · exact absurd (h1.lt k hs) (by omega)
  · rcases hz k hk with h | h
    · exact Nat.lt_of_lt_of_le (h5 k h) hb.size
    · exact h.2
/-- A block of Z is written. -/
theorem RZ.set (h : RZ w W p r Z) {a : Addr} (ha : Z a.block) (hw : w.heap.size ≤ a.block) (v : Value) : RZ w (W.setCell a v) p r Z := by
  obtain ⟨⟨S, h1, h2, h3⟩, h4, h5⟩ := h
  refine ⟨⟨S, h1.stays (by simp) fun k hk => heap_setCell_other W a k v (fun e => h3 a.block ha (by rw [← e]; exact hk)), h2, h3⟩, h4.setCell hw v, fun k hk => by rw [World.size_setCell]; exact h5 k hk⟩
theorem RNow.rz (h : RNow W W' p S r') (hb : Below w.heap.size w W) (hS : ∀ k, S k → w.heap.size ≤ k) (hZ : ∀ k, Z k → ¬ S k) (hl : ∀ k, Z k → k < W.heap.size) : RZ w W' p r' Z ∧ Zk Z W W' := by
  obtain ⟨⟨S', h1, h2⟩, h3⟩ := h
  refine ⟨⟨⟨S', h1, fun k hk => (h2 k hk).elim (hS k) (Nat.le_trans hb.size), fun k hk hs => ?_⟩, h3.below hb hS, fun k hk => Nat.lt_of_lt_of_le (hl k hk) h3.size⟩, h3.zk fun k hk => ⟨hZ k hk, hl k hk⟩⟩
  rcases h2 k hs with h | h
  · exact hZ k hk h
  · exact absurd (hl k hk) (by omega)
theorem rz_new (hb : Below w.heap.size w W) (hl : ∀ k, Z k → k < W.heap.size) : Calls Try.prog 42 #[] W fun e w' => ∃ p, e = .returned (.pointer (some ⟨p, 0, none⟩)) ∧ RZ w w' p ⟨[], []⟩ Z ∧ Zk Z W w' :=
  (rnew_any W).mono fun e w' ⟨p, h1, h2, h3, h4⟩ => ⟨p, h1, ⟨⟨_, h2, (fun k hk => by rw [hk]; exact Nat.le_trans hb.size h3), fun k hk he => by have := hl k hk; omega⟩, bnext hb h4, fun k hk => Nat.lt_of_lt_of_le (hl k hk) h4.size⟩, Zk.bel h4 hl⟩
theorem rz_len (h : RZ w W p r Z) : Calls Try.prog 45 #[.pointer (some ⟨p, 0, none⟩)] W fun e w' => e = .returned (.tuple #[.int .i64 (r.b.length : Int), .int .i64 (r.w.length : Int)]) ∧ RZ w w' p r Z ∧ Zk Z W w' := by
  have h0 := h
  obtain ⟨⟨S, h1, h2, h3⟩, h4, h5⟩ := h
  exact (rlen_any W h1).mono fun e w' ⟨g1, g2⟩ => ⟨g1, h0.bel g2, Zk.bel g2 h5⟩
theorem rz_ask (h : RZ w W p r Z) (x : Nat) (hx : x < Nm.top) (hf : r.b.length + r.w.length + 1 ≤ 200000) : Calls Try.prog 47 #[.pointer (some ⟨p, 0, none⟩), .int .u64 (x : Int)] W fun e w' => e = .returned (.bool (!Rd.has r x)) ∧ RZ w w' p (Rd.ask r x) Z ∧ Zk Z W w' := by
  obtain ⟨⟨S, h1, h2, h3⟩, h4, h5⟩ := h
  exact (rask_any W h1 x hx hf).mono fun e w' ⟨g1, g2⟩ => ⟨g1, g2.rz h4 h2 h3 h5⟩
theorem rz_begin (h : RZ w W p r Z) (i t : Nat) (hi : i < Nm.top) (ht : t < Nm.top) (hf : r.b.length + r.w.length ≤ 100000) : Calls Try.prog 48 #[.pointer (some ⟨p, 0, none⟩), .int .u64 (i : Int), .int .u64 (t : Int)] W fun e w' => e = .returned (.int .i64 (r.w.length : Int)) ∧ RZ w w' p (Rd.begin r i t) Z ∧ Zk Z W w' := by
  obtain ⟨⟨S, h1, h2, h3⟩, h4, h5⟩ := h
  exact (rbegin_any W h1 i t hi ht hf).mono fun e w' ⟨g1, g2⟩ => ⟨g1, g2.rz h4 h2 h3 h5⟩
/-- Z, and the block of a slice. -/
def Zb (Z : Nat → Prop) (A : Option Addr) (k : Nat) : Prop := Z k ∨ blk A = some k
theorem rz_told (h : RZ w W p r Z) (t : Nat) : Calls Try.prog 49 #[.pointer (some ⟨p, 0, none⟩), .int .u64 (t : Int)] W fun e w' => ∃ A c, e = .returned (.slice A (Rd.told r t).length c) ∧ Sl w' 3 A (Rd.told r t).length c (rdc (Rd.told r t)) ∧ (∀ b, blk A = some b → W.heap.size ≤ b) ∧ RZ w w' p (Rd.left r t) (Zb Z A) ∧ Zk Z W w' := by
  obtain ⟨⟨S, h1, h2, h3⟩, h4, h5⟩ := h
  refine (rtold_any W h1 t).mono fun e w' ⟨A, c, g1, g2, g3, g4, g5⟩ => ⟨A, c, g1, g2, g3, ⟨⟨S, g4, h2, fun k hk hs => ?_⟩, g5.below h4 h2, fun k hk => ?_⟩, g5.zk fun k hk => ⟨h3 k hk, h5 k hk⟩⟩
  · rcases hk with hk | hk
    · exact h3 k hk hs
    · have := g3 k hk; have := h1.lt k hs; omega
  · rcases hk with hk | hk
    · exact Nat.lt_of_lt_of_le (h5 k hk) g5.size
    · exact g2.lt hk
theorem rz_drop (h : RZ w W p r Z) : Calls Try.prog 50 #[.pointer (some ⟨p, 0, none⟩)] W fun e w' => ∃ A c, e = .returned (.slice A (Rd.ids r).length c) ∧ Sl w' 1 A (Rd.ids r).length c (uc (Rd.ids r)) ∧ (∀ b, blk A = some b → W.heap.size ≤ b) ∧ RZ w w' p ⟨[], []⟩ (Zb Z A) ∧ Zk Z W w' := by
  obtain ⟨⟨S, h1, h2, h3⟩, h4, h5⟩ := h
  refine (rdrop_any W h1).mono fun e w' ⟨A, c, g1, g2, g3, g4, g5⟩ => ⟨A, c, g1, g2, g3, ⟨⟨S, g4, h2, fun k hk hs => ?_⟩, g5.below h4 h2, fun k hk => ?_⟩, g5.zk fun k hk => ⟨h3 k hk, h5 k hk⟩⟩
  · rcases hk with hk | hk
    · exact h3 k hk hs
    · have := g3 k hk; have := h1.lt k hs; omega
  · rcases hk with hk | hk
    · exact Nat.lt_of_lt_of_le (h5 k hk) g5.size
    · exact g2.lt hk
end
end Go.Proofs.Ytlnohjboldenpaa
