/-
  Layer 11's law: logs that have been made since, blocks of others apart.
-/
import Derived.Test.YtlnohjboldenpaaLLgSame
import Derived.Test.YtlnohjboldenpaaLLgGrown
set_option linter.unusedSimpArgs false
set_option linter.unusedVariables false
namespace Go.Proofs.Ytlnohjboldenpaa
open Go.RowKit Go.Sort
/-- A log made since w, none of whose blocks is in Z. -/
structure NewZ (w W : World) (p : Nat) (l : Lg.L) (Z : Nat → Prop) : Prop where
  at_ : ∃ S, LgAt W p S l ∧ ∀ k, S k → w.heap.size ≤ k ∧ ¬ Z k
  bl : Below w.heap.size w W
theorem NewI.z {w W W' : World} {p : Nat} {l : Lg.L} (h : NewI w W p l) (hb : Below W.heap.size W W') : NewZ w W' p l fun k => W.heap.size ≤ k := by
  obtain ⟨⟨S, h1, h2⟩, h3⟩ := h
  exact ⟨⟨S, h1.bel hb, fun k hk => ⟨h2 k hk, Nat.not_le_of_lt (h1.lt k hk)⟩⟩, bnext h3 hb⟩
theorem NewZ.sub {w W : World} {p : Nat} {l : Lg.L} {Z Y : Nat → Prop} (h : NewZ w W p l Z) (hy : ∀ k, Y k → Z k) : NewZ w W p l Y := by
  obtain ⟨⟨S, h1, h2⟩, h3⟩ := h
  exact ⟨⟨S, h1, fun k hk => ⟨(h2 k hk).1, fun hn => (h2 k hk).2 (hy k hn)⟩⟩, h3⟩
theorem NewZ.i {w W : World} {p : Nat} {l : Lg.L} {Z : Nat → Prop} (h : NewZ w W p l Z) : NewI w W p l := by
  obtain ⟨⟨S, h1, h2⟩, h3⟩ := h
  exact ⟨⟨S, h1, fun k hk => (h2 k hk).1⟩, h3⟩
theorem NewZ.bel {w W W' : World} {p : Nat} {l : Lg.L} {Z : Nat → Prop} (h : NewZ w W p l Z) (hb : Below W.heap.size W W') : NewZ w W' p l fun k => Z k ∨ W.heap.size ≤ k := by
  obtain ⟨⟨S, h1, h2⟩, h3⟩ := h
  exact ⟨⟨S, h1.bel hb, fun k hk => ⟨(h2 k hk).1, fun hn => hn.elim (h2 k hk).2 (Nat.not_le_of_lt (h1.lt k hk))⟩⟩, bnext h3 hb⟩
theorem NewZ.bel' {w W W' : World} {p : Nat} {l : Lg.L} {Z : Nat → Prop} (h : NewZ w W p l Z) (hb : Below W.heap.size W W') : NewZ w W' p l Z := (h.bel hb).sub fun _ hk => .inl hk
/-- What Put does to such a log. -/
def PutZ (w W : World) (p : Nat) (l : Lg.L) (Z : Nat → Prop) (i t : Nat) (es : List En.E) (r : Ending) (w' : World) : Prop :=
  if Lg.puts l i t es = true then ∃ A c, r = .returned (.tuple #[.bool true, .int .u64 ((i + es.length : Nat) : Int), .slice A (Lg.lacking l es).length c]) ∧ Lies w' A (ec (Lg.lacking l es)) ∧ (∀ b, blk A = some b → W.heap.size ≤ b) ∧ NewZ w w' p (Lg.put l es) (fun k => Z k ∨ blk A = some k) ∧ (∀ k, Z k → w'.heap[k]? = W.heap[k]?) ∧ W.heap.size ≤ w'.heap.size
  else r = .returned (.tuple #[.bool false, .int .u64 0, .slice none 0 0]) ∧ NewZ w w' p l Z ∧ Below W.heap.size W w'
theorem put_newZ {w W : World} {p : Nat} {l : Lg.L} {Z : Nat → Prop} (h : NewZ w W p l Z) (hZ : ∀ k, Z k → k < W.heap.size) (i t : Nat) (hi : i < Nm.top) (ht : t < Nm.top) (A : Option Addr) (cp : Nat) (es : List En.E)
    (hA : Lies W A (ec es)) (hn : A = none → es.length = 0) (hr : es.length ≤ cp) (ha : ∀ b, blk A = some b → Z b) (hf : ∀ e ∈ es, En.Fits e ∧ e.body.size ≤ 1000) (hm : es.length ≤ 1000) (hfew : l.es.length + es.length ≤ 100000) :
    Calls Try.prog 26 #[.pointer (some ⟨p, 0, none⟩), .int .u64 (i : Int), .int .u64 (t : Int), .slice A es.length cp] W (PutZ w W p l Z i t es) := by
  obtain ⟨⟨S, h1, h2⟩, h3⟩ := h
  refine (put_any W h1 i t hi ht A cp es ⟨hA, hn, hr, fun b hb hs => (h2 b hs).2 (ha b hb), hf, hm⟩ hfew).mono fun r w' hr => ?_
  unfold RetPut at hr
  unfold PutZ
  by_cases hp : Lg.puts l i t es = true
  · rw [if_pos hp] at hr ⊢
    obtain ⟨A', c, S', r1, r2, r3, r4, r5, r6⟩ := hr
    refine ⟨A', c, r1, r2.liesV, fun b hb => (r3 b hb).1, ⟨⟨S', r4, fun k hk => ⟨(r5 k hk).elim (fun h => (h2 k h).1) (Nat.le_trans h3.size), fun hn => hn.elim (fun hz => (r5 k hk).elim (fun h => (h2 k h).2 hz) (fun h => Nat.not_le_of_lt (hZ k hz) h)) (fun hb => (r3 k hb).2 hk)⟩⟩, r6.below h3 fun k hk => (h2 k hk).1⟩, fun k hk => r6.block k (hZ k hk) (fun hs => (h2 k hs).2 hk), r6.size⟩
  · rw [if_neg hp] at hr ⊢
    exact ⟨hr.1, (NewZ.mk ⟨S, h1, h2⟩ h3 : NewZ w W p l Z).bel' hr.2, hr.2⟩
theorem new_nil (w : World) (i t m : Nat) (hi : i < Nm.top) (ht : t < Nm.top) (hm : m < 256) : Calls Try.prog 17 #[.int .u64 (i : Int), .int .u64 (t : Int), .int .u8 (m : Int), .slice none 0 0] w fun e w' => ∃ p, e = .returned (.tuple #[.pointer (some ⟨p, 0, none⟩), .int .i64 0]) ∧ NewI w w' p ⟨i, t, m, []⟩ :=
  (new_any w i t m hi ht hm none 0 [] (.inl rfl) (fun g hg => by cases hg) (by simp) (by simp [vse])).mono fun e w' h => by
      unfold RetNew at h
      rw [if_pos (by rfl)] at h
      obtain ⟨p, S, h1, h2, h3, h4⟩ := h
      exact ⟨p, h1, ⟨S, h2, h3⟩, h4⟩
theorem one_fits (i t : Nat) (hi : i < 1000) (ht : t < 1000) : En.Fits (Lg.one i t) ∧ (Lg.one i t).body.size ≤ 1000 := ⟨⟨by show i < _; unfold Nm.top; omega, by show t < _; unfold Nm.top; omega, show (1 : Nat) < 256 from by decide, show (0 : Nat) < 256 from by decide⟩, show (0 : Nat) ≤ 1000 from by decide⟩
theorem put_ones {w W : World} {p : Nat} {l : Lg.L} {g : Nat} (h : NewZ w W p l fun k => k = g) (hg : g < W.heap.size) (i t : Nat) (hi : i < 1000) (ht : t < 1000) (es : List En.E) (hf : ∀ e ∈ es, En.Fits e ∧ e.body.size ≤ 1000) (hm : es.length ≤ 10) (hl : l.es.length ≤ 10)
    (hp : Lg.puts l i t es = true) {w3 : World} (hb : Below W.heap.size W w3) :
    Calls Try.prog 26 #[.pointer (some ⟨p, 0, none⟩), .int .u64 (i : Int), .int .u64 (t : Int), .slice (some ⟨w3.heap.size, 0, none⟩) es.length es.length] (w3.alloc (.cells (ec es).toArray 49)) fun r w' =>
      ∃ A c, r = .returned (.tuple #[.bool true, .int .u64 ((i + es.length : Nat) : Int), .slice A (Lg.lacking l es).length c]) ∧ NewZ w w' p (Lg.put l es) (fun k => k = g) ∧ w'.heap[g]? = W.heap[g]? ∧ g < w'.heap.size := by
  have hb2 : Below W.heap.size W (w3.alloc (.cells (ec es).toArray 49)) := bnew hb _
  have hz := (h.bel hb2).sub (Y := fun k => k = g ∨ k = w3.heap.size) fun k hk => hk.elim .inl fun e => .inr (by rw [e]; exact hb.size)
  have hsz : (w3.alloc (.cells (ec es).toArray 49)).heap.size = w3.heap.size + 1 := by rw [World.size_alloc]
  refine (put_newZ hz (fun k hk => by have := hb.size; rw [hsz]; rcases hk with rfl | rfl <;> omega) i t (by unfold Nm.top; omega) (by unfold Nm.top; omega) (some ⟨w3.heap.size, 0, none⟩) es.length es (Lies.new w3 (ec es) _) (fun h => by cases h) (Nat.le_refl _) (fun b hb => .inr (Option.some.inj hb).symm) hf (by omega) (by omega)).mono fun r w' hr => ?_
  unfold PutZ at hr
  rw [if_pos hp] at hr
  obtain ⟨A, c, r1, _, _, r4, r5, r6⟩ := hr
  exact ⟨A, c, r1, r4.sub fun k hk => .inl (.inl hk), (r5 g (.inl rfl)).trans (hb2.block g hg), by have := hb.size; rw [hsz] at r6; omega⟩
end Go.Proofs.Ytlnohjboldenpaa
