/-
  A text whose bytes are turned in at most four places side by side: what the walk of SumBursts needs, without the walk.
-/
import Derived.Test.YtjnbkjfpbbjepaaSumBase
import Derived.Laws.IdiomStrings
namespace Go.Proofs.Ytjnbkjfpbbjepaa
open Go.RowKit

/-- The bytes x lie at the head of block g, and may be written. -/
def Bytes (w : World) (g : Nat) (x : List UInt8) : Prop :=
  ∃ (cur : Array Value) (N : Nat), w.heap[g]? = some (.cells cur 5 (N, N + 1)) ∧ x.length ≤ N ∧ ∀ (j : Nat) (c : UInt8), x[j]? = some c → cur[j]? = some (Value.int .u8 (c.toNat : Int))
theorem Bytes.lt {w : World} {g : Nat} {x : List UInt8} (h : Bytes w g x) : g < w.heap.size := by
  obtain ⟨cur, N, hg, _⟩ := h
  exact (Array.getElem?_eq_some_iff.1 hg).1
theorem Bytes.below {w w' : World} {g : Nat} {x : List UInt8} (h : Bytes w g x) (hb : Below w.heap.size w w') : Bytes w' g x := by
  have hlt := h.lt
  obtain ⟨cur, N, hg, r⟩ := h
  exact ⟨cur, N, (hb.block g hlt).trans hg, r⟩
theorem Bytes.cell {w : World} {g : Nat} {x : List UInt8} (h : Bytes w g x) (j : Nat) (c : UInt8) (hj : x[j]? = some c) : w.cell? ⟨g, j, none⟩ = some (.int .u8 (c.toNat : Int)) := by
  obtain ⟨cur, N, hg, _, hc⟩ := h
  rw [cell_of_row w g j cur _ _ hg]; exact hc j c hj
theorem Bytes.free {w : World} {g : Nat} {x : List UInt8} (h : Bytes w g x) (j : Nat) (hj : j < x.length) : w.frozen? ⟨g, j, none⟩ = false := by
  obtain ⟨cur, N, hg, hN, _⟩ := h
  unfold World.frozen?
  rw [hg]
  simp; omega
theorem Bytes.set_ {w : World} {g : Nat} {x : List UInt8} (h : Bytes w g x) (j : Nat) (c : UInt8) : Bytes (w.setCell ⟨g, j, none⟩ (.int .u8 (c.toNat : Int))) g (x.set j c) := by
  obtain ⟨cur, N, hg, hN, hc⟩ := h
  refine ⟨cur.setIfInBounds j (.int .u8 (c.toNat : Int)), N, ?_, by simpa using hN, fun i d hi => ?_⟩
  · simp [World.setCell, Array.getElem?_modify, hg]
  · rw [List.getElem?_set] at hi
    by_cases e : j = i
    · subst e
      rw [if_pos rfl] at hi
      split at hi
      · rename_i hl
        injection hi with hi
        subst hi
        have := hc j x[j] (List.getElem?_eq_getElem hl)
        have hlt := (Array.getElem?_eq_some_iff.1 this).1
        simp [hlt]
      · cases hi
    · rw [if_neg e] at hi
      rw [Array.getElem?_setIfInBounds_ne e]
      exact hc i d hi
theorem Bytes.made (w : World) (s : ByteArray) (cap : Nat) : Bytes (w.drew.alloc (.cells (bytesRow s cap) 5 ((bytesRow s cap).size, (bytesRow s cap).size + 1))) w.heap.size s.data.toList := by
  refine ⟨bytesRow s cap, _, heap_alloc_new w.drew _, ?_, fun j c hj => ?_⟩
  · simp [bytesRow]
  · have hlt := (List.getElem?_eq_some_iff.1 hj).1
    unfold bytesRow
    rw [Array.getElem?_append_left (by simpa using hlt), Array.getElem?_map]
    rw [Array.getElem?_toList] at hj
    rw [hj]; rfl

/-- Alike but for four places. -/
def Alike4 (k i : Nat) (l x : List UInt8) : Prop := x.length = l.length ∧ ∀ j, (j < k ∨ k + i ≤ j) → x[j]? = l[j]?
theorem Alike4.refl (k : Nat) (l : List UInt8) : Alike4 k 0 l l := ⟨rfl, fun _ _ => rfl⟩
theorem Alike4.step {k i : Nat} {l x : List UInt8} (h : Alike4 k i l x) (c : UInt8) : Alike4 k (i + 1) l (x.set (k + i) c) := by
  refine ⟨by simpa using h.1, fun j hj => ?_⟩
  rw [List.getElem?_set_ne (by omega)]
  exact h.2 j (by omega)
theorem Alike4.more {k i i' : Nat} {l x : List UInt8} (h : Alike4 k i l x) (hi : i ≤ i') : Alike4 k i' l x := ⟨h.1, fun j hj => h.2 j (by omega)⟩

theorem parts4 (l : List UInt8) (k : Nat) : l = l.take k ++ (l.drop k).take 4 ++ l.drop (k + 4) := by
  have e : l.drop (k + 4) = (l.drop k).drop 4 := by rw [List.drop_drop]
  rw [e, List.append_assoc, List.take_append_drop, List.take_append_drop]
theorem burst_iff {k : Nat} {l x : List UInt8} (h : Alike4 k 4 l x) : Cr.crc l = Cr.crc x ↔ x = l := by
  have e1 : x.take k = l.take k := by
    apply List.ext_getElem?
    intro j
    rw [List.getElem?_take, List.getElem?_take]
    split
    · exact h.2 j (.inl (by assumption))
    · rfl
  have e2 : x.drop (k + 4) = l.drop (k + 4) := by
    apply List.ext_getElem?
    intro j
    rw [List.getElem?_drop, List.getElem?_drop]
    exact h.2 _ (.inr (by omega))
  have hx := parts4 x k
  have hl := parts4 l k
  rw [e1, e2] at hx
  have hlen : ((l.drop k).take 4).length = ((x.drop k).take 4).length := by simp [h.1]
  have := Cr.crc_burst (l.take k) ((l.drop k).take 4) ((x.drop k).take 4) (l.drop (k + 4)) hlen (by simp; omega)
  rw [← hl, ← hx] at this
  rw [this]
  constructor
  · intro e
    rw [← e] at hx
    exact hx.trans hl.symm
  · intro e; rw [e]

theorem xor8 (c : UInt8) (n : Nat) : ∃ d : UInt8, bits .xor .u8 (c.toNat : Int) ((n : Int) % 256) = (d.toNat : Int) := by
  have hc := c.toNat_lt
  have e : (n : Int) % 256 = ((n % 256 : Nat) : Int) := by omega
  have hlt : c.toNat ^^^ n % 256 < 256 := Nat.xor_lt_two_pow (n := 8) hc (by omega)
  refine ⟨UInt8.ofNat (c.toNat ^^^ n % 256), ?_⟩
  rw [e, u8_xor_nat _ _ hc (by omega)]
  simp [UInt8.toNat_ofNat']
end Go.Proofs.Ytjnbkjfpbbjepaa
