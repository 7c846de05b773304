/-
  Small words on rows of one's own.
  Ints that lie in memory; remainders.
-/
import Derived.Test.YtdcjhpnakbejkaaGreatDoorRWords
import Derived.Test.YtdcjhpnakbejkaaGreatDoorRDkB
set_option linter.unusedSimpArgs false
set_option linter.unusedVariables false
namespace Go.Proofs.YtdcjhpnakbejkaaGreatDoor
open Go.RowKit
theorem news_fl (W : World) (l : List Value) (t : TypeId) : ∀ j u, l[j]? = some u → (W.alloc (.cells l.toArray t)).cell? ((⟨W.heap.size, 0, none⟩ : Addr).add j) = some u := fun j u hu => by
  have e : (⟨W.heap.size, 0, none⟩ : Addr).add j = ⟨W.heap.size, 0 + j, none⟩ := by unfold Addr.add; split <;> simp_all
  rw [e, Nat.zero_add, cell_of_row _ W.heap.size j l.toArray t (0, 0) (heap_alloc_new W _)]
  simpa using hu
theorem own_zero {w : World} {base : Nat} {e : TypeId} {size : Nat} {v : Value} {n : Nat} {l : List Value} (h : w.ownsRow base e size v n l) : w.ownsRow 0 e size v n l := by
  refine ⟨h.1, ?_⟩
  rcases h.2 with h2 | ⟨g, cap, cur, h1, _, rest⟩
  · exact .inl h2
  · exact .inr ⟨g, cap, cur, h1, Nat.zero_le _, rest⟩
theorem own_slice {w : World} {base : Nat} {e : TypeId} {size : Nat} {v : Value} {n : Nat} {l : List Value} (h : w.ownsRow base e size v n l) : ∃ A cap, v = .slice A n cap ∧ ∀ b off, A = some ⟨b, off, none⟩ → base ≤ b ∧ v.ownBlock = some b := by
  rcases h.2 with ⟨h1, h2⟩ | ⟨g, cap, cur, h1, hb, _⟩
  · exact ⟨none, 0, by rw [h1, h2], fun b off he => by cases he⟩
  · refine ⟨_, cap, h1, fun b off he => ?_⟩
    cases he
    exact ⟨hb, by rw [h1]; rfl⟩
theorem own_drew {w : World} {base : Nat} {e : TypeId} {size : Nat} {v : Value} {n : Nat} {l : List Value} (h : w.ownsRow base e size v n l) (m : Nat) : (w.drewN m).ownsRow base e size v n l := by
  have hb := below_drewN (Below.refl w.heap.size w) m
  refine h.kept (row := none) ⟨hb.os, hb.tape, hb.output, hb.size, fun i hi _ => hb.block i hi⟩ ?_
  rcases h.2 with ⟨rfl, _⟩ | ⟨g, cap, cur, rfl, _⟩ <;> simp [Value.ownBlock]
theorem own_setCell {w : World} {base : Nat} {e : TypeId} {size : Nat} {v : Value} {n : Nat} {l : List Value} (h : w.ownsRow base e size v n l) {p i : Nat} (hp : v.ownBlock ≠ some p) (u : Value) : (w.setCell ⟨p, i, none⟩ u).ownsRow base e size v n l :=
  h.kept (row := some p) ⟨rfl, rfl, rfl, by simp, fun k hk hne => Below.heap_setCell _ _ _ _ (fun he => hne (by rw [he]))⟩ (.inr hp)
theorem own_lt {w : World} {base : Nat} {e : TypeId} {size : Nat} {v : Value} {n : Nat} {l : List Value} (h : w.ownsRow base e size v n l) {b : Nat} (hb : v.ownBlock = some b) : b < w.heap.size ∧ base ≤ b := by
  rcases h.2 with ⟨rfl, _⟩ | ⟨g, cap, cur, rfl, hg, hr, _⟩
  · cases hb
  · cases hb; exact ⟨(Array.getElem?_eq_some_iff.1 hr).1, hg⟩
theorem own_empty (W : World) (e : TypeId) : (W.alloc (.cells #[] e)).ownsRow W.heap.size e 1 (.slice (some ⟨W.heap.size, 0, none⟩) 0 0) 0 [] :=
  ⟨rfl, .inr ⟨W.heap.size, 0, #[], rfl, Nat.le_refl _, heap_alloc_new W _, Nat.le_refl _, Nat.zero_le _, rfl, rfl⟩⟩
theorem lies_own {w : World} {base : Nat} {e : TypeId} {A : Option Addr} {n c : Nat} {l : List Value} (h : w.ownsRow base e 1 (.slice A n c) n l) : Lies w A l := by
  rcases h.2 with ⟨hv, hn⟩ | ⟨g, cap, cur, hv, _, hg, _⟩
  · exact .inl (List.eq_nil_of_length_eq_zero (by have := h.1; omega))
  · injection hv with a b c2
    subst a
    refine .inr ⟨g, 0, rfl, (Array.getElem?_eq_some_iff.1 hg).1, fun i u hu => ?_⟩
    have := h.cells (g := g) rfl i u hu
    have e : (⟨g, 0, none⟩ : Addr).add i = ⟨g, 0 + i, none⟩ := by unfold Addr.add; split <;> simp_all
    rw [e] at this; exact this
theorem own_room {w : World} {base : Nat} {e : TypeId} {size : Nat} {A : Option Addr} {n m c : Nat} {l : List Value} (h : w.ownsRow base e size (.slice A n c) m l) : m ≤ c := by
  rcases h.2 with ⟨hv, hn⟩ | ⟨g, cap, cur, hv, _, hg, h1, _⟩
  · omega
  · injection hv with a b c2
    subst c2; exact h1
end Go.Proofs.YtdcjhpnakbejkaaGreatDoor
namespace Go.Proofs.YtdcjhpnakbejkaaGreatDoor
open Go.RowKit
theorem infoStr : (Tryz.prog.info? 9).map (fun i => (i.zero, i.size, i.bytes)) = some (some (.string ⟨#[]⟩), 1, 16) := by kernel_rfl
theorem ic_cell {w : World} {A : Option Addr} {ns : List Int} (h : Lies w A (ic ns)) (i : Nat) (hi : i < ns.length) :
    ∃ b off, A = some ⟨b, off, none⟩ ∧ b < w.heap.size ∧ w.cell? ⟨b, off + i, none⟩ = some (.int .i64 (ns.getD i 0)) := by
  rcases h with h | ⟨b, off, rfl, hb, hc⟩
  · exfalso
    have := ic_length ns
    rw [h] at this
    simp at this; omega
  · exact ⟨b, off, rfl, hb, hc i _ (ic_at ns i hi)⟩
theorem row_drewN {W : World} {g : Nat} {o : Obj} (n : Nat) (h : W.heap[g]? = some o) : (W.drewN n).heap[g]? = some o := ((below_drewN (Below.refl W.heap.size W) n).block _ (Array.getElem?_eq_some_iff.1 h).1).trans h
theorem tmod_bounds (z : Int) (n : Nat) (hn : n ≠ 0) : -(n : Int) < z.tmod n ∧ z.tmod n < n := by
  have h1 := Int.tmod_lt_of_pos z (show (0 : Int) < n by omega)
  have h2 := Int.lt_tmod_of_pos z (show (0 : Int) < n by omega)
  exact ⟨h2, h1⟩
theorem emod_tmod (z : Int) (n : Nat) (hn : n ≠ 0) : z % (n : Int) = if z.tmod n < 0 then z.tmod n + n else z.tmod n := by
  have hb := tmod_bounds z n hn
  have h1 : z = n * (z.tdiv n) + z.tmod n := (Int.mul_tdiv_add_tmod z n).symm
  split
  · have h2 : z = (z.tmod n + n) + n * (z.tdiv n - 1) := by rw [Int.mul_sub, Int.mul_one]; omega
    rw [h2, Int.add_mul_emod_self_left]
    have e1 : (z.tmod n + n + n * (z.tdiv n - 1)).tmod n = z.tmod n := by rw [← h2]
    rw [Int.emod_eq_of_lt (by omega) (by omega)]
    rw [← h2]
  · have h2 : z = z.tmod n + n * (z.tdiv n) := by omega
    have h3 : (z.tmod n + n * (z.tdiv n)) % n = z.tmod n % n := Int.add_mul_emod_self_left ..
    rw [← h2] at h3
    rw [h3, Int.emod_eq_of_lt (by omega) (by omega)]
end Go.Proofs.YtdcjhpnakbejkaaGreatDoor
