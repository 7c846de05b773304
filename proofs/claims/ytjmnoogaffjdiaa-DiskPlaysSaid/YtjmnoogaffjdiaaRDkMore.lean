/-
  Ints that lie in memory; remainders.
-/
import Derived.Test.YtjmnoogaffjdiaaRDkBase
import Derived.Test.YtjmnoogaffjdiaaROwnB
set_option linter.unusedSimpArgs false
set_option linter.unusedVariables false
namespace Go.Proofs.Ytjmnoogaffjdiaa
open Go.RowKit
theorem infoStr : (Try.prog.info? 9).map (fun i => (i.zero, i.size, i.bytes)) = some (some (.string ⟨#[]⟩), 1, 16) := by kernel_rfl
theorem ic_cell {w : World} {A : Option Addr} {ns : List Int} (h : Lies w A (ic ns)) (i : Nat) (hi : i < ns.length) :
    ∃ b off, A = some ⟨b, off, none⟩ ∧ b < w.heap.size ∧ w.cell? ⟨b, off + i, none⟩ = some (.int .i64 (ns.getD i 0)) := by
  rcases h with h | ⟨b, off, rfl, hb, hc⟩
  · exfalso
    have := ic_length ns
    rw [h] at this
    simp at this; omega
  · exact ⟨b, off, rfl, hb, hc i _ (ic_at ns i hi)⟩
theorem row_drewN {W : World} {g : Nat} {o : Obj} (n : Nat) (h : W.heap[g]? = some o) : (W.drewN n).heap[g]? = some o := ((below_drewN (Below.refl W.heap.size W) n).block _ (Array.getElem?_eq_some_iff.1 h).1).trans h
theorem tmod_bounds (z : Int) (n : Nat) (hn : n ≠ 0) : -(n : Int) < z.tmod n ∧ z.tmod n < n := by
  have h1 := Int.tmod_lt_of_pos z (show (0 : Int) < n by omega)
  have h2 := Int.lt_tmod_of_pos z (show (0 : Int) < n by omega)
  exact ⟨h2, h1⟩
theorem emod_tmod (z : Int) (n : Nat) (hn : n ≠ 0) : z % (n : Int) = if z.tmod n < 0 then z.tmod n + n else z.tmod n := by
  have hb := tmod_bounds z n hn
  have h1 : z = n * (z.tdiv n) + z.tmod n := (Int.mul_tdiv_add_tmod z n).symm
  split
  · have h2 : z = (z.tmod n + n) + n * (z.tdiv n - 1) := by rw [Int.mul_sub, Int.mul_one]; omega
    rw [h2, Int.add_mul_emod_self_left]
    have e1 : (z.tmod n + n + n * (z.tdiv n - 1)).tmod n = z.tmod n := by rw [← h2]
    rw [Int.emod_eq_of_lt (by omega) (by omega)]
    rw [← h2]
  · have h2 : z = z.tmod n + n * (z.tdiv n) := by omega
    have h3 : (z.tmod n + n * (z.tdiv n)) % n = z.tmod n % n := Int.add_mul_emod_self_left ..
    rw [← h2] at h3
    rw [h3, Int.emod_eq_of_lt (by omega) (by omega)]
end Go.Proofs.Ytjmnoogaffjdiaa
