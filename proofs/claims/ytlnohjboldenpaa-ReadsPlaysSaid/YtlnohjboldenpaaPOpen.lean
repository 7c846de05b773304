/-
  How arguments are opened: slices of numbers and of strings, as cells that lie in memory.
-/
import Derived.Test.YtlnohjboldenpaaRows
import Derived.Test.YtlnohjboldenpaaPWords
import Derived.ProofKit
import Derived.OpenShut
import Derived.ShutString
import Derived.SliceStrings
import Derived.Carry
set_option linter.unusedSimpArgs false
set_option linter.unusedVariables false
namespace Go.Proofs.Ytlnohjboldenpaa
open Go.ChangeShapes Go.WideShapes Go.ChangeAt Go.RowKit
set_option linter.unusedVariables false

theorem own : ownKnob Try.prog.godebug = none := by kernel_rfl
theorem laidOut : laidOutB Try.prog = true := by kernel_rfl

theorem lies_of {w : World} {x : Addr} {vs : List Value} (hc : ∀ i u, vs[i]? = some u → w.cell? (x.add i) = some u) : Lies w (some x) vs := by
  rcases vs with _ | ⟨v, vs⟩
  · exact .inl rfl
  · obtain ⟨b, off, spot⟩ := x
    have h0 := hc 0 v rfl
    have hspot : spot = none := by simpa [Addr.add] using World.cell?_spot h0
    subst hspot
    refine .inr ⟨b, off, rfl, World.block_lt_of_cell? w ⟨b, off, none⟩ (by simpa [Addr.add] using h0), fun i u hu => ?_⟩
    have := hc i u hu
    have e : (⟨b, off, none⟩ : Addr).add i = ⟨b, off + i, none⟩ := by unfold Addr.add; split <;> simp_all
    rwa [e] at this

theorem u64_nat {n : Int} (h : (Lit.int .u64 n).wf = true) : ∃ k : Nat, n = (k : Int) ∧ k < Nm.top := by
  have hx : 0 ≤ n ∧ n ≤ 18446744073709551615 := by simpa [Lit.wf, IntKind.min, IntKind.max, IntKind.signed, IntKind.bits] using h
  exact ⟨n.toNat, by omega, by unfold Nm.top; omega⟩

theorem open_us {H : Type} {enc : TypeId × Value → H} {W : World} {a : Option Addr} {len cap : Nat} {d : DataW H} {ps : List MemPlace} (h : DataW.Trod enc Try.prog W 0 (fun _ => true) true 81 (.slice a len cap) d ps) :
    ∃ ns : List Nat, len = ns.length ∧ Lies W a (uc ns) ∧ (∀ n ∈ ns, n < Nm.top) ∧ len ≤ maxLen := by
  obtain ⟨fuel, hf⟩ := h
  rcases open_ints Try.underlying81 Try.underlying22 (by kernel_rfl) hf with ⟨hcs, _⟩ | ⟨x, l, c, zs, hcs, _, hl, hm, hz, _, hcell, hwz⟩
  · simp [Value.cells] at hcs
    obtain ⟨rfl, rfl, rfl⟩ := hcs
    exact ⟨[], rfl, .inl rfl, by simp, by simp [maxLen]⟩
  · simp [Value.cells] at hcs
    obtain ⟨rfl, rfl, rfl⟩ := hcs
    simp only [if_true] at hz
    have e : uc ((zs.take len).map Int.toNat) = (zs.take len).map (Value.int .u64) := by
      unfold uc
      rw [List.map_map]
      refine List.map_congr_left fun n hn => ?_
      obtain ⟨k, rfl, _⟩ := u64_nat (hwz n (List.mem_of_mem_take hn))
      simp
    refine ⟨(zs.take len).map Int.toNat, by simp; omega, lies_of fun i u hu => ?_, fun n hn => ?_, by omega⟩
    · rw [e] at hu
      obtain ⟨z, hz1, rfl⟩ : ∃ z, (zs.take len)[i]? = some z ∧ Value.int .u64 z = u := by rw [List.getElem?_map, Option.map_eq_some_iff] at hu; exact hu
      have hi : i < zs.length := by
        have := (List.getElem?_eq_some_iff.1 hz1).1
        simp at this; omega
      rw [hcell i hi]
      have : zs[i]? = some z := by
        rw [List.getElem?_take] at hz1
        split at hz1 <;> simp_all
      simp [List.getD, this]
    · obtain ⟨z, hz1, rfl⟩ := List.mem_map.1 hn
      obtain ⟨k, rfl, hk⟩ := u64_nat (hwz z (List.mem_of_mem_take hz1))
      simpa using hk

end Go.Proofs.Ytlnohjboldenpaa
