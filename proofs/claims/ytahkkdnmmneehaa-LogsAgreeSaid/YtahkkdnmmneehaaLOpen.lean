/-
  How arguments are opened: slices of numbers and of strings, as cells that lie in memory.
-/
import Derived.Test.YtahkkdnmmneehaaRows
import Derived.Test.YtahkkdnmmneehaaLWords
import Derived.ProofKit
import Derived.OpenShut
import Derived.ShutString
import Derived.SliceStrings
import Derived.Carry
set_option linter.unusedSimpArgs false
set_option linter.unusedVariables false
namespace Go.Proofs.Ytahkkdnmmneehaa
open Go.ChangeShapes Go.WideShapes Go.ChangeAt Go.RowKit
set_option linter.unusedVariables false

theorem own : ownKnob Try.prog.godebug = none := by kernel_rfl
theorem laidOut : laidOutB Try.prog = true := by kernel_rfl

theorem lies_of {w : World} {x : Addr} {vs : List Value} (hc : ∀ i u, vs[i]? = some u → w.cell? (x.add i) = some u) : Lies w (some x) vs := by
  rcases vs with _ | ⟨v, vs⟩
  · exact .inl rfl
  · obtain ⟨b, off, spot⟩ := x
    have h0 := hc 0 v rfl
    have hspot : spot = none := by simpa [Addr.add] using World.cell?_spot h0
    subst hspot
    refine .inr ⟨b, off, rfl, World.block_lt_of_cell? w ⟨b, off, none⟩ (by simpa [Addr.add] using h0), fun i u hu => ?_⟩
    have := hc i u hu
    have e : (⟨b, off, none⟩ : Addr).add i = ⟨b, off + i, none⟩ := by unfold Addr.add; split <;> simp_all
    rwa [e] at this

theorem u64_nat {n : Int} (h : (Lit.int .u64 n).wf = true) : ∃ k : Nat, n = (k : Int) ∧ k < Nm.top := by
  have hx : 0 ≤ n ∧ n ≤ 18446744073709551615 := by simpa [Lit.wf, IntKind.min, IntKind.max, IntKind.signed, IntKind.bits] using h
  exact ⟨n.toNat, by omega, by unfold Nm.top; omega⟩


end Go.Proofs.Ytahkkdnmmneehaa
