/-
  The walk at the arguments as they are handed in.
-/
import Derived.Test.YtlnohjboldenpaaRPgOpen
import Derived.Test.YtlnohjboldenpaaRPgOrderL
set_option linter.unusedSimpArgs false
set_option linter.unusedVariables false
namespace Go.Proofs.Ytlnohjboldenpaa
open Go.RowKit
theorem progressOrder_walk (w : World) (a0 : Int) (h0 : (Lit.int .u64 a0).wf = true) (A : Option Addr) (cp : Nat) (gs : List Pg.A) (hA : Lies w A (pas gs)) (hf : ∀ g ∈ gs, Pg.AFit g) (hn : gs.length ≤ maxLen) (a1 : Int) (h1 : (Lit.int .u8 a1).wf = true) :
    Calls Try.prog 9 #[.int .u64 a0, .slice A gs.length cp, .int .u8 a1] w fun e w' => e = .returned (.bool true) ∧ Below w.heap.size w w' := by
  obtain ⟨n0, rfl, z0⟩ := u64_nat h0
  obtain ⟨n1, rfl, z1⟩ := u8_nat h1
  exact progressOrder_any w n0 A cp gs hA hn n1 z1
end Go.Proofs.Ytlnohjboldenpaa
