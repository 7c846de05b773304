/-
  The walk at the arguments as they are handed in.
-/
import Derived.Test.YtlnohjboldenpaaRPgOpen
import Derived.Test.YtlnohjboldenpaaRPgSoundL
set_option linter.unusedSimpArgs false
set_option linter.unusedVariables false
namespace Go.Proofs.Ytlnohjboldenpaa
open Go.RowKit
theorem progressSound_walk (w : World) (a0 : Int) (h0 : (Lit.int .u64 a0).wf = true) (A : Option Addr) (cp : Nat) (gs : List Pg.A) (hA : Lies w A (pas gs)) (hf : ∀ g ∈ gs, Pg.AFit g) (hn : gs.length ≤ maxLen) :
    Calls Try.prog 7 #[.int .u64 a0, .slice A gs.length cp] w fun e w' => e = .returned (.bool true) ∧ Below w.heap.size w w' := by
  obtain ⟨n0, rfl, z0⟩ := u64_nat h0
  exact progressSound_any w n0 A cp gs hA hf hn
end Go.Proofs.Ytlnohjboldenpaa
