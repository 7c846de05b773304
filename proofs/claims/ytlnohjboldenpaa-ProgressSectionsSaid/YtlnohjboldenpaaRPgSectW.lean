/-
  The walk at the arguments as they are handed in.
-/
import Derived.Test.YtlnohjboldenpaaRPgOpen
import Derived.Test.YtlnohjboldenpaaRPgSectL
set_option linter.unusedSimpArgs false
set_option linter.unusedVariables false
namespace Go.Proofs.Ytlnohjboldenpaa
open Go.RowKit
theorem progressSections_walk (w : World) (a0 : Int) (h0 : (Lit.int .u64 a0).wf = true) (a1 : Int) (h1 : (Lit.int .u64 a1).wf = true) (A : Option Addr) (cp : Nat) (ns : List Nat) (hA : Lies w A (bn ns)) (hf : ∀ n ∈ ns, n < 256) (hn : ns.length ≤ maxLen) (a2 : Int) (h2 : (Lit.int .u64 a2).wf = true) :
    Calls Try.prog 8 #[.int .u64 a0, .int .u64 a1, .slice A ns.length cp, .int .u64 a2] w fun e w' => e = .returned (.bool true) ∧ Below w.heap.size w w' := by
  obtain ⟨n0, rfl, z0⟩ := u64_nat h0
  obtain ⟨n1, rfl, z1⟩ := u64_nat h1
  obtain ⟨n2, rfl, z2⟩ := u64_nat h2
  exact progressSections_any w n0 n1 A cp ns hA hn n2 hf
end Go.Proofs.Ytlnohjboldenpaa
