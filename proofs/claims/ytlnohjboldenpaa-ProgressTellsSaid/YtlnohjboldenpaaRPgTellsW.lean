/-
  The walk at the arguments as they are handed in.
-/
import Derived.Test.YtlnohjboldenpaaRPgOpen
import Derived.Test.YtlnohjboldenpaaRPgTellsL
set_option linter.unusedSimpArgs false
set_option linter.unusedVariables false
namespace Go.Proofs.Ytlnohjboldenpaa
open Go.RowKit
theorem progressTells_walk (w : World) (p : Pg.P) (g : PgNum p) (ok : Bool) (a0 : Int) (h0 : (Lit.int .u64 a0).wf = true) (a1 : Int) (h1 : (Lit.int .u64 a1).wf = true) (a2 : Int) (h2 : (Lit.int .u64 a2).wf = true) (a3 : Int) (h3 : (Lit.int .u64 a3).wf = true) (a4 : Int) (h4 : (Lit.int .u8 a4).wf = true) :
    Calls Try.prog 5 #[.agg (pgC p), .bool ok, .int .u64 a0, .int .u64 a1, .int .u64 a2, .int .u64 a3, .int .u8 a4] w fun e w' => e = .returned (.bool true) ∧ Below w.heap.size w w' := by
  obtain ⟨n0, rfl, z0⟩ := u64_nat h0
  obtain ⟨n1, rfl, z1⟩ := u64_nat h1
  obtain ⟨n2, rfl, z2⟩ := u64_nat h2
  obtain ⟨n3, rfl, z3⟩ := u64_nat h3
  obtain ⟨n4, rfl, z4⟩ := u8_nat h4
  exact progressTells_any w p ok n0 n1 n2 n3 n4
end Go.Proofs.Ytlnohjboldenpaa
