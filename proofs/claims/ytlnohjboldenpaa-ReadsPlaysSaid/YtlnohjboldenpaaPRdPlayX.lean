/-
  ReadsPlays walked.
-/
import Derived.Test.YtlnohjboldenpaaPRdPlayF
import Derived.Test.YtlnohjboldenpaaPRdPlayG
set_option linter.unusedSimpArgs false
set_option linter.unusedVariables false
namespace Go.Proofs.Ytlnohjboldenpaa
open Go.RowKit Go.Sort
theorem readsPlays_walk (w : World) (A : Option Addr) (cp : Nat) (gs : List Rda) (hA : Lies w A (ras gs)) (hgs : ∀ g ∈ gs, RaFit g) (hl : gs.length ≤ maxLen) (zero : Bool) :
    Calls Try.prog 10 #[.slice A gs.length cp, .bool zero] w fun e w' => e = .returned (.bool true) ∧ Below w.heap.size w w' := by
  cases zero with
  | false => exact readsPlays_false w A cp gs hA hgs hl
  | true => exact readsPlays_true w A cp gs hA hgs hl
end Go.Proofs.Ytlnohjboldenpaa
