/-
  A function's block of a name: what a theorem of its own is stated of, where a walk is cut in two.
-/
import Derived.Test.YtpdahbfjbgcmgaaProg
import Derived.WalkKit
set_option linter.unusedSimpArgs false
set_option linter.unusedVariables false
namespace Go.Proofs.Ytpdahbfjbgcmgaa
namespace Tail
/-- The code's block of this name. -/
def block (n : Nat) : Code → Option Code
  | .block k c => if k = n then some (.block k c) else block n c
  | .seq a b => match block n a with
    | some c => some c
    | none => block n b
  | .loop c => block n c
  | .scope c => block n c
  | .cond _ a b => match block n a with
    | some c => some c
    | none => block n b
  | _ => none
end Tail
end Go.Proofs.Ytpdahbfjbgcmgaa
