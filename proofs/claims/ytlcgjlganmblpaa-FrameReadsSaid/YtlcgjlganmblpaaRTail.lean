/-
  A function's code from a region on: what a theorem of its own is stated of, where a walk is cut in two.
-/
import Derived.Test.YtlcgjlganmblpaaProg
import Derived.WalkKit
set_option linter.unusedSimpArgs false
set_option linter.unusedVariables false
namespace Go.Proofs.Ytlcgjlganmblpaa
namespace Tail
def starts (n : Nat) : Code → Bool
  | .region k _ _ => k == n
  | .seq a _ => starts n a
  | _ => false
def find (n : Nat) : Code → Option Code
  | .seq a b => if starts n a then some (.seq a b) else match find n a with
    | some c => some c
    | none => find n b
  | .loop c => find n c
  | .block _ c => find n c
  | .scope c => find n c
  | .cond _ a b => match find n a with
    | some c => some c
    | none => find n b
  | _ => none
end Tail
end Go.Proofs.Ytlcgjlganmblpaa
