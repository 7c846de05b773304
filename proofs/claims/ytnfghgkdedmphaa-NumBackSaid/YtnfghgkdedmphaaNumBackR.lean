/-
  The two regions of NumBack whose order is open.
-/
import Derived.Test.YtnfghgkdedmphaaNumAwake
import Derived.Deep.RegionWith
namespace Go.Proofs.Ytnfghgkdedmphaa
open Go.RowKit
set_option linter.unusedVariables false

def findRegion (n : Nat) : Code → Option Code
  | .region k ops d => if k = n then some (.region k ops d) else none
  | .loop c => findRegion n c
  | .seq a b => match findRegion n a with
    | some c => some c
    | none => findRegion n b
  | .block _ c => findRegion n c
  | .scope c => findRegion n c
  | .cond _ a b => match findRegion n a with
    | some c => some c
    | none => findRegion n b
  | _ => none
noncomputable def r23 : Code := ((Try.f6.body.bind (findRegion 23)).getD .skip)
noncomputable def r26 : Code := ((Try.f6.body.bind (findRegion 26)).getD .skip)

end Go.Proofs.Ytnfghgkdedmphaa
