/-
  A region's step: a call of whose value one thing is known.
-/
import Derived.Test.YtpdahbfjbgcmgaaSReg
set_option linter.unusedSimpArgs false
set_option linter.unusedVariables false
namespace Go.Proofs.Ytpdahbfjbgcmgaa
open Go.RowKit
namespace Reg
variable {P : Program} {l : List Oper} {Q : Exit → Act → World → Prop} {a0 : Act} {Inv : World → Prop} {R : World → World → Prop} {Good : Nat → Value → World → Prop} {k : Nat} {o : Oper}
theorem run_callS {a : Act} {w : World} {f : FuncId} {args : Array Value} (hrun : (execOp a.eval o).run P w = .ok (.enter f args) w)
    (hc : Calls P f args w fun e w' => ∃ v, e = .returned v ∧ Good k v w' ∧ R w w') (hI : ∀ w', R w w' → Inv w') :
    o.wp P a w (fun a' w' => ∃ v, a' = a.put o.dst v ∧ Good k v w' ∧ R w w' ∧ Inv w') Q := by
  unfold Oper.wp
  rw [hrun, Oper.upon_enter]
  refine hc.mono ?_
  rintro e w' ⟨v, rfl, hg, hR⟩
  exact ⟨v, rfl, hg, hR, hI w' hR⟩
end Reg
end Go.Proofs.Ytpdahbfjbgcmgaa
