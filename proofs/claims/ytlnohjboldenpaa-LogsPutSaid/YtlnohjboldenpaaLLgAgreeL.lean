/-
  LogsAgree walked.
-/
import Derived.Test.YtlnohjboldenpaaLLgCutL
import Derived.Test.YtlnohjboldenpaaLLgPutR
import Derived.Lib.QuietBelow
set_option linter.unusedSimpArgs false
set_option linter.unusedVariables false
namespace Go.Proofs.Ytlnohjboldenpaa
open Go.RowKit Go.Sort
theorem frm_fit {W : World} {p : Nat} {S : Nat → Prop} {l : Lg.L} (h : LgAt W p S l) (i m : Nat) : ∀ e ∈ Lg.frm l i m, En.Fits e ∧ e.body.size ≤ 1000 := fun e he => h.fit.es e (List.mem_of_mem_drop (List.mem_of_mem_take he))
end Go.Proofs.Ytlnohjboldenpaa
