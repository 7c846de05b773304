/-
  Operator's commands held against each other.
-/
import Derived.Test.YtkghldobefgjeaaQWkOper
import Derived.Test.YtkghldobefgjeaaQTok
set_option linter.unusedSimpArgs false
set_option linter.unusedVariables false
namespace Go.Proofs.Ytkghldobefgjeaa
open Go.RowKit
theorem stoodOper : Try.prog.stoodInHeld 33 = false := by kernel_rfl
theorem guardOper : Try.prog.eqGuardType Try.prog.depth 33 = false := by kernel_rfl
theorem oper_eq (W : World) (x y : Og.Oper) : (Op.equalIn 10000 33 (.agg (operC x)) (.agg (operC y))).run Try.prog W = .ok (decide (x = y)) W := by
  rw [run_equalIn_agg W 9999 33 _ _ (by unfold Program.fieldsOf; rw [Try.underlying33]) stoodOper]
  unfold Program.fieldsOf
  rw [Try.underlying33]
  have ht : ∀ W, (Op.equalIn 9999 31 (.agg (tk8 x.tok)) (.agg (tk8 y.tok))).run Try.prog W = .ok (decide (x.tok = y.tok)) W := fun W => tok_eq 9997 W _ _
  unfold tk8 t8 at ht
  unfold operC
  simp only [Op.eqFields]
  simp [go_sem, ht]
  cases x; cases y
  simp only [Og.Oper.mk.injEq]
  repeat' split
  all_goals (simp_all <;> omega)
theorem oper_neq (x y : Og.Oper) (W : World) : (binOp .neq 33 (.agg (operC x)) (.agg (operC y))).run Try.prog W = .ok (.bool (!decide (x = y))) W := by
  rw [run_neq_struct, oper_eq, Result.andThen_ok]
theorem oper_eql (x y : Og.Oper) (W : World) : (binOp .eql 33 (.agg (operC x)) (.agg (operC y))).run Try.prog W = .ok (.bool (decide (x = y))) W := by
  rw [run_eql_struct, oper_eq, Result.andThen_ok]
end Go.Proofs.Ytkghldobefgjeaa
