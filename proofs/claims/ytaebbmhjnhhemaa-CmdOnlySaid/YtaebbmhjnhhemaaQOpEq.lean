/-
  Operator's commands held against each other.
-/
import Derived.Test.YtaebbmhjnhhemaaQWkOper
import Derived.ChangeKeysEq
set_option linter.unusedSimpArgs false
set_option linter.unusedVariables false
namespace Go.Proofs.Ytaebbmhjnhhemaa
open Go.RowKit
theorem stoodOper : Try.prog.stoodInHeld 33 = false := by kernel_rfl
theorem guardOper : Try.prog.eqGuardType Try.prog.depth 33 = false := by kernel_rfl
theorem byteEq (d : Nat) (x y : Int) (W : World) : (Op.equalIn (d + 1) 5 (.int .u8 x) (.int .u8 y)).run Try.prog W = .ok (x == y) W := by
  simp [go_sem]
theorem tok_eq (d : Nat) (W : World) (x y : Og.Tk) : (Op.equalIn (d + 1 + 1) 31 (.agg (tk8 x)) (.agg (tk8 y))).run Try.prog W = .ok (decide (x = y)) W := by
  obtain ⟨i0, hi, hz0, hz1, hz2⟩ := info_parts Try.infoByte
  rw [run_equalIn_array W (d + 1) _ _ Try.underlying31 hi]
  unfold tk8 t8
  rw [show List.range 8 = [0, 1, 2, 3, 4, 5, 6, 7] from rfl]
  simp only [Op.eqItems]
  have hce : Try.prog.cellsOf 5 = 1 := by simp [Program.cellsOf, hi, hz1]
  rw [hce]
  simp [go_sem, byteEq]
  cases x; cases y
  simp only [Og.Tk.mk.injEq, ← UInt8.toNat_inj]
  repeat' split
  all_goals (simp_all <;> omega)
theorem oper_eq (W : World) (x y : Og.Oper) : (Op.equalIn 10000 33 (.agg (operC x)) (.agg (operC y))).run Try.prog W = .ok (decide (x = y)) W := by
  rw [run_equalIn_agg W 9999 33 _ _ (by unfold Program.fieldsOf; rw [Try.underlying33]) stoodOper]
  unfold Program.fieldsOf
  rw [Try.underlying33]
  have ht : ∀ W, (Op.equalIn 9999 31 (.agg (tk8 x.tok)) (.agg (tk8 y.tok))).run Try.prog W = .ok (decide (x.tok = y.tok)) W := fun W => tok_eq 9997 W _ _
  unfold tk8 t8 at ht
  unfold operC
  simp only [Op.eqFields]
  simp [go_sem, ht]
  cases x; cases y
  simp only [Og.Oper.mk.injEq]
  repeat' split
  all_goals (simp_all <;> omega)
theorem oper_neq (x y : Og.Oper) (W : World) : (binOp .neq 33 (.agg (operC x)) (.agg (operC y))).run Try.prog W = .ok (.bool (!decide (x = y))) W := by
  rw [run_neq_struct, oper_eq, Result.andThen_ok]
theorem oper_eql (x y : Og.Oper) (W : World) : (binOp .eql 33 (.agg (operC x)) (.agg (operC y))).run Try.prog W = .ok (.bool (decide (x = y))) W := by
  rw [run_eql_struct, oper_eq, Result.andThen_ok]
end Go.Proofs.Ytaebbmhjnhhemaa
