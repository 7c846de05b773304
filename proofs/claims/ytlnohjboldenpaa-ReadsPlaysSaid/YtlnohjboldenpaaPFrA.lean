/-
  What a truth of a call says; tokens and texts held against each other.
-/
import Derived.Test.YtlnohjboldenpaaPTok
set_option linter.unusedSimpArgs false
set_option linter.unusedVariables false
namespace Go.Proofs.Ytlnohjboldenpaa
open Go.RowKit
theorem tok_eql (x y : Og.Tk) (W : World) : (binOp .eql 47 (.agg (tk8 x)) (.agg (tk8 y))).run Try.prog W = .ok (.bool (decide (x = y))) W := by
  have h : (Op.equalIn 10000 47 (.agg (tk8 x)) (.agg (tk8 y))).run Try.prog W = .ok (decide (x = y)) W := tok_eq 9998 W x y
  rw [run_eql_struct, h, Result.andThen_ok]
theorem body_empty (s : ByteArray) : s.toList.isEmpty = (s.size == 0) := by
  rw [ByteArray.toList_eq, Lib.size_eq, Bool.eq_iff_iff, List.isEmpty_iff, beq_iff_eq, List.length_eq_zero_iff]
/-- A contract's end: a truth; what was there is as it was. -/
def RetTr (b : Bool) (w : World) (e : Ending) (w' : World) : Prop := e = .returned (.bool b) ∧ Below w.heap.size w w'
theorem bytes_eq (s t : ByteArray) : (s.toList == t.toList) = decide (s = t) := by
  rw [Bool.eq_iff_iff, beq_iff_eq, decide_eq_true_iff, ByteArray.toList_eq, ByteArray.toList_eq]
  constructor
  · intro h; exact ByteArray.ext (Array.toList_inj.1 h)
  · intro h; rw [h]
theorem dec_t {m n : Nat} (h : m < n) : decide ((m : Int) < (n : Int)) = true := by simp; omega
theorem dec_f {m n : Nat} (h : ¬ m < n) : decide ((m : Int) < (n : Int)) = false := by simp; omega
end Go.Proofs.Ytlnohjboldenpaa
