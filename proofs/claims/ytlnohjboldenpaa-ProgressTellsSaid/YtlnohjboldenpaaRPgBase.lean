/-
  What a leader knows of another node: the program's functions walked.
-/
import Derived.Test.YtlnohjboldenpaaRPgMath
import Derived.Test.YtlnohjboldenpaaRPgCell
import Derived.Test.YtlnohjboldenpaaRRw
import Derived.ChangeKeysEq
import Derived.Deep.QuietTactic
import Derived.Deep.DeepCutAuto
import Derived.Deep.CutBlock
import Derived.BigQuiet
set_option linter.unusedSimpArgs false
set_option linter.unusedVariables false
namespace Go.Proofs.Ytlnohjboldenpaa
open Go.RowKit
theorem pg_eq (W : World) (x y : Pg.P) : (Op.equalIn 10000 57 (.agg (pgC x)) (.agg (pgC y))).run Try.prog W = .ok (decide (x = y)) W := by
  rw [run_equalIn_agg W 9999 57 _ _ (by unfold Program.fieldsOf; rw [Try.underlying57]) (by kernel_rfl)]
  unfold Program.fieldsOf
  rw [Try.underlying57]
  unfold pgC
  simp only [Op.eqFields]
  simp [go_sem]
  cases x; cases y
  simp only [Pg.P.mk.injEq]
  repeat' split
  all_goals (simp_all <;> omega)
theorem pg_neq (x y : Pg.P) (W : World) : (binOp .neq 57 (.agg (pgC x)) (.agg (pgC y))).run Try.prog W = .ok (.bool (!decide (x = y))) W := by
  rw [run_neq_struct, pg_eq, Result.andThen_ok]
theorem pg_eql (x y : Pg.P) (W : World) : (binOp .eql 57 (.agg (pgC x)) (.agg (pgC y))).run Try.prog W = .ok (.bool (decide (x = y))) W := by
  rw [run_eql_struct, pg_eq, Result.andThen_ok]
def pg0 : Pg.P := ⟨0, 0, 0, 0, 0⟩
theorem sizePg : (Try.prog.info? 57).map (·.size) = some 5 := by kernel_rfl
set_option maxRecDepth 100000 in
theorem pnew_any (n : Nat) (hn : n < Pg.lim) (w : World) : Calls Try.prog 37 #[.int .u64 (n : Int)] w (RetP (.agg (pgC (Pg.new n))) w) := by
  unfold Pg.lim at hn
  go_enter Try.func37, Try.ntmps37
  go_wp2_with fail
  exact bodyPost_ret (results_cell_row (P := Try.prog) (fn := Try.f37) rfl _ _ w.heap.size 57 _ (0, 0) _ rfl (heap_alloc_new w _) Try.underlying57 rfl sizePg) rfl ⟨by simp [pgC, Pg.new], bnew (Below.refl _ _) _⟩
set_option maxRecDepth 100000 in
theorem needs_any (p : Pg.P) (k : Nat) (w : World) : Calls Try.prog 34 #[.agg (pgC p), .int .u64 (k : Int)] w (RetP (.bool (decide (p.n ≤ k))) w) := by
  obtain ⟨m, n, r, s, c⟩ := p
  unfold pgC
  go_enter Try.func34, Try.ntmps34
  go_wp2_with fail
  go_ret
  exact ⟨rfl, bnew (Below.refl _ _) _⟩
end Go.Proofs.Ytlnohjboldenpaa
