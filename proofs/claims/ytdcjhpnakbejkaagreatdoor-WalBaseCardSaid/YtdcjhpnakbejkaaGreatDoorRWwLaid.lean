/-
  What the rows' lists of variables give: the powers of ten, and the two errors; and a state in which they lie.
-/
import Derived.Test.YtdcjhpnakbejkaaGreatDoorRWwNumb
import Derived.Test.YtdcjhpnakbejkaaGreatDoorRows
import Derived.Stop.LaidErr
import Derived.LaidMore
import Derived.Stop.Joined
set_option linter.unusedSimpArgs false
set_option linter.unusedVariables false
namespace Go.Proofs.YtdcjhpnakbejkaaGreatDoor
open Go.ChangeShapes Go.WideShapes Go.ChangeAt Go.RowKit
set_option maxRecDepth 100000 in
theorem door5 (os : Os) (args : Array Value) : laidMetH Tryz.prog Rows.walNamesRow.laid ((World.doorLaid Tryz.prog 62 os).forCall (fun _ _ => 0) ⟨#[], args, []⟩).memory :=
  laidMetH_of_parts3 (fuel := 8) (laidMet_of_run' 8 (by kernel_rfl) (by kernel_rfl)) (by kernel_rfl) (by kernel_rfl)
set_option maxRecDepth 100000 in
theorem door3 (os : Os) (args : Array Value) : laidMetH Tryz.prog Rows.walLastsRow.laid ((World.doorLaid Tryz.prog 62 os).forCall (fun _ _ => 0) ⟨#[], args, []⟩).memory :=
  laidMetH_of_parts3 (fuel := 8) (laidMet_of_run' 8 (by kernel_rfl) (by kernel_rfl)) (by kernel_rfl) (by kernel_rfl)
theorem envT_of {r : List (String × DataW Unit)} {W : World} (h : laidMet Tryz.prog (("internal/strconv.uint64pow10", Rows.laid_internal_strconv_uint64pow10) :: r) W) : EnvT W := by
  have hd : (Rows.laid_internal_strconv_uint64pow10 : DataW Unit) = Lib.tabData .u64 Lib.pow10Tab := by kernel_rfl
  rw [hd] at h
  exact Lib.tabIs_of_head gPow (by kernel_rfl) Tryz.underlying292 Tryz.underlying38 (by kernel_rfl) (by kernel_rfl) h
theorem star8 : ("*errors.errorString" : String) = "*" ++ "errors.errorString" := by decide
theorem err_row (u : TypeId) (h : Tryz.prog.typeName? 3 u = some "*errors.errorString") : u = 306 :=
  typeName_ptr_named (nm := "errors.errorString") (by rw [← star8]; kernel_rfl) (by kernel_rfl) (by decide) u (by rw [← star8]; exact h)
theorem env3 {W : World} (h : laidMetH Tryz.prog Rows.walLastsRow.laid W) : EnvT W := by
  rw [MakeChecks.laidMetH_plain _ _ _ (by kernel_rfl)] at h
  exact envT_of (laidMet.tail (laidMet.tail h))
theorem env5 {W : World} (h : laidMetH Tryz.prog Rows.walNamesRow.laid W) : EnvT W ∧ EnvE W := by
  rw [MakeChecks.laidMetH_plain _ _ _ (by kernel_rfl)] at h
  have h3 := laidMet.tail (laidMet.tail h)
  have h4 := laidMet.tail h3
  obtain ⟨a1, _, hv1, _⟩ := laid_sentinel h4 gRng (by kernel_rfl) Tryz.underlying147 err_row Tryz.underlying306 Tryz.underlying308 rfl rfl Tryz.underlying9 (by kernel_rfl) (by kernel_rfl)
  obtain ⟨a2, _, hv2, _⟩ := laid_sentinel (laidMet.tail h4) gSyn (by kernel_rfl) Tryz.underlying147 err_row Tryz.underlying306 Tryz.underlying308 rfl rfl Tryz.underlying9 (by kernel_rfl) (by kernel_rfl)
  exact ⟨envT_of h3, _, _, _, _, hv2, hv1⟩
end Go.Proofs.YtdcjhpnakbejkaaGreatDoor
