/-
  wapentakeref03.ReadOper walked. WRITTEN BY wip/tools/gen_orread.py.
-/
import Derived.Test.YtpdahbfjbgcmgaaSOrRd
import Derived.Test.YtpdahbfjbgcmgaaSOrReadB
import Derived.Test.YtpdahbfjbgcmgaaSOrReadC
set_option linter.unusedSimpArgs false
set_option linter.unusedVariables false
namespace Go.Proofs.Ytpdahbfjbgcmgaa
open Go.RowKit
theorem refReadOper_any (s : ByteArray) (w : World) (hs : s.size ≤ 10000000) :
    Calls Try.prog 28 #[.string s] w (RetOp (Wk.oin s.data.toList) w) := by
  by_cases h1 : (Cm.tB ⟨s.data.toList, true⟩).1 = 1
  · exact refReadOper_1 s w hs (Lib.hid h1)
  by_cases h2 : (Cm.tB ⟨s.data.toList, true⟩).1 = 2
  · exact refReadOper_2 s w hs (Lib.hid h2)
  by_cases h3 : (Cm.tB ⟨s.data.toList, true⟩).1 = 3
  · exact refReadOper_3 s w hs (Lib.hid h3)
  by_cases h4 : (Cm.tB ⟨s.data.toList, true⟩).1 = 4
  · exact refReadOper_4 s w hs (Lib.hid h4)
  exact refReadOper_5 s w hs (Lib.hid ⟨h1, h2, h3, h4⟩)
end Go.Proofs.Ytpdahbfjbgcmgaa
