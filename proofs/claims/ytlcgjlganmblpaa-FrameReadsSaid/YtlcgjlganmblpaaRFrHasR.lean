/-
  The document's readers of layer 6 in short.
-/
import Derived.Test.YtlcgjlganmblpaaRFrAw
import Derived.Test.YtlcgjlganmblpaaRFrRefRd
import Derived.Test.YtlcgjlganmblpaaRFrRefRR
set_option linter.unusedSimpArgs false
set_option linter.unusedVariables false
namespace Go.Proofs.Ytlcgjlganmblpaa
open Go.RowKit
theorem getsFr (s : ByteArray) (hs : s.size ≤ 10000000) : GetsF 20 s ((Fr.read s.data.toList).getD Fr.F.zero) (Fr.read s.data.toList).isSome := fun W => refFread_any s W hs
theorem getsPr (s : ByteArray) (hs : s.size ≤ 10000000) : GetsP 21 s ((Fr.rread s.data.toList).getD Fr.R.zero) (Fr.rread s.data.toList).isSome := fun W => refRRep_any s W hs
end Go.Proofs.Ytlcgjlganmblpaa
