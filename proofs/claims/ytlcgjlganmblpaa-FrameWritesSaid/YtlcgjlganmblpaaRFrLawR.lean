/-
  The document's writers of layer 6, of frames and replies that may be asked.
-/
import Derived.Test.YtlcgjlganmblpaaRFrL
import Derived.Test.YtlcgjlganmblpaaRFrRefW
import Derived.Test.YtlcgjlganmblpaaRFrRefRep
set_option linter.unusedSimpArgs false
set_option linter.unusedVariables false
namespace Go.Proofs.Ytlcgjlganmblpaa
open Go.RowKit
theorem okWr {f : Fr.F} (h : Fr.Ok f) (A : Option Addr) (cap : Nat) (w : World) (hA : Lies w A (pc f.cmd.parts)) : Calls Try.prog 18 #[.agg (frC f A cap)] w (RetS (Fr.write f) w) :=
  rwrite_any6 f h.fits h.parts (by have := h.bytes; omega) A cap w hA
theorem okRr {r : Fr.R} (h : Fr.OkR r) (A : Option Addr) (cap : Nat) (w : World) (hA : Lies w A (rc r.res.rows)) : Calls Try.prog 19 #[.agg (rpC r A cap)] w (RetS (Fr.rwrite r) w) :=
  rwreply_any r h.fit h.rfits (by have := h.len; omega) (by have := h.bytes; omega) A cap w hA
end Go.Proofs.Ytlcgjlganmblpaa
