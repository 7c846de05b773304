/-
  NumBack walked.
-/
import Derived.Test.YtnfghgkdedmphaaNumBackC
namespace Go.Proofs.Ytnfghgkdedmphaa
open Go.RowKit
set_option linter.unusedVariables false

theorem numBack_walk (w : World) (A : Option Addr) (cap : Nat) (ns : List Nat) (hl : Lies w A (uc ns)) (hn : ∀ n ∈ ns, n < Nm.top) (hm : ns.length ≤ maxLen)
    (B : Option Addr) (cap' : Nat) (ss : List ByteArray) (hl' : Lies w B (sc ss)) (hs : ∀ s ∈ ss, s.size ≤ maxLen) (hm' : ss.length ≤ maxLen) (s : ByteArray) (hz : s.size ≤ maxLen) :
    Calls Try.prog 6 #[.slice A ns.length cap, .slice B ss.length cap', .string s] w fun e w' => e = .returned (.bool true) ∧ Below w.heap.size w w' := by
  by_cases hg : 120 < ns.length ∨ 120 < ss.length ∨ 20000 < tot ss
  · exact numBack_great w A cap ns hm B cap' ss hl' hm' hs s hg
  · by_cases h20 : s.size ≤ 20000
    · exact numBack_main w A cap ns hl hn (by omega) B cap' ss hl' (by omega) (by omega) hs s h20
    · exact numBack_cut w A cap ns hl hn (by omega) B cap' ss hl' (by omega) (by omega) hs s (by omega) (by unfold maxLen at hz; exact hz)
end Go.Proofs.Ytnfghgkdedmphaa
