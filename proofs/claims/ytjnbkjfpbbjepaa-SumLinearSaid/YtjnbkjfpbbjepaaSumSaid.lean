/-
  The walks of layer 2's laws, as the rows' proofs call them.
-/
import Derived.Test.YtjnbkjfpbbjepaaSumOpen
import Derived.Test.YtjnbkjfpbbjepaaSumSays
import Derived.Test.YtjnbkjfpbbjepaaSumKnownW
import Derived.Test.YtjnbkjfpbbjepaaSumOfW
import Derived.Test.YtjnbkjfpbbjepaaSumLinearW
import Derived.Test.YtjnbkjfpbbjepaaSumBurstsC
namespace Go.Proofs.Ytjnbkjfpbbjepaa.Law
open Go.RowKit Go.Proofs.Ytjnbkjfpbbjepaa

theorem sumKnown_walk (W : World) : Calls Try.prog 3 #[] W fun e w' => e = .returned (.bool true) ∧ Below W.heap.size W w' := Go.Proofs.Ytjnbkjfpbbjepaa.sumKnown_walk sumSays W
theorem sumTables_walk (W : World) : Calls Try.prog 4 #[] W fun e w' => e = .returned (.bool true) ∧ Below W.heap.size W w' := Go.Proofs.Ytjnbkjfpbbjepaa.sumTables_walk sumSays W
theorem sumOf_walk (W : World) (A : Option Addr) (cap : Nat) (ss : List ByteArray) (hl : Lies W A (sc ss)) (hs : ∀ s ∈ ss, s.size ≤ maxLen) (hm : ss.length ≤ maxLen) :
    Calls Try.prog 5 #[.slice A ss.length cap] W fun e w' => e = .returned (.bool true) ∧ Below W.heap.size W w' := Go.Proofs.Ytjnbkjfpbbjepaa.sumOf_walk sumSays W A cap ss hl hs hm
theorem sumBursts_walk (s : ByteArray) (hs : s.size ≤ maxLen) (p : Int) (hp : (Lit.int .u16 p).wf = true) (c : Int) (hc : (Lit.int .u16 c).wf = true) (m : Int) (hm : (Lit.int .u32 m).wf = true) (W : World) :
    Calls Try.prog 6 #[.string s, .int .u16 p, .int .u16 c, .int .u32 m] W fun e w' => e = .returned (.bool true) ∧ Below W.heap.size W w' := by
  obtain ⟨p, rfl, qp⟩ := u16_nat hp
  obtain ⟨c, rfl, qc⟩ := u16_nat hc
  obtain ⟨m, rfl, qm⟩ := u32_nat hm
  exact Go.Proofs.Ytjnbkjfpbbjepaa.sumBursts_walk sumSays W s hs p c m qp qc qm
theorem sumLinear_walk (a : Int) (ha : (Lit.int .u8 a).wf = true) (b : Int) (hb : (Lit.int .u8 b).wf = true) (cs : Array Value) (hcs : cs.size = 256) (hv : ∀ i, i < 256 → ∃ n : Nat, n < 4294967296 ∧ cs[i]? = some (.int .u32 (n : Int))) (s : ByteArray) (hs : s.size ≤ maxLen) (W : World) :
    Calls Try.prog 7 #[.int .u8 a, .int .u8 b, .agg cs, .string s] W fun e w' => e = .returned (.bool true) ∧ Below W.heap.size W w' := by
  obtain ⟨a, rfl, qa⟩ := u8_nat ha
  obtain ⟨b, rfl, qb⟩ := u8_nat hb
  exact Go.Proofs.Ytjnbkjfpbbjepaa.sumLinear_walk sumSays W a b qa qb cs hcs (one_of_marks hcs hv) hv s hs
end Go.Proofs.Ytjnbkjfpbbjepaa.Law
