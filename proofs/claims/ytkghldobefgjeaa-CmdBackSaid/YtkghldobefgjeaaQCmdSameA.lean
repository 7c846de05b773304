/-
  wapentakeref03.Same walked: a field that differs.
-/
import Derived.Test.YtkghldobefgjeaaQCmd
set_option linter.unusedSimpArgs false
set_option linter.unusedVariables false
namespace Go.Proofs.Ytkghldobefgjeaa
open Go.RowKit

set_option maxRecDepth 100000 in
set_option maxHeartbeats 4000000 in
theorem same_op (a b : Cm.Cmd) (A B : Option Addr) (ca cb : Nat) (w : World)  (b0 : ((a.op : Int) != (b.op : Int)) = true) (d0 : (a.op : Int) ≠ (b.op : Int)) :
    Calls Try.prog 31 #[.agg (cmdC a A ca), .agg (cmdC b B cb)] w fun e w' => e = .returned (.bool false) ∧ Below w.heap.size w w' := by
  have FX := cmdF a A ca
  have FY := cmdF b B cb
  generalize cmdC a A ca = X at FX ⊢
  generalize cmdC b B cb = Y at FY ⊢
  obtain ⟨hx, _, x0, _, _, _, _, _, _, _, _, _, _, _⟩ := FX
  obtain ⟨hy, _, y0, _, _, _, _, _, _, _, _, _, _, _⟩ := FY
  go_enter Try.func31, Try.ntmps31
  go_wp2
  go_ret
  exact ⟨rfl, bnew (bnew (Below.refl _ _) _) _⟩

set_option maxRecDepth 100000 in
set_option maxHeartbeats 4000000 in
theorem same_ses (a b : Cm.Cmd) (A B : Option Addr) (ca cb : Nat) (w : World) (d0 : ((a.op : Int) = (b.op : Int)) = True) (b0 : ((a.op : Int) != (b.op : Int)) = false) (b1 : ((a.ses : Int) != (b.ses : Int)) = true) (d1 : (a.ses : Int) ≠ (b.ses : Int)) :
    Calls Try.prog 31 #[.agg (cmdC a A ca), .agg (cmdC b B cb)] w fun e w' => e = .returned (.bool false) ∧ Below w.heap.size w w' := by
  have FX := cmdF a A ca
  have FY := cmdF b B cb
  generalize cmdC a A ca = X at FX ⊢
  generalize cmdC b B cb = Y at FY ⊢
  obtain ⟨hx, _, x0, x1, _, _, _, _, _, _, _, _, _, _⟩ := FX
  obtain ⟨hy, _, y0, y1, _, _, _, _, _, _, _, _, _, _⟩ := FY
  go_enter Try.func31, Try.ntmps31
  go_wp2
  go_ret
  exact ⟨rfl, bnew (bnew (Below.refl _ _) _) _⟩

set_option maxRecDepth 100000 in
set_option maxHeartbeats 4000000 in
theorem same_seq (a b : Cm.Cmd) (A B : Option Addr) (ca cb : Nat) (w : World) (d0 : ((a.op : Int) = (b.op : Int)) = True) (b0 : ((a.op : Int) != (b.op : Int)) = false) (d1 : ((a.ses : Int) = (b.ses : Int)) = True) (b1 : ((a.ses : Int) != (b.ses : Int)) = false) (b2 : ((a.seq : Int) != (b.seq : Int)) = true) (d2 : (a.seq : Int) ≠ (b.seq : Int)) :
    Calls Try.prog 31 #[.agg (cmdC a A ca), .agg (cmdC b B cb)] w fun e w' => e = .returned (.bool false) ∧ Below w.heap.size w w' := by
  have FX := cmdF a A ca
  have FY := cmdF b B cb
  generalize cmdC a A ca = X at FX ⊢
  generalize cmdC b B cb = Y at FY ⊢
  obtain ⟨hx, _, x0, x1, x2, _, _, _, _, _, _, _, _, _⟩ := FX
  obtain ⟨hy, _, y0, y1, y2, _, _, _, _, _, _, _, _, _⟩ := FY
  go_enter Try.func31, Try.ntmps31
  go_wp2
  go_ret
  exact ⟨rfl, bnew (bnew (Below.refl _ _) _) _⟩

end Go.Proofs.Ytkghldobefgjeaa
