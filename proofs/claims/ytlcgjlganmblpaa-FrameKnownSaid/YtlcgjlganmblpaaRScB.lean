/-
  cmd.sameCmd walked: a field that differs. WRITTEN BY wip/tools/gen_scmd.py.
  cmd.sameCmd walked: a field that differs. WRITTEN BY wip/tools/gen_scmd.py.
-/
import Derived.Test.YtlcgjlganmblpaaRCmd
set_option linter.unusedSimpArgs false
set_option linter.unusedVariables false
namespace Go.Proofs.Ytlcgjlganmblpaa
open Go.RowKit

set_option maxRecDepth 100000 in
set_option maxHeartbeats 8000000 in
theorem sc_key (a b : Cm.Cmd) (A B : Option Addr) (ca cb : Nat) (w : World) (d0 : ((a.op : Int) = (b.op : Int)) = True) (b0 : ((a.op : Int) == (b.op : Int)) = true) (d1 : ((a.ses : Int) = (b.ses : Int)) = True) (b1 : ((a.ses : Int) == (b.ses : Int)) = true) (d2 : ((a.seq : Int) = (b.seq : Int)) = True) (b2 : ((a.seq : Int) == (b.seq : Int)) = true) (d3 : (a.key.toList == b.key.toList) = false) :
    Calls Try.prog 76 #[.agg (cmdC a A ca), .agg (cmdC b B cb)] w fun e w' => e = .returned (.bool false) ∧ Below w.heap.size w w' := by
  have FX := cmdF a A ca
  have FY := cmdF b B cb
  generalize cmdC a A ca = X at FX ⊢
  generalize cmdC b B cb = Y at FY ⊢
  obtain ⟨hx, _, x0, x1, x2, x3, _, _, _, _, _, _, _, _⟩ := FX
  obtain ⟨hy, _, y0, y1, y2, y3, _, _, _, _, _, _, _, _⟩ := FY
  go_enter Try.func76, Try.ntmps76
  go_wp2
  go_ret
  exact ⟨rfl, bnew (bnew (Below.refl _ _) _) _⟩

set_option maxRecDepth 100000 in
set_option maxHeartbeats 8000000 in
theorem sc_val (a b : Cm.Cmd) (A B : Option Addr) (ca cb : Nat) (w : World) (d0 : ((a.op : Int) = (b.op : Int)) = True) (b0 : ((a.op : Int) == (b.op : Int)) = true) (d1 : ((a.ses : Int) = (b.ses : Int)) = True) (b1 : ((a.ses : Int) == (b.ses : Int)) = true) (d2 : ((a.seq : Int) = (b.seq : Int)) = True) (b2 : ((a.seq : Int) == (b.seq : Int)) = true) (d3 : (a.key.toList == b.key.toList) = true) (d4 : (a.val.toList == b.val.toList) = false) :
    Calls Try.prog 76 #[.agg (cmdC a A ca), .agg (cmdC b B cb)] w fun e w' => e = .returned (.bool false) ∧ Below w.heap.size w w' := by
  have FX := cmdF a A ca
  have FY := cmdF b B cb
  generalize cmdC a A ca = X at FX ⊢
  generalize cmdC b B cb = Y at FY ⊢
  obtain ⟨hx, _, x0, x1, x2, x3, x4, _, _, _, _, _, _, _⟩ := FX
  obtain ⟨hy, _, y0, y1, y2, y3, y4, _, _, _, _, _, _, _⟩ := FY
  go_enter Try.func76, Try.ntmps76
  go_wp2
  go_ret
  exact ⟨rfl, bnew (bnew (Below.refl _ _) _) _⟩

set_option maxRecDepth 100000 in
set_option maxHeartbeats 8000000 in
theorem sc_exp (a b : Cm.Cmd) (A B : Option Addr) (ca cb : Nat) (w : World) (d0 : ((a.op : Int) = (b.op : Int)) = True) (b0 : ((a.op : Int) == (b.op : Int)) = true) (d1 : ((a.ses : Int) = (b.ses : Int)) = True) (b1 : ((a.ses : Int) == (b.ses : Int)) = true) (d2 : ((a.seq : Int) = (b.seq : Int)) = True) (b2 : ((a.seq : Int) == (b.seq : Int)) = true) (d3 : (a.key.toList == b.key.toList) = true) (d4 : (a.val.toList == b.val.toList) = true) (d5 : (a.exp.toList == b.exp.toList) = false) :
    Calls Try.prog 76 #[.agg (cmdC a A ca), .agg (cmdC b B cb)] w fun e w' => e = .returned (.bool false) ∧ Below w.heap.size w w' := by
  have FX := cmdF a A ca
  have FY := cmdF b B cb
  generalize cmdC a A ca = X at FX ⊢
  generalize cmdC b B cb = Y at FY ⊢
  obtain ⟨hx, _, x0, x1, x2, x3, x4, x5, _, _, _, _, _, _⟩ := FX
  obtain ⟨hy, _, y0, y1, y2, y3, y4, y5, _, _, _, _, _, _⟩ := FY
  go_enter Try.func76, Try.ntmps76
  go_wp2
  go_ret
  exact ⟨rfl, bnew (bnew (Below.refl _ _) _) _⟩

end Go.Proofs.Ytlcgjlganmblpaa
namespace Go.Proofs.Ytlcgjlganmblpaa
open Go.RowKit

set_option maxRecDepth 100000 in
set_option maxHeartbeats 8000000 in
theorem sc_frm (a b : Cm.Cmd) (A B : Option Addr) (ca cb : Nat) (w : World) (d0 : ((a.op : Int) = (b.op : Int)) = True) (b0 : ((a.op : Int) == (b.op : Int)) = true) (d1 : ((a.ses : Int) = (b.ses : Int)) = True) (b1 : ((a.ses : Int) == (b.ses : Int)) = true) (d2 : ((a.seq : Int) = (b.seq : Int)) = True) (b2 : ((a.seq : Int) == (b.seq : Int)) = true) (d3 : (a.key.toList == b.key.toList) = true) (d4 : (a.val.toList == b.val.toList) = true) (d5 : (a.exp.toList == b.exp.toList) = true) (d6 : (a.frm.toList == b.frm.toList) = false) :
    Calls Try.prog 76 #[.agg (cmdC a A ca), .agg (cmdC b B cb)] w fun e w' => e = .returned (.bool false) ∧ Below w.heap.size w w' := by
  have FX := cmdF a A ca
  have FY := cmdF b B cb
  generalize cmdC a A ca = X at FX ⊢
  generalize cmdC b B cb = Y at FY ⊢
  obtain ⟨hx, _, x0, x1, x2, x3, x4, x5, x6, _, _, _, _, _⟩ := FX
  obtain ⟨hy, _, y0, y1, y2, y3, y4, y5, y6, _, _, _, _, _⟩ := FY
  go_enter Try.func76, Try.ntmps76
  go_wp2
  go_ret
  exact ⟨rfl, bnew (bnew (Below.refl _ _) _) _⟩

set_option maxRecDepth 100000 in
set_option maxHeartbeats 8000000 in
theorem sc_tto (a b : Cm.Cmd) (A B : Option Addr) (ca cb : Nat) (w : World) (d0 : ((a.op : Int) = (b.op : Int)) = True) (b0 : ((a.op : Int) == (b.op : Int)) = true) (d1 : ((a.ses : Int) = (b.ses : Int)) = True) (b1 : ((a.ses : Int) == (b.ses : Int)) = true) (d2 : ((a.seq : Int) = (b.seq : Int)) = True) (b2 : ((a.seq : Int) == (b.seq : Int)) = true) (d3 : (a.key.toList == b.key.toList) = true) (d4 : (a.val.toList == b.val.toList) = true) (d5 : (a.exp.toList == b.exp.toList) = true) (d6 : (a.frm.toList == b.frm.toList) = true) (d7 : (a.tto.toList == b.tto.toList) = false) :
    Calls Try.prog 76 #[.agg (cmdC a A ca), .agg (cmdC b B cb)] w fun e w' => e = .returned (.bool false) ∧ Below w.heap.size w w' := by
  have FX := cmdF a A ca
  have FY := cmdF b B cb
  generalize cmdC a A ca = X at FX ⊢
  generalize cmdC b B cb = Y at FY ⊢
  obtain ⟨hx, _, x0, x1, x2, x3, x4, x5, x6, x7, _, _, _, _⟩ := FX
  obtain ⟨hy, _, y0, y1, y2, y3, y4, y5, y6, y7, _, _, _, _⟩ := FY
  go_enter Try.func76, Try.ntmps76
  go_wp2
  go_ret
  exact ⟨rfl, bnew (bnew (Below.refl _ _) _) _⟩

set_option maxRecDepth 100000 in
set_option maxHeartbeats 8000000 in
theorem sc_lim (a b : Cm.Cmd) (A B : Option Addr) (ca cb : Nat) (w : World) (d0 : ((a.op : Int) = (b.op : Int)) = True) (b0 : ((a.op : Int) == (b.op : Int)) = true) (d1 : ((a.ses : Int) = (b.ses : Int)) = True) (b1 : ((a.ses : Int) == (b.ses : Int)) = true) (d2 : ((a.seq : Int) = (b.seq : Int)) = True) (b2 : ((a.seq : Int) == (b.seq : Int)) = true) (d3 : (a.key.toList == b.key.toList) = true) (d4 : (a.val.toList == b.val.toList) = true) (d5 : (a.exp.toList == b.exp.toList) = true) (d6 : (a.frm.toList == b.frm.toList) = true) (d7 : (a.tto.toList == b.tto.toList) = true) (b8 : ((a.lim : Int) == (b.lim : Int)) = false) (d8 : (a.lim : Int) ≠ (b.lim : Int)) :
    Calls Try.prog 76 #[.agg (cmdC a A ca), .agg (cmdC b B cb)] w fun e w' => e = .returned (.bool false) ∧ Below w.heap.size w w' := by
  have FX := cmdF a A ca
  have FY := cmdF b B cb
  generalize cmdC a A ca = X at FX ⊢
  generalize cmdC b B cb = Y at FY ⊢
  obtain ⟨hx, _, x0, x1, x2, x3, x4, x5, x6, x7, x8, _, _, _⟩ := FX
  obtain ⟨hy, _, y0, y1, y2, y3, y4, y5, y6, y7, y8, _, _, _⟩ := FY
  go_enter Try.func76, Try.ntmps76
  go_wp2
  go_ret
  exact ⟨rfl, bnew (bnew (Below.refl _ _) _) _⟩

end Go.Proofs.Ytlcgjlganmblpaa
