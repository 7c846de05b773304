/-
  wapentakeref03.Same walked: a field that differs.
  wapentakeref03.Same walked: a field that differs.
  wapentakeref03.Same walked: a field that differs.
  wapentakeref03.Same walked: a field that differs.
  wapentakeref03.Same walked: the parts; all of it.
-/
import Derived.Test.YtlcgjlganmblpaaRCmd
set_option linter.unusedSimpArgs false
set_option linter.unusedVariables false
namespace Go.Proofs.Ytlcgjlganmblpaa
open Go.RowKit

set_option maxRecDepth 100000 in
set_option maxHeartbeats 4000000 in
theorem same_op (a b : Cm.Cmd) (A B : Option Addr) (ca cb : Nat) (w : World)  (b0 : ((a.op : Int) != (b.op : Int)) = true) (d0 : (a.op : Int) ≠ (b.op : Int)) :
    Calls Try.prog 40 #[.agg (cmdC a A ca), .agg (cmdC b B cb)] w fun e w' => e = .returned (.bool false) ∧ Below w.heap.size w w' := by
  have FX := cmdF a A ca
  have FY := cmdF b B cb
  generalize cmdC a A ca = X at FX ⊢
  generalize cmdC b B cb = Y at FY ⊢
  obtain ⟨hx, _, x0, _, _, _, _, _, _, _, _, _, _, _⟩ := FX
  obtain ⟨hy, _, y0, _, _, _, _, _, _, _, _, _, _, _⟩ := FY
  go_enter Try.func40, Try.ntmps40
  go_wp2
  go_ret
  exact ⟨rfl, bnew (bnew (Below.refl _ _) _) _⟩

set_option maxRecDepth 100000 in
set_option maxHeartbeats 4000000 in
theorem same_ses (a b : Cm.Cmd) (A B : Option Addr) (ca cb : Nat) (w : World) (d0 : ((a.op : Int) = (b.op : Int)) = True) (b0 : ((a.op : Int) != (b.op : Int)) = false) (b1 : ((a.ses : Int) != (b.ses : Int)) = true) (d1 : (a.ses : Int) ≠ (b.ses : Int)) :
    Calls Try.prog 40 #[.agg (cmdC a A ca), .agg (cmdC b B cb)] w fun e w' => e = .returned (.bool false) ∧ Below w.heap.size w w' := by
  have FX := cmdF a A ca
  have FY := cmdF b B cb
  generalize cmdC a A ca = X at FX ⊢
  generalize cmdC b B cb = Y at FY ⊢
  obtain ⟨hx, _, x0, x1, _, _, _, _, _, _, _, _, _, _⟩ := FX
  obtain ⟨hy, _, y0, y1, _, _, _, _, _, _, _, _, _, _⟩ := FY
  go_enter Try.func40, Try.ntmps40
  go_wp2
  go_ret
  exact ⟨rfl, bnew (bnew (Below.refl _ _) _) _⟩

set_option maxRecDepth 100000 in
set_option maxHeartbeats 4000000 in
theorem same_seq (a b : Cm.Cmd) (A B : Option Addr) (ca cb : Nat) (w : World) (d0 : ((a.op : Int) = (b.op : Int)) = True) (b0 : ((a.op : Int) != (b.op : Int)) = false) (d1 : ((a.ses : Int) = (b.ses : Int)) = True) (b1 : ((a.ses : Int) != (b.ses : Int)) = false) (b2 : ((a.seq : Int) != (b.seq : Int)) = true) (d2 : (a.seq : Int) ≠ (b.seq : Int)) :
    Calls Try.prog 40 #[.agg (cmdC a A ca), .agg (cmdC b B cb)] w fun e w' => e = .returned (.bool false) ∧ Below w.heap.size w w' := by
  have FX := cmdF a A ca
  have FY := cmdF b B cb
  generalize cmdC a A ca = X at FX ⊢
  generalize cmdC b B cb = Y at FY ⊢
  obtain ⟨hx, _, x0, x1, x2, _, _, _, _, _, _, _, _, _⟩ := FX
  obtain ⟨hy, _, y0, y1, y2, _, _, _, _, _, _, _, _, _⟩ := FY
  go_enter Try.func40, Try.ntmps40
  go_wp2
  go_ret
  exact ⟨rfl, bnew (bnew (Below.refl _ _) _) _⟩

end Go.Proofs.Ytlcgjlganmblpaa
namespace Go.Proofs.Ytlcgjlganmblpaa
open Go.RowKit

set_option maxRecDepth 100000 in
set_option maxHeartbeats 4000000 in
theorem same_key (a b : Cm.Cmd) (A B : Option Addr) (ca cb : Nat) (w : World) (d0 : ((a.op : Int) = (b.op : Int)) = True) (b0 : ((a.op : Int) != (b.op : Int)) = false) (d1 : ((a.ses : Int) = (b.ses : Int)) = True) (b1 : ((a.ses : Int) != (b.ses : Int)) = false) (d2 : ((a.seq : Int) = (b.seq : Int)) = True) (b2 : ((a.seq : Int) != (b.seq : Int)) = false) (d3 : (a.key.toList == b.key.toList) = false) :
    Calls Try.prog 40 #[.agg (cmdC a A ca), .agg (cmdC b B cb)] w fun e w' => e = .returned (.bool false) ∧ Below w.heap.size w w' := by
  have FX := cmdF a A ca
  have FY := cmdF b B cb
  generalize cmdC a A ca = X at FX ⊢
  generalize cmdC b B cb = Y at FY ⊢
  obtain ⟨hx, _, x0, x1, x2, x3, _, _, _, _, _, _, _, _⟩ := FX
  obtain ⟨hy, _, y0, y1, y2, y3, _, _, _, _, _, _, _, _⟩ := FY
  go_enter Try.func40, Try.ntmps40
  go_wp2
  go_ret
  exact ⟨rfl, bnew (bnew (Below.refl _ _) _) _⟩

set_option maxRecDepth 100000 in
set_option maxHeartbeats 4000000 in
theorem same_val (a b : Cm.Cmd) (A B : Option Addr) (ca cb : Nat) (w : World) (d0 : ((a.op : Int) = (b.op : Int)) = True) (b0 : ((a.op : Int) != (b.op : Int)) = false) (d1 : ((a.ses : Int) = (b.ses : Int)) = True) (b1 : ((a.ses : Int) != (b.ses : Int)) = false) (d2 : ((a.seq : Int) = (b.seq : Int)) = True) (b2 : ((a.seq : Int) != (b.seq : Int)) = false) (d3 : (a.key.toList == b.key.toList) = true) (d4 : (a.val.toList == b.val.toList) = false) :
    Calls Try.prog 40 #[.agg (cmdC a A ca), .agg (cmdC b B cb)] w fun e w' => e = .returned (.bool false) ∧ Below w.heap.size w w' := by
  have FX := cmdF a A ca
  have FY := cmdF b B cb
  generalize cmdC a A ca = X at FX ⊢
  generalize cmdC b B cb = Y at FY ⊢
  obtain ⟨hx, _, x0, x1, x2, x3, x4, _, _, _, _, _, _, _⟩ := FX
  obtain ⟨hy, _, y0, y1, y2, y3, y4, _, _, _, _, _, _, _⟩ := FY
  go_enter Try.func40, Try.ntmps40
  go_wp2
  go_ret
  exact ⟨rfl, bnew (bnew (Below.refl _ _) _) _⟩

set_option maxRecDepth 100000 in
set_option maxHeartbeats 4000000 in
theorem same_exp (a b : Cm.Cmd) (A B : Option Addr) (ca cb : Nat) (w : World) (d0 : ((a.op : Int) = (b.op : Int)) = True) (b0 : ((a.op : Int) != (b.op : Int)) = false) (d1 : ((a.ses : Int) = (b.ses : Int)) = True) (b1 : ((a.ses : Int) != (b.ses : Int)) = false) (d2 : ((a.seq : Int) = (b.seq : Int)) = True) (b2 : ((a.seq : Int) != (b.seq : Int)) = false) (d3 : (a.key.toList == b.key.toList) = true) (d4 : (a.val.toList == b.val.toList) = true) (d5 : (a.exp.toList == b.exp.toList) = false) :
    Calls Try.prog 40 #[.agg (cmdC a A ca), .agg (cmdC b B cb)] w fun e w' => e = .returned (.bool false) ∧ Below w.heap.size w w' := by
  have FX := cmdF a A ca
  have FY := cmdF b B cb
  generalize cmdC a A ca = X at FX ⊢
  generalize cmdC b B cb = Y at FY ⊢
  obtain ⟨hx, _, x0, x1, x2, x3, x4, x5, _, _, _, _, _, _⟩ := FX
  obtain ⟨hy, _, y0, y1, y2, y3, y4, y5, _, _, _, _, _, _⟩ := FY
  go_enter Try.func40, Try.ntmps40
  go_wp2
  go_ret
  exact ⟨rfl, bnew (bnew (Below.refl _ _) _) _⟩

end Go.Proofs.Ytlcgjlganmblpaa
namespace Go.Proofs.Ytlcgjlganmblpaa
open Go.RowKit

set_option maxRecDepth 100000 in
set_option maxHeartbeats 4000000 in
theorem same_frm (a b : Cm.Cmd) (A B : Option Addr) (ca cb : Nat) (w : World) (d0 : ((a.op : Int) = (b.op : Int)) = True) (b0 : ((a.op : Int) != (b.op : Int)) = false) (d1 : ((a.ses : Int) = (b.ses : Int)) = True) (b1 : ((a.ses : Int) != (b.ses : Int)) = false) (d2 : ((a.seq : Int) = (b.seq : Int)) = True) (b2 : ((a.seq : Int) != (b.seq : Int)) = false) (d3 : (a.key.toList == b.key.toList) = true) (d4 : (a.val.toList == b.val.toList) = true) (d5 : (a.exp.toList == b.exp.toList) = true) (d6 : (a.frm.toList == b.frm.toList) = false) :
    Calls Try.prog 40 #[.agg (cmdC a A ca), .agg (cmdC b B cb)] w fun e w' => e = .returned (.bool false) ∧ Below w.heap.size w w' := by
  have FX := cmdF a A ca
  have FY := cmdF b B cb
  generalize cmdC a A ca = X at FX ⊢
  generalize cmdC b B cb = Y at FY ⊢
  obtain ⟨hx, _, x0, x1, x2, x3, x4, x5, x6, _, _, _, _, _⟩ := FX
  obtain ⟨hy, _, y0, y1, y2, y3, y4, y5, y6, _, _, _, _, _⟩ := FY
  go_enter Try.func40, Try.ntmps40
  go_wp2
  go_ret
  exact ⟨rfl, bnew (bnew (Below.refl _ _) _) _⟩

set_option maxRecDepth 100000 in
set_option maxHeartbeats 4000000 in
theorem same_tto (a b : Cm.Cmd) (A B : Option Addr) (ca cb : Nat) (w : World) (d0 : ((a.op : Int) = (b.op : Int)) = True) (b0 : ((a.op : Int) != (b.op : Int)) = false) (d1 : ((a.ses : Int) = (b.ses : Int)) = True) (b1 : ((a.ses : Int) != (b.ses : Int)) = false) (d2 : ((a.seq : Int) = (b.seq : Int)) = True) (b2 : ((a.seq : Int) != (b.seq : Int)) = false) (d3 : (a.key.toList == b.key.toList) = true) (d4 : (a.val.toList == b.val.toList) = true) (d5 : (a.exp.toList == b.exp.toList) = true) (d6 : (a.frm.toList == b.frm.toList) = true) (d7 : (a.tto.toList == b.tto.toList) = false) :
    Calls Try.prog 40 #[.agg (cmdC a A ca), .agg (cmdC b B cb)] w fun e w' => e = .returned (.bool false) ∧ Below w.heap.size w w' := by
  have FX := cmdF a A ca
  have FY := cmdF b B cb
  generalize cmdC a A ca = X at FX ⊢
  generalize cmdC b B cb = Y at FY ⊢
  obtain ⟨hx, _, x0, x1, x2, x3, x4, x5, x6, x7, _, _, _, _⟩ := FX
  obtain ⟨hy, _, y0, y1, y2, y3, y4, y5, y6, y7, _, _, _, _⟩ := FY
  go_enter Try.func40, Try.ntmps40
  go_wp2
  go_ret
  exact ⟨rfl, bnew (bnew (Below.refl _ _) _) _⟩

set_option maxRecDepth 100000 in
set_option maxHeartbeats 4000000 in
theorem same_lim (a b : Cm.Cmd) (A B : Option Addr) (ca cb : Nat) (w : World) (d0 : ((a.op : Int) = (b.op : Int)) = True) (b0 : ((a.op : Int) != (b.op : Int)) = false) (d1 : ((a.ses : Int) = (b.ses : Int)) = True) (b1 : ((a.ses : Int) != (b.ses : Int)) = false) (d2 : ((a.seq : Int) = (b.seq : Int)) = True) (b2 : ((a.seq : Int) != (b.seq : Int)) = false) (d3 : (a.key.toList == b.key.toList) = true) (d4 : (a.val.toList == b.val.toList) = true) (d5 : (a.exp.toList == b.exp.toList) = true) (d6 : (a.frm.toList == b.frm.toList) = true) (d7 : (a.tto.toList == b.tto.toList) = true) (b8 : ((a.lim : Int) != (b.lim : Int)) = true) (d8 : (a.lim : Int) ≠ (b.lim : Int)) :
    Calls Try.prog 40 #[.agg (cmdC a A ca), .agg (cmdC b B cb)] w fun e w' => e = .returned (.bool false) ∧ Below w.heap.size w w' := by
  have FX := cmdF a A ca
  have FY := cmdF b B cb
  generalize cmdC a A ca = X at FX ⊢
  generalize cmdC b B cb = Y at FY ⊢
  obtain ⟨hx, _, x0, x1, x2, x3, x4, x5, x6, x7, x8, _, _, _⟩ := FX
  obtain ⟨hy, _, y0, y1, y2, y3, y4, y5, y6, y7, y8, _, _, _⟩ := FY
  go_enter Try.func40, Try.ntmps40
  go_wp2
  go_ret
  exact ⟨rfl, bnew (bnew (Below.refl _ _) _) _⟩

end Go.Proofs.Ytlcgjlganmblpaa
namespace Go.Proofs.Ytlcgjlganmblpaa
open Go.RowKit

set_option maxRecDepth 100000 in
set_option maxHeartbeats 4000000 in
theorem same_lease (a b : Cm.Cmd) (A B : Option Addr) (ca cb : Nat) (w : World) (d0 : ((a.op : Int) = (b.op : Int)) = True) (b0 : ((a.op : Int) != (b.op : Int)) = false) (d1 : ((a.ses : Int) = (b.ses : Int)) = True) (b1 : ((a.ses : Int) != (b.ses : Int)) = false) (d2 : ((a.seq : Int) = (b.seq : Int)) = True) (b2 : ((a.seq : Int) != (b.seq : Int)) = false) (d3 : (a.key.toList == b.key.toList) = true) (d4 : (a.val.toList == b.val.toList) = true) (d5 : (a.exp.toList == b.exp.toList) = true) (d6 : (a.frm.toList == b.frm.toList) = true) (d7 : (a.tto.toList == b.tto.toList) = true) (d8 : ((a.lim : Int) = (b.lim : Int)) = True) (b8 : ((a.lim : Int) != (b.lim : Int)) = false) (b9 : ((a.lease : Int) != (b.lease : Int)) = true) (d9 : (a.lease : Int) ≠ (b.lease : Int)) :
    Calls Try.prog 40 #[.agg (cmdC a A ca), .agg (cmdC b B cb)] w fun e w' => e = .returned (.bool false) ∧ Below w.heap.size w w' := by
  have FX := cmdF a A ca
  have FY := cmdF b B cb
  generalize cmdC a A ca = X at FX ⊢
  generalize cmdC b B cb = Y at FY ⊢
  obtain ⟨hx, _, x0, x1, x2, x3, x4, x5, x6, x7, x8, x9, _, _⟩ := FX
  obtain ⟨hy, _, y0, y1, y2, y3, y4, y5, y6, y7, y8, y9, _, _⟩ := FY
  go_enter Try.func40, Try.ntmps40
  go_wp2
  go_ret
  exact ⟨rfl, bnew (bnew (Below.refl _ _) _) _⟩

set_option maxRecDepth 100000 in
set_option maxHeartbeats 4000000 in
theorem same_ttl (a b : Cm.Cmd) (A B : Option Addr) (ca cb : Nat) (w : World) (d0 : ((a.op : Int) = (b.op : Int)) = True) (b0 : ((a.op : Int) != (b.op : Int)) = false) (d1 : ((a.ses : Int) = (b.ses : Int)) = True) (b1 : ((a.ses : Int) != (b.ses : Int)) = false) (d2 : ((a.seq : Int) = (b.seq : Int)) = True) (b2 : ((a.seq : Int) != (b.seq : Int)) = false) (d3 : (a.key.toList == b.key.toList) = true) (d4 : (a.val.toList == b.val.toList) = true) (d5 : (a.exp.toList == b.exp.toList) = true) (d6 : (a.frm.toList == b.frm.toList) = true) (d7 : (a.tto.toList == b.tto.toList) = true) (d8 : ((a.lim : Int) = (b.lim : Int)) = True) (b8 : ((a.lim : Int) != (b.lim : Int)) = false) (d9 : ((a.lease : Int) = (b.lease : Int)) = True) (b9 : ((a.lease : Int) != (b.lease : Int)) = false) (b10 : ((a.ttl : Int) != (b.ttl : Int)) = true) (d10 : (a.ttl : Int) ≠ (b.ttl : Int)) :
    Calls Try.prog 40 #[.agg (cmdC a A ca), .agg (cmdC b B cb)] w fun e w' => e = .returned (.bool false) ∧ Below w.heap.size w w' := by
  have FX := cmdF a A ca
  have FY := cmdF b B cb
  generalize cmdC a A ca = X at FX ⊢
  generalize cmdC b B cb = Y at FY ⊢
  obtain ⟨hx, _, x0, x1, x2, x3, x4, x5, x6, x7, x8, x9, x10, _⟩ := FX
  obtain ⟨hy, _, y0, y1, y2, y3, y4, y5, y6, y7, y8, y9, y10, _⟩ := FY
  go_enter Try.func40, Try.ntmps40
  go_wp2
  go_ret
  exact ⟨rfl, bnew (bnew (Below.refl _ _) _) _⟩

set_option maxRecDepth 100000 in
set_option maxHeartbeats 4000000 in
theorem same_len (a b : Cm.Cmd) (A B : Option Addr) (ca cb : Nat) (w : World) (d0 : ((a.op : Int) = (b.op : Int)) = True) (b0 : ((a.op : Int) != (b.op : Int)) = false) (d1 : ((a.ses : Int) = (b.ses : Int)) = True) (b1 : ((a.ses : Int) != (b.ses : Int)) = false) (d2 : ((a.seq : Int) = (b.seq : Int)) = True) (b2 : ((a.seq : Int) != (b.seq : Int)) = false) (d3 : (a.key.toList == b.key.toList) = true) (d4 : (a.val.toList == b.val.toList) = true) (d5 : (a.exp.toList == b.exp.toList) = true) (d6 : (a.frm.toList == b.frm.toList) = true) (d7 : (a.tto.toList == b.tto.toList) = true) (d8 : ((a.lim : Int) = (b.lim : Int)) = True) (b8 : ((a.lim : Int) != (b.lim : Int)) = false) (d9 : ((a.lease : Int) = (b.lease : Int)) = True) (b9 : ((a.lease : Int) != (b.lease : Int)) = false) (d10 : ((a.ttl : Int) = (b.ttl : Int)) = True) (b10 : ((a.ttl : Int) != (b.ttl : Int)) = false) (b11 : ((a.parts.length : Int) != (b.parts.length : Int)) = true) (d11 : (a.parts.length : Int) ≠ (b.parts.length : Int)) :
    Calls Try.prog 40 #[.agg (cmdC a A ca), .agg (cmdC b B cb)] w fun e w' => e = .returned (.bool false) ∧ Below w.heap.size w w' := by
  have FX := cmdF a A ca
  have FY := cmdF b B cb
  generalize cmdC a A ca = X at FX ⊢
  generalize cmdC b B cb = Y at FY ⊢
  obtain ⟨hx, _, x0, x1, x2, x3, x4, x5, x6, x7, x8, x9, x10, x11⟩ := FX
  obtain ⟨hy, _, y0, y1, y2, y3, y4, y5, y6, y7, y8, y9, y10, y11⟩ := FY
  go_enter Try.func40, Try.ntmps40
  go_wp2
  go_ret
  exact ⟨rfl, bnew (bnew (Below.refl _ _) _) _⟩

end Go.Proofs.Ytlcgjlganmblpaa
namespace Go.Proofs.Ytlcgjlganmblpaa
open Go.RowKit
set_option maxRecDepth 100000 in
set_option maxHeartbeats 4000000 in
theorem same_parts (a b : Cm.Cmd) (A B : Option Addr) (ca cb : Nat) (w : World) (hA : Lies w A (pc a.parts)) (hB : Lies w B (pc b.parts)) (hn : a.parts.length ≤ 1000000) (hn2 : a.parts.length = b.parts.length)
    (d0 : ((a.op : Int) = (b.op : Int)) = True) (b0 : ((a.op : Int) != (b.op : Int)) = false) (d1 : ((a.ses : Int) = (b.ses : Int)) = True) (b1 : ((a.ses : Int) != (b.ses : Int)) = false) (d2 : ((a.seq : Int) = (b.seq : Int)) = True) (b2 : ((a.seq : Int) != (b.seq : Int)) = false) (d3 : (a.key.toList == b.key.toList) = true) (d4 : (a.val.toList == b.val.toList) = true) (d5 : (a.exp.toList == b.exp.toList) = true) (d6 : (a.frm.toList == b.frm.toList) = true) (d7 : (a.tto.toList == b.tto.toList) = true) (d8 : ((a.lim : Int) = (b.lim : Int)) = True) (b8 : ((a.lim : Int) != (b.lim : Int)) = false) (d9 : ((a.lease : Int) = (b.lease : Int)) = True) (b9 : ((a.lease : Int) != (b.lease : Int)) = false) (d10 : ((a.ttl : Int) = (b.ttl : Int)) = True) (b10 : ((a.ttl : Int) != (b.ttl : Int)) = false) (d11 : ((a.parts.length : Int) = (b.parts.length : Int)) = True) (b11 : ((a.parts.length : Int) != (b.parts.length : Int)) = false) :
    Calls Try.prog 40 #[.agg (cmdC a A ca), .agg (cmdC b B cb)] w fun e w' => e = .returned (.bool (Cm.sameL a.parts b.parts)) ∧ Below w.heap.size w w' := by
  have HA := Lib.hid hA
  have HB := Lib.hid hB
  have Hn := Lib.hid hn2
  clear hA hB hn2
  have FX := cmdF a A ca
  have FY := cmdF b B cb
  generalize cmdC a A ca = X at FX ⊢
  generalize cmdC b B cb = Y at FY ⊢
  obtain ⟨hx, _, x0, x1, x2, x3, x4, x5, x6, x7, x8, x9, x10, x11⟩ := FX
  obtain ⟨hy, _, y0, y1, y2, y3, y4, y5, y6, y7, y8, y9, y10, y11⟩ := FY
  go_enter Try.func40, Try.ntmps40
  go_wp2
  clear d0 d1 d2 d3 d4 d5 d6 d7 d8 d9 d10 d11 b0 b1 b2 b8 b9 b10 b11
  go_loopw [5] (fun i wr => ∃ k : Nat, k ≤ a.parts.length ∧ i = .int .i64 (k : Int) ∧ (∀ j, j < k → a.parts[j]? = b.parts[j]?) ∧ Below w.heap.size w wr ∧ wr.heap[w.heap.size]? = some (.cells X 30 (0, 0)) ∧ wr.heap[w.heap.size + 1]? = some (.cells Y 30 (0, 0))) (fun i _ => a.parts.length - (intOf i).toNat)
  case atStart => exact ⟨0, Nat.zero_le _, rfl, fun j hj => absurd hj (by omega), bnew (bnew (Below.refl _ _) _) _, by rw [Below.heap_alloc _ _ _ (by simp)]; exact heap_alloc_new w _, by have := heap_alloc_new (w.alloc (.cells X 30)) (.cells Y 30); rw [World.size_alloc] at this; exact this⟩
  case round =>
    obtain ⟨k, hk, rfl, hall, hb, hbx, hby⟩ := hrel
    have Hall := Lib.hid hall
    have Hb := Lib.hid hb
    clear hall hb
    by_cases hlt : k < a.parts.length
    · have hlt2 : k < b.parts.length := by rw [← Hn.out]; exact hlt
      obtain ⟨ba, oa, rfl, hba, p0, p1, p2⟩ := HA.out.part k hlt
      obtain ⟨bb, ob, rfl, hbb, q0, q1, q2⟩ := HB.out.part k hlt2
      have c0 := cell_of_row wr w.heap.size 11 X _ _ hbx
      have c1 := cell_of_row wr (w.heap.size + 1) 11 Y _ _ hby
      rw [Array.getElem?_eq_getElem (by omega), x11] at c0
      rw [Array.getElem?_eq_getElem (by omega), y11] at c1
      have r0 : wr.cell? ⟨ba, oa + k * 3, none⟩ = _ := (Hb.out.cell (p := ⟨ba, oa + k * 3, none⟩) hba).trans p0
      have r1 : wr.cell? ⟨ba, oa + k * 3 + 1, none⟩ = _ := (Hb.out.cell (p := ⟨ba, oa + k * 3 + 1, none⟩) hba).trans p1
      have r2 : wr.cell? ⟨ba, oa + k * 3 + 2, none⟩ = _ := (Hb.out.cell (p := ⟨ba, oa + k * 3 + 2, none⟩) hba).trans p2
      have s0 : wr.cell? ⟨bb, ob + k * 3, none⟩ = _ := (Hb.out.cell (p := ⟨bb, ob + k * 3, none⟩) hbb).trans q0
      have s1 : wr.cell? ⟨bb, ob + k * 3 + 1, none⟩ = _ := (Hb.out.cell (p := ⟨bb, ob + k * 3 + 1, none⟩) hbb).trans q1
      have s2 : wr.cell? ⟨bb, ob + k * 3 + 2, none⟩ = _ := (Hb.out.cell (p := ⟨bb, ob + k * 3 + 2, none⟩) hbb).trans q2
      obtain ⟨p, hp⟩ : ∃ p, p = a.parts[k] := ⟨_, rfl⟩
      obtain ⟨q, hq⟩ : ∃ q, q = b.parts[k] := ⟨_, rfl⟩
      have hgp : a.parts[k]? = some p := by rw [hp, List.getElem?_eq_getElem]
      have hgq : b.parts[k]? = some q := by rw [hq, List.getElem?_eq_getElem]
      rw [← hp] at r0 r1 r2
      rw [← hq] at s0 s1 s2
      have HG := Lib.hid (And.intro hgp hgq)
      have Hx := Lib.hid hbx
      have Hy := Lib.hid hby
      clear hp hq hgp hgq p0 p1 p2 q0 q1 q2 hbx hby x0 x1 x2 x3 x4 x5 x6 x7 x8 x9 x10 x11 y0 y1 y2 y3 y4 y5 y6 y7 y8 y9 y10 y11
      have hne := part_neq p q
      cases hs : Cm.sameP p q
      · rw [hs] at hne
        have Hfin : Hid (Cm.sameL a.parts b.parts = false) := Lib.hid (by
          rw [Bool.eq_false_iff]; intro e
          have e2 := (Cm.sameL_iff _ _).1 e
          have := HG.out
          rw [e2] at this
          have e3 : p = q := by simpa using this.1.symm.trans this.2
          rw [(Cm.sameP_iff p q).2 e3] at hs; cases hs)
        clear hs
        go_wp2
        go_quiet (fail)
        go_wp2
        go_ret
        exact ⟨by rw [Hfin.out]; rfl, below_drewN Hb.out _⟩
      · rw [hs] at hne
        have Hs := Lib.hid ((Cm.sameP_iff p q).1 hs)
        clear hs
        go_wp2
        go_quiet (fail)
        go_wp2
        go_roundw
        case rel => exact ⟨k + 1, by omega, by go_num, fun j hj => (by
          by_cases e : j = k
          · subst e; rw [HG.out.1, HG.out.2, Hs.out]
          · exact Hall.out j (by omega)), below_drewN Hb.out _, Hx.out, Hy.out⟩
        case measure => simp [intOf]; omega
    · obtain rfl : k = a.parts.length := by omega
      have Hfin : Hid (Cm.sameL a.parts b.parts = true) := Lib.hid (by
        rw [Cm.sameL_iff]
        apply List.ext_getElem?
        intro j
        by_cases hj : j < a.parts.length
        · exact Hall.out j hj
        · rw [List.getElem?_eq_none (by omega), List.getElem?_eq_none (by rw [← Hn.out]; omega)])
      have c0 := cell_of_row wr w.heap.size 11 X _ _ hbx
      rw [Array.getElem?_eq_getElem (by omega), x11] at c0
      clear hbx hby
      go_wp2
      go_ret
      exact ⟨by rw [Hfin.out]; rfl, Hb.out⟩

theorem same_no {a b : Cm.Cmd} (h : a ≠ b) : Cm.same a b = false := by
  rw [Bool.eq_false_iff]; intro e; exact h ((Cm.same_iff a b).1 e)
theorem ne_int {x y : Nat} (h : x ≠ y) : (x : Int) ≠ (y : Int) := by omega
theorem ne_int' {x y : Nat} (h : x ≠ y) : ((x : Int) != (y : Int)) = true := by rw [bne_iff_ne]; omega
theorem eq_int {x y : Nat} (h : x = y) : ((x : Int) = (y : Int)) = True := by rw [h]; simp
theorem eq_int' {x y : Nat} (h : x = y) : ((x : Int) != (y : Int)) = false := by rw [h]; simp
theorem ne_str {x y : ByteArray} (h : x ≠ y) : (x.toList == y.toList) = false := by
  rw [beq_eq_false_iff_ne]; intro e; exact h ((Cm.eqS_iff x y).1 (by unfold Cm.eqS; rw [e]; simp))
theorem eq_str {x y : ByteArray} (h : x = y) : (x.toList == y.toList) = true := by rw [h]; simp

theorem same_any (a b : Cm.Cmd) (A B : Option Addr) (ca cb : Nat) (w : World) (hA : Lies w A (pc a.parts)) (hB : Lies w B (pc b.parts)) (hn : a.parts.length ≤ 1000000) :
    Calls Try.prog 40 #[.agg (cmdC a A ca), .agg (cmdC b B cb)] w fun e w' => e = .returned (.bool (Cm.same a b)) ∧ Below w.heap.size w w' := by
  by_cases h0 : a.op = b.op
  case neg =>
    rw [same_no (fun e => h0 (by rw [e]))]
    exact same_op a b A B ca cb w  (ne_int' h0) (ne_int h0)
  by_cases h1 : a.ses = b.ses
  case neg =>
    rw [same_no (fun e => h1 (by rw [e]))]
    exact same_ses a b A B ca cb w (eq_int h0) (eq_int' h0) (ne_int' h1) (ne_int h1)
  by_cases h2 : a.seq = b.seq
  case neg =>
    rw [same_no (fun e => h2 (by rw [e]))]
    exact same_seq a b A B ca cb w (eq_int h0) (eq_int' h0) (eq_int h1) (eq_int' h1) (ne_int' h2) (ne_int h2)
  by_cases h3 : a.key = b.key
  case neg =>
    rw [same_no (fun e => h3 (by rw [e]))]
    exact same_key a b A B ca cb w (eq_int h0) (eq_int' h0) (eq_int h1) (eq_int' h1) (eq_int h2) (eq_int' h2) (ne_str h3)
  by_cases h4 : a.val = b.val
  case neg =>
    rw [same_no (fun e => h4 (by rw [e]))]
    exact same_val a b A B ca cb w (eq_int h0) (eq_int' h0) (eq_int h1) (eq_int' h1) (eq_int h2) (eq_int' h2) (eq_str h3) (ne_str h4)
  by_cases h5 : a.exp = b.exp
  case neg =>
    rw [same_no (fun e => h5 (by rw [e]))]
    exact same_exp a b A B ca cb w (eq_int h0) (eq_int' h0) (eq_int h1) (eq_int' h1) (eq_int h2) (eq_int' h2) (eq_str h3) (eq_str h4) (ne_str h5)
  by_cases h6 : a.frm = b.frm
  case neg =>
    rw [same_no (fun e => h6 (by rw [e]))]
    exact same_frm a b A B ca cb w (eq_int h0) (eq_int' h0) (eq_int h1) (eq_int' h1) (eq_int h2) (eq_int' h2) (eq_str h3) (eq_str h4) (eq_str h5) (ne_str h6)
  by_cases h7 : a.tto = b.tto
  case neg =>
    rw [same_no (fun e => h7 (by rw [e]))]
    exact same_tto a b A B ca cb w (eq_int h0) (eq_int' h0) (eq_int h1) (eq_int' h1) (eq_int h2) (eq_int' h2) (eq_str h3) (eq_str h4) (eq_str h5) (eq_str h6) (ne_str h7)
  by_cases h8 : a.lim = b.lim
  case neg =>
    rw [same_no (fun e => h8 (by rw [e]))]
    exact same_lim a b A B ca cb w (eq_int h0) (eq_int' h0) (eq_int h1) (eq_int' h1) (eq_int h2) (eq_int' h2) (eq_str h3) (eq_str h4) (eq_str h5) (eq_str h6) (eq_str h7) (ne_int' h8) (ne_int h8)
  by_cases h9 : a.lease = b.lease
  case neg =>
    rw [same_no (fun e => h9 (by rw [e]))]
    exact same_lease a b A B ca cb w (eq_int h0) (eq_int' h0) (eq_int h1) (eq_int' h1) (eq_int h2) (eq_int' h2) (eq_str h3) (eq_str h4) (eq_str h5) (eq_str h6) (eq_str h7) (eq_int h8) (eq_int' h8) (ne_int' h9) (ne_int h9)
  by_cases h10 : a.ttl = b.ttl
  case neg =>
    rw [same_no (fun e => h10 (by rw [e]))]
    exact same_ttl a b A B ca cb w (eq_int h0) (eq_int' h0) (eq_int h1) (eq_int' h1) (eq_int h2) (eq_int' h2) (eq_str h3) (eq_str h4) (eq_str h5) (eq_str h6) (eq_str h7) (eq_int h8) (eq_int' h8) (eq_int h9) (eq_int' h9) (ne_int' h10) (ne_int h10)
  by_cases h11 : a.parts.length = b.parts.length
  case neg =>
    rw [same_no (fun e => h11 (by rw [e]))]
    exact same_len a b A B ca cb w (eq_int h0) (eq_int' h0) (eq_int h1) (eq_int' h1) (eq_int h2) (eq_int' h2) (eq_str h3) (eq_str h4) (eq_str h5) (eq_str h6) (eq_str h7) (eq_int h8) (eq_int' h8) (eq_int h9) (eq_int' h9) (eq_int h10) (eq_int' h10) (ne_int' h11) (ne_int h11)
  have e : Cm.same a b = Cm.sameL a.parts b.parts := by
    unfold Cm.same Cm.sameF
    rw [h0, h1, h2, h3, h4, h5, h6, h7, h8, h9, h10, h11]
    simp [Cm.eqS]
  rw [e]
  exact same_parts a b A B ca cb w hA hB hn h11 (eq_int h0) (eq_int' h0) (eq_int h1) (eq_int' h1) (eq_int h2) (eq_int' h2) (eq_str h3) (eq_str h4) (eq_str h5) (eq_str h6) (eq_str h7) (eq_int h8) (eq_int' h8) (eq_int h9) (eq_int' h9) (eq_int h10) (eq_int' h10) (eq_int h11) (eq_int' h11)
end Go.Proofs.Ytlcgjlganmblpaa
