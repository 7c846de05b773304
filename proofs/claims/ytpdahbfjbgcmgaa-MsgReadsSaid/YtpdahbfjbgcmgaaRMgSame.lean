/-
  Messages held against each other. WRITTEN BY wip/tools/gen_mgsame.py.
  msg.Same walked: a field that differs. WRITTEN BY wip/tools/gen_mgsame.py.
  msg.Same walked: a field that differs. WRITTEN BY wip/tools/gen_mgsame.py.
  msg.Same walked: all of it. WRITTEN BY wip/tools/gen_mgsame.py.
-/
import Derived.Test.YtpdahbfjbgcmgaaRMgA
set_option linter.unusedSimpArgs false
set_option linter.unusedVariables false
namespace Go.Proofs.Ytpdahbfjbgcmgaa
open Go.RowKit
theorem eqq_t {a b : Nat} (h : a = b) : ((a : Int) == (b : Int)) = true := by simp [h]
theorem eqq_f {a b : Nat} (h : a ≠ b) : ((a : Int) == (b : Int)) = false := by simp; omega
theorem eqb {a b : Bool} (h : a = b) : (a == b) = true := by simp [h]
theorem neb {a b : Bool} (h : a ≠ b) : (a == b) = false := by simpa using h
noncomputable instance : DecidableEq Mg.M := fun _ _ => Classical.propDecidable _
theorem msg_ne {a b : Mg.M} (h : a ≠ b) : decide (a = b) = false := decide_eq_false h
end Go.Proofs.Ytpdahbfjbgcmgaa
namespace Go.Proofs.Ytpdahbfjbgcmgaa
open Go.RowKit
set_option maxRecDepth 100000 in
set_option maxHeartbeats 8000000 in
theorem ms_kind (a b : Mg.M) (A B : Option Addr) (ca cb : Nat) (w : World)  (b0 : ((a.kind : Int) == (b.kind : Int)) = false) (d0 : ((a.kind : Int) = (b.kind : Int)) = False) :
    Calls Try.prog 40 #[.agg (msgC a A ca), .agg (msgC b B cb)] w fun e w' => e = .returned (.bool false) ∧ Below w.heap.size w w' := by
  have FX := msgF a A ca
  have FY := msgF b B cb
  generalize msgC a A ca = X at FX ⊢
  generalize msgC b B cb = Y at FY ⊢
  obtain ⟨hx, _, x0, x1, x2, x3, x4, x5, x6, x7, x8, x9, x10, x11, x12⟩ := FX
  obtain ⟨hy, _, y0, y1, y2, y3, y4, y5, y6, y7, y8, y9, y10, y11, y12⟩ := FY
  clear x1 y1 x2 y2 x3 y3 x4 y4 x5 y5 x6 y6 x7 y7 x8 y8 x9 y9 x10 y10 x11 y11 x12 y12
  go_enter Try.func40, Try.ntmps40
  go_wp2
  go_ret
  exact ⟨rfl, bnew (bnew (Below.refl _ _) _) _⟩
set_option maxRecDepth 100000 in
set_option maxHeartbeats 8000000 in
theorem ms_frm (a b : Mg.M) (A B : Option Addr) (ca cb : Nat) (w : World) (d0 : ((a.kind : Int) = (b.kind : Int)) = True) (b0 : ((a.kind : Int) == (b.kind : Int)) = true) (b1 : ((a.frm : Int) == (b.frm : Int)) = false) (d1 : ((a.frm : Int) = (b.frm : Int)) = False) :
    Calls Try.prog 40 #[.agg (msgC a A ca), .agg (msgC b B cb)] w fun e w' => e = .returned (.bool false) ∧ Below w.heap.size w w' := by
  have FX := msgF a A ca
  have FY := msgF b B cb
  generalize msgC a A ca = X at FX ⊢
  generalize msgC b B cb = Y at FY ⊢
  obtain ⟨hx, _, x0, x1, x2, x3, x4, x5, x6, x7, x8, x9, x10, x11, x12⟩ := FX
  obtain ⟨hy, _, y0, y1, y2, y3, y4, y5, y6, y7, y8, y9, y10, y11, y12⟩ := FY
  clear x2 y2 x3 y3 x4 y4 x5 y5 x6 y6 x7 y7 x8 y8 x9 y9 x10 y10 x11 y11 x12 y12
  go_enter Try.func40, Try.ntmps40
  go_wp2
  go_ret
  exact ⟨rfl, bnew (bnew (Below.refl _ _) _) _⟩
set_option maxRecDepth 100000 in
set_option maxHeartbeats 8000000 in
theorem ms_tto (a b : Mg.M) (A B : Option Addr) (ca cb : Nat) (w : World) (d0 : ((a.kind : Int) = (b.kind : Int)) = True) (b0 : ((a.kind : Int) == (b.kind : Int)) = true) (d1 : ((a.frm : Int) = (b.frm : Int)) = True) (b1 : ((a.frm : Int) == (b.frm : Int)) = true) (b2 : ((a.tto : Int) == (b.tto : Int)) = false) (d2 : ((a.tto : Int) = (b.tto : Int)) = False) :
    Calls Try.prog 40 #[.agg (msgC a A ca), .agg (msgC b B cb)] w fun e w' => e = .returned (.bool false) ∧ Below w.heap.size w w' := by
  have FX := msgF a A ca
  have FY := msgF b B cb
  generalize msgC a A ca = X at FX ⊢
  generalize msgC b B cb = Y at FY ⊢
  obtain ⟨hx, _, x0, x1, x2, x3, x4, x5, x6, x7, x8, x9, x10, x11, x12⟩ := FX
  obtain ⟨hy, _, y0, y1, y2, y3, y4, y5, y6, y7, y8, y9, y10, y11, y12⟩ := FY
  clear x3 y3 x4 y4 x5 y5 x6 y6 x7 y7 x8 y8 x9 y9 x10 y10 x11 y11 x12 y12
  go_enter Try.func40, Try.ntmps40
  go_wp2
  go_ret
  exact ⟨rfl, bnew (bnew (Below.refl _ _) _) _⟩
set_option maxRecDepth 100000 in
set_option maxHeartbeats 8000000 in
theorem ms_trm (a b : Mg.M) (A B : Option Addr) (ca cb : Nat) (w : World) (d0 : ((a.kind : Int) = (b.kind : Int)) = True) (b0 : ((a.kind : Int) == (b.kind : Int)) = true) (d1 : ((a.frm : Int) = (b.frm : Int)) = True) (b1 : ((a.frm : Int) == (b.frm : Int)) = true) (d2 : ((a.tto : Int) = (b.tto : Int)) = True) (b2 : ((a.tto : Int) == (b.tto : Int)) = true) (b3 : ((a.trm : Int) == (b.trm : Int)) = false) (d3 : ((a.trm : Int) = (b.trm : Int)) = False) :
    Calls Try.prog 40 #[.agg (msgC a A ca), .agg (msgC b B cb)] w fun e w' => e = .returned (.bool false) ∧ Below w.heap.size w w' := by
  have FX := msgF a A ca
  have FY := msgF b B cb
  generalize msgC a A ca = X at FX ⊢
  generalize msgC b B cb = Y at FY ⊢
  obtain ⟨hx, _, x0, x1, x2, x3, x4, x5, x6, x7, x8, x9, x10, x11, x12⟩ := FX
  obtain ⟨hy, _, y0, y1, y2, y3, y4, y5, y6, y7, y8, y9, y10, y11, y12⟩ := FY
  clear x4 y4 x5 y5 x6 y6 x7 y7 x8 y8 x9 y9 x10 y10 x11 y11 x12 y12
  go_enter Try.func40, Try.ntmps40
  go_wp2
  go_ret
  exact ⟨rfl, bnew (bnew (Below.refl _ _) _) _⟩
set_option maxRecDepth 100000 in
set_option maxHeartbeats 8000000 in
theorem ms_idx (a b : Mg.M) (A B : Option Addr) (ca cb : Nat) (w : World) (d0 : ((a.kind : Int) = (b.kind : Int)) = True) (b0 : ((a.kind : Int) == (b.kind : Int)) = true) (d1 : ((a.frm : Int) = (b.frm : Int)) = True) (b1 : ((a.frm : Int) == (b.frm : Int)) = true) (d2 : ((a.tto : Int) = (b.tto : Int)) = True) (b2 : ((a.tto : Int) == (b.tto : Int)) = true) (d3 : ((a.trm : Int) = (b.trm : Int)) = True) (b3 : ((a.trm : Int) == (b.trm : Int)) = true) (b4 : ((a.idx : Int) == (b.idx : Int)) = false) (d4 : ((a.idx : Int) = (b.idx : Int)) = False) :
    Calls Try.prog 40 #[.agg (msgC a A ca), .agg (msgC b B cb)] w fun e w' => e = .returned (.bool false) ∧ Below w.heap.size w w' := by
  have FX := msgF a A ca
  have FY := msgF b B cb
  generalize msgC a A ca = X at FX ⊢
  generalize msgC b B cb = Y at FY ⊢
  obtain ⟨hx, _, x0, x1, x2, x3, x4, x5, x6, x7, x8, x9, x10, x11, x12⟩ := FX
  obtain ⟨hy, _, y0, y1, y2, y3, y4, y5, y6, y7, y8, y9, y10, y11, y12⟩ := FY
  clear x5 y5 x6 y6 x7 y7 x8 y8 x9 y9 x10 y10 x11 y11 x12 y12
  go_enter Try.func40, Try.ntmps40
  go_wp2
  go_ret
  exact ⟨rfl, bnew (bnew (Below.refl _ _) _) _⟩
set_option maxRecDepth 100000 in
set_option maxHeartbeats 8000000 in
theorem ms_ltm (a b : Mg.M) (A B : Option Addr) (ca cb : Nat) (w : World) (d0 : ((a.kind : Int) = (b.kind : Int)) = True) (b0 : ((a.kind : Int) == (b.kind : Int)) = true) (d1 : ((a.frm : Int) = (b.frm : Int)) = True) (b1 : ((a.frm : Int) == (b.frm : Int)) = true) (d2 : ((a.tto : Int) = (b.tto : Int)) = True) (b2 : ((a.tto : Int) == (b.tto : Int)) = true) (d3 : ((a.trm : Int) = (b.trm : Int)) = True) (b3 : ((a.trm : Int) == (b.trm : Int)) = true) (d4 : ((a.idx : Int) = (b.idx : Int)) = True) (b4 : ((a.idx : Int) == (b.idx : Int)) = true) (b5 : ((a.ltm : Int) == (b.ltm : Int)) = false) (d5 : ((a.ltm : Int) = (b.ltm : Int)) = False) :
    Calls Try.prog 40 #[.agg (msgC a A ca), .agg (msgC b B cb)] w fun e w' => e = .returned (.bool false) ∧ Below w.heap.size w w' := by
  have FX := msgF a A ca
  have FY := msgF b B cb
  generalize msgC a A ca = X at FX ⊢
  generalize msgC b B cb = Y at FY ⊢
  obtain ⟨hx, _, x0, x1, x2, x3, x4, x5, x6, x7, x8, x9, x10, x11, x12⟩ := FX
  obtain ⟨hy, _, y0, y1, y2, y3, y4, y5, y6, y7, y8, y9, y10, y11, y12⟩ := FY
  clear x6 y6 x7 y7 x8 y8 x9 y9 x10 y10 x11 y11 x12 y12
  go_enter Try.func40, Try.ntmps40
  go_wp2
  go_ret
  exact ⟨rfl, bnew (bnew (Below.refl _ _) _) _⟩
end Go.Proofs.Ytpdahbfjbgcmgaa
namespace Go.Proofs.Ytpdahbfjbgcmgaa
open Go.RowKit
set_option maxRecDepth 100000 in
set_option maxHeartbeats 8000000 in
theorem ms_com (a b : Mg.M) (A B : Option Addr) (ca cb : Nat) (w : World) (d0 : ((a.kind : Int) = (b.kind : Int)) = True) (b0 : ((a.kind : Int) == (b.kind : Int)) = true) (d1 : ((a.frm : Int) = (b.frm : Int)) = True) (b1 : ((a.frm : Int) == (b.frm : Int)) = true) (d2 : ((a.tto : Int) = (b.tto : Int)) = True) (b2 : ((a.tto : Int) == (b.tto : Int)) = true) (d3 : ((a.trm : Int) = (b.trm : Int)) = True) (b3 : ((a.trm : Int) == (b.trm : Int)) = true) (d4 : ((a.idx : Int) = (b.idx : Int)) = True) (b4 : ((a.idx : Int) == (b.idx : Int)) = true) (d5 : ((a.ltm : Int) = (b.ltm : Int)) = True) (b5 : ((a.ltm : Int) == (b.ltm : Int)) = true) (b6 : ((a.com : Int) == (b.com : Int)) = false) (d6 : ((a.com : Int) = (b.com : Int)) = False) :
    Calls Try.prog 40 #[.agg (msgC a A ca), .agg (msgC b B cb)] w fun e w' => e = .returned (.bool false) ∧ Below w.heap.size w w' := by
  have FX := msgF a A ca
  have FY := msgF b B cb
  generalize msgC a A ca = X at FX ⊢
  generalize msgC b B cb = Y at FY ⊢
  obtain ⟨hx, _, x0, x1, x2, x3, x4, x5, x6, x7, x8, x9, x10, x11, x12⟩ := FX
  obtain ⟨hy, _, y0, y1, y2, y3, y4, y5, y6, y7, y8, y9, y10, y11, y12⟩ := FY
  clear x7 y7 x8 y8 x9 y9 x10 y10 x11 y11 x12 y12
  go_enter Try.func40, Try.ntmps40
  go_wp2
  go_ret
  exact ⟨rfl, bnew (bnew (Below.refl _ _) _) _⟩
set_option maxRecDepth 100000 in
set_option maxHeartbeats 8000000 in
theorem ms_rnd (a b : Mg.M) (A B : Option Addr) (ca cb : Nat) (w : World) (d0 : ((a.kind : Int) = (b.kind : Int)) = True) (b0 : ((a.kind : Int) == (b.kind : Int)) = true) (d1 : ((a.frm : Int) = (b.frm : Int)) = True) (b1 : ((a.frm : Int) == (b.frm : Int)) = true) (d2 : ((a.tto : Int) = (b.tto : Int)) = True) (b2 : ((a.tto : Int) == (b.tto : Int)) = true) (d3 : ((a.trm : Int) = (b.trm : Int)) = True) (b3 : ((a.trm : Int) == (b.trm : Int)) = true) (d4 : ((a.idx : Int) = (b.idx : Int)) = True) (b4 : ((a.idx : Int) == (b.idx : Int)) = true) (d5 : ((a.ltm : Int) = (b.ltm : Int)) = True) (b5 : ((a.ltm : Int) == (b.ltm : Int)) = true) (d6 : ((a.com : Int) = (b.com : Int)) = True) (b6 : ((a.com : Int) == (b.com : Int)) = true) (b7 : ((a.rnd : Int) == (b.rnd : Int)) = false) (d7 : ((a.rnd : Int) = (b.rnd : Int)) = False) :
    Calls Try.prog 40 #[.agg (msgC a A ca), .agg (msgC b B cb)] w fun e w' => e = .returned (.bool false) ∧ Below w.heap.size w w' := by
  have FX := msgF a A ca
  have FY := msgF b B cb
  generalize msgC a A ca = X at FX ⊢
  generalize msgC b B cb = Y at FY ⊢
  obtain ⟨hx, _, x0, x1, x2, x3, x4, x5, x6, x7, x8, x9, x10, x11, x12⟩ := FX
  obtain ⟨hy, _, y0, y1, y2, y3, y4, y5, y6, y7, y8, y9, y10, y11, y12⟩ := FY
  clear x8 y8 x9 y9 x10 y10 x11 y11 x12 y12
  go_enter Try.func40, Try.ntmps40
  go_wp2
  go_ret
  exact ⟨rfl, bnew (bnew (Below.refl _ _) _) _⟩
set_option maxRecDepth 100000 in
set_option maxHeartbeats 8000000 in
theorem ms_ok (a b : Mg.M) (A B : Option Addr) (ca cb : Nat) (w : World) (d0 : ((a.kind : Int) = (b.kind : Int)) = True) (b0 : ((a.kind : Int) == (b.kind : Int)) = true) (d1 : ((a.frm : Int) = (b.frm : Int)) = True) (b1 : ((a.frm : Int) == (b.frm : Int)) = true) (d2 : ((a.tto : Int) = (b.tto : Int)) = True) (b2 : ((a.tto : Int) == (b.tto : Int)) = true) (d3 : ((a.trm : Int) = (b.trm : Int)) = True) (b3 : ((a.trm : Int) == (b.trm : Int)) = true) (d4 : ((a.idx : Int) = (b.idx : Int)) = True) (b4 : ((a.idx : Int) == (b.idx : Int)) = true) (d5 : ((a.ltm : Int) = (b.ltm : Int)) = True) (b5 : ((a.ltm : Int) == (b.ltm : Int)) = true) (d6 : ((a.com : Int) = (b.com : Int)) = True) (b6 : ((a.com : Int) == (b.com : Int)) = true) (d7 : ((a.rnd : Int) = (b.rnd : Int)) = True) (b7 : ((a.rnd : Int) == (b.rnd : Int)) = true) (b8 : (a.ok == b.ok) = false) :
    Calls Try.prog 40 #[.agg (msgC a A ca), .agg (msgC b B cb)] w fun e w' => e = .returned (.bool false) ∧ Below w.heap.size w w' := by
  have FX := msgF a A ca
  have FY := msgF b B cb
  generalize msgC a A ca = X at FX ⊢
  generalize msgC b B cb = Y at FY ⊢
  obtain ⟨hx, _, x0, x1, x2, x3, x4, x5, x6, x7, x8, x9, x10, x11, x12⟩ := FX
  obtain ⟨hy, _, y0, y1, y2, y3, y4, y5, y6, y7, y8, y9, y10, y11, y12⟩ := FY
  clear x9 y9 x10 y10 x11 y11 x12 y12
  go_enter Try.func40, Try.ntmps40
  go_wp2
  go_ret
  exact ⟨rfl, bnew (bnew (Below.refl _ _) _) _⟩
set_option maxRecDepth 100000 in
set_option maxHeartbeats 8000000 in
theorem ms_mem (a b : Mg.M) (A B : Option Addr) (ca cb : Nat) (w : World) (d0 : ((a.kind : Int) = (b.kind : Int)) = True) (b0 : ((a.kind : Int) == (b.kind : Int)) = true) (d1 : ((a.frm : Int) = (b.frm : Int)) = True) (b1 : ((a.frm : Int) == (b.frm : Int)) = true) (d2 : ((a.tto : Int) = (b.tto : Int)) = True) (b2 : ((a.tto : Int) == (b.tto : Int)) = true) (d3 : ((a.trm : Int) = (b.trm : Int)) = True) (b3 : ((a.trm : Int) == (b.trm : Int)) = true) (d4 : ((a.idx : Int) = (b.idx : Int)) = True) (b4 : ((a.idx : Int) == (b.idx : Int)) = true) (d5 : ((a.ltm : Int) = (b.ltm : Int)) = True) (b5 : ((a.ltm : Int) == (b.ltm : Int)) = true) (d6 : ((a.com : Int) = (b.com : Int)) = True) (b6 : ((a.com : Int) == (b.com : Int)) = true) (d7 : ((a.rnd : Int) = (b.rnd : Int)) = True) (b7 : ((a.rnd : Int) == (b.rnd : Int)) = true) (b8 : (a.ok == b.ok) = true) (b9 : ((a.mem : Int) == (b.mem : Int)) = false) (d9 : ((a.mem : Int) = (b.mem : Int)) = False) :
    Calls Try.prog 40 #[.agg (msgC a A ca), .agg (msgC b B cb)] w fun e w' => e = .returned (.bool false) ∧ Below w.heap.size w w' := by
  have FX := msgF a A ca
  have FY := msgF b B cb
  generalize msgC a A ca = X at FX ⊢
  generalize msgC b B cb = Y at FY ⊢
  obtain ⟨hx, _, x0, x1, x2, x3, x4, x5, x6, x7, x8, x9, x10, x11, x12⟩ := FX
  obtain ⟨hy, _, y0, y1, y2, y3, y4, y5, y6, y7, y8, y9, y10, y11, y12⟩ := FY
  clear x10 y10 x11 y11 x12 y12
  go_enter Try.func40, Try.ntmps40
  go_wp2
  go_ret
  exact ⟨rfl, bnew (bnew (Below.refl _ _) _) _⟩
set_option maxRecDepth 100000 in
set_option maxHeartbeats 8000000 in
theorem ms_sec (a b : Mg.M) (A B : Option Addr) (ca cb : Nat) (w : World) (d0 : ((a.kind : Int) = (b.kind : Int)) = True) (b0 : ((a.kind : Int) == (b.kind : Int)) = true) (d1 : ((a.frm : Int) = (b.frm : Int)) = True) (b1 : ((a.frm : Int) == (b.frm : Int)) = true) (d2 : ((a.tto : Int) = (b.tto : Int)) = True) (b2 : ((a.tto : Int) == (b.tto : Int)) = true) (d3 : ((a.trm : Int) = (b.trm : Int)) = True) (b3 : ((a.trm : Int) == (b.trm : Int)) = true) (d4 : ((a.idx : Int) = (b.idx : Int)) = True) (b4 : ((a.idx : Int) == (b.idx : Int)) = true) (d5 : ((a.ltm : Int) = (b.ltm : Int)) = True) (b5 : ((a.ltm : Int) == (b.ltm : Int)) = true) (d6 : ((a.com : Int) = (b.com : Int)) = True) (b6 : ((a.com : Int) == (b.com : Int)) = true) (d7 : ((a.rnd : Int) = (b.rnd : Int)) = True) (b7 : ((a.rnd : Int) == (b.rnd : Int)) = true) (b8 : (a.ok == b.ok) = true) (d9 : ((a.mem : Int) = (b.mem : Int)) = True) (b9 : ((a.mem : Int) == (b.mem : Int)) = true) (b10 : ((a.sec : Int) == (b.sec : Int)) = false) (d10 : ((a.sec : Int) = (b.sec : Int)) = False) :
    Calls Try.prog 40 #[.agg (msgC a A ca), .agg (msgC b B cb)] w fun e w' => e = .returned (.bool false) ∧ Below w.heap.size w w' := by
  have FX := msgF a A ca
  have FY := msgF b B cb
  generalize msgC a A ca = X at FX ⊢
  generalize msgC b B cb = Y at FY ⊢
  obtain ⟨hx, _, x0, x1, x2, x3, x4, x5, x6, x7, x8, x9, x10, x11, x12⟩ := FX
  obtain ⟨hy, _, y0, y1, y2, y3, y4, y5, y6, y7, y8, y9, y10, y11, y12⟩ := FY
  clear x11 y11 x12 y12
  go_enter Try.func40, Try.ntmps40
  go_wp2
  go_ret
  exact ⟨rfl, bnew (bnew (Below.refl _ _) _) _⟩
end Go.Proofs.Ytpdahbfjbgcmgaa
namespace Go.Proofs.Ytpdahbfjbgcmgaa
open Go.RowKit
set_option maxRecDepth 100000 in
set_option maxHeartbeats 8000000 in
theorem ms_rest (a b : Mg.M) (A B : Option Addr) (ca cb : Nat) (w : World) (hA : Lies w A (ec a.ents)) (hB : Lies w B (ec b.ents)) (hn : a.ents.length ≤ 1000000) (hm : b.ents.length ≤ 1000000) (d0 : ((a.kind : Int) = (b.kind : Int)) = True) (b0 : ((a.kind : Int) == (b.kind : Int)) = true) (d1 : ((a.frm : Int) = (b.frm : Int)) = True) (b1 : ((a.frm : Int) == (b.frm : Int)) = true) (d2 : ((a.tto : Int) = (b.tto : Int)) = True) (b2 : ((a.tto : Int) == (b.tto : Int)) = true) (d3 : ((a.trm : Int) = (b.trm : Int)) = True) (b3 : ((a.trm : Int) == (b.trm : Int)) = true) (d4 : ((a.idx : Int) = (b.idx : Int)) = True) (b4 : ((a.idx : Int) == (b.idx : Int)) = true) (d5 : ((a.ltm : Int) = (b.ltm : Int)) = True) (b5 : ((a.ltm : Int) == (b.ltm : Int)) = true) (d6 : ((a.com : Int) = (b.com : Int)) = True) (b6 : ((a.com : Int) == (b.com : Int)) = true) (d7 : ((a.rnd : Int) = (b.rnd : Int)) = True) (b7 : ((a.rnd : Int) == (b.rnd : Int)) = true) (b8 : (a.ok == b.ok) = true) (d9 : ((a.mem : Int) = (b.mem : Int)) = True) (b9 : ((a.mem : Int) == (b.mem : Int)) = true) (d10 : ((a.sec : Int) = (b.sec : Int)) = True) (b10 : ((a.sec : Int) == (b.sec : Int)) = true) :
    Calls Try.prog 40 #[.agg (msgC a A ca), .agg (msgC b B cb)] w fun e w' => e = .returned (.bool (decide (a.ents = b.ents) && (a.body.toList == b.body.toList))) ∧ Below w.heap.size w w' := by
  have HE : Hid (∀ W, Below w.heap.size w W → Calls Try.prog 89 #[.slice A a.ents.length ca, .slice B b.ents.length cb] W fun e w' => e = .returned (.bool (decide (a.ents = b.ents))) ∧ Below W.heap.size W w') := Lib.hid fun W hb => eeq_any a.ents b.ents A B ca cb W (hA.below hb) (hB.below hb) hn hm
  obtain ⟨d, hd⟩ : ∃ d, d = decide (a.ents = b.ents) := ⟨_, rfl⟩
  rw [← hd] at HE ⊢
  clear hA hB hn hm hd
  have FX := msgF a A ca
  have FY := msgF b B cb
  generalize msgC a A ca = X at FX ⊢
  generalize msgC b B cb = Y at FY ⊢
  obtain ⟨hx, _, x0, x1, x2, x3, x4, x5, x6, x7, x8, x9, x10, x11, x12⟩ := FX
  obtain ⟨hy, _, y0, y1, y2, y3, y4, y5, y6, y7, y8, y9, y10, y11, y12⟩ := FY
  have HR := Lib.hid (And.intro (Lies.new w X.toList 63) hx)
  have K12 : Hid (∀ w1, Below ((w.alloc (.cells X 63)).alloc (.cells Y 63)).heap.size ((w.alloc (.cells X 63)).alloc (.cells Y 63)) w1 → w1.cell? ⟨w.heap.size, 12, none⟩ = some (.string a.body) ∧ w1.cell? ⟨w.heap.size + 1, 12, none⟩ = some (.string b.body)) := Lib.hid fun w1 hb => by
    have h1 : w1.heap[w.heap.size]? = some (.cells X 63 (0, 0)) := (hb.block _ (by simp; omega)).trans ((Below.heap_alloc _ _ _ (by simp)).trans (heap_alloc_new w _))
    have h2 : w1.heap[w.heap.size + 1]? = some (.cells Y 63 (0, 0)) := by
      have := heap_alloc_new (w.alloc (.cells X 63)) (.cells Y 63)
      rw [World.size_alloc] at this
      exact (hb.block _ (by simp)).trans this
    have c1 := cell_of_row w1 _ 12 X _ _ h1
    have c2 := cell_of_row w1 _ 12 Y _ _ h2
    rw [Array.getElem?_eq_getElem (by omega), x12] at c1
    rw [Array.getElem?_eq_getElem (by omega), y12] at c2
    exact ⟨c1, c2⟩
  go_enter Try.func40, Try.ntmps40
  go_wp2_with fail
  refine (HE.out _ (bnew (bnew (Below.refl _ _) _) _)).mono ?_
  rintro e w1 ⟨rfl, hb1⟩
  obtain ⟨c1, c2⟩ := K12.out w1 hb1
  cases d
  · go_wp2_with fail
    go_ret
    exact ⟨rfl, bnext (bnew (bnew (Below.refl _ _) _) _) hb1⟩
  · go_wp2_with fail
    go_ret
    exact ⟨rfl, bnext (bnew (bnew (Below.refl _ _) _) _) hb1⟩
theorem same_any5 (a b : Mg.M) (A B : Option Addr) (ca cb : Nat) (w : World) (hA : Lies w A (ec a.ents)) (hB : Lies w B (ec b.ents)) (hn : a.ents.length ≤ 1000000) (hm : b.ents.length ≤ 1000000) :
    Calls Try.prog 40 #[.agg (msgC a A ca), .agg (msgC b B cb)] w fun e w' => e = .returned (.bool (decide (a = b))) ∧ Below w.heap.size w w' := by
  by_cases h0 : a.kind = b.kind
  case neg =>
    rw [msg_ne (fun e => h0 (by rw [e]))]
    exact ms_kind a b A B ca cb w  (eqq_f h0) (eqp_f h0)
  by_cases h1 : a.frm = b.frm
  case neg =>
    rw [msg_ne (fun e => h1 (by rw [e]))]
    exact ms_frm a b A B ca cb w (eqp_t h0) (eqq_t h0) (eqq_f h1) (eqp_f h1)
  by_cases h2 : a.tto = b.tto
  case neg =>
    rw [msg_ne (fun e => h2 (by rw [e]))]
    exact ms_tto a b A B ca cb w (eqp_t h0) (eqq_t h0) (eqp_t h1) (eqq_t h1) (eqq_f h2) (eqp_f h2)
  by_cases h3 : a.trm = b.trm
  case neg =>
    rw [msg_ne (fun e => h3 (by rw [e]))]
    exact ms_trm a b A B ca cb w (eqp_t h0) (eqq_t h0) (eqp_t h1) (eqq_t h1) (eqp_t h2) (eqq_t h2) (eqq_f h3) (eqp_f h3)
  by_cases h4 : a.idx = b.idx
  case neg =>
    rw [msg_ne (fun e => h4 (by rw [e]))]
    exact ms_idx a b A B ca cb w (eqp_t h0) (eqq_t h0) (eqp_t h1) (eqq_t h1) (eqp_t h2) (eqq_t h2) (eqp_t h3) (eqq_t h3) (eqq_f h4) (eqp_f h4)
  by_cases h5 : a.ltm = b.ltm
  case neg =>
    rw [msg_ne (fun e => h5 (by rw [e]))]
    exact ms_ltm a b A B ca cb w (eqp_t h0) (eqq_t h0) (eqp_t h1) (eqq_t h1) (eqp_t h2) (eqq_t h2) (eqp_t h3) (eqq_t h3) (eqp_t h4) (eqq_t h4) (eqq_f h5) (eqp_f h5)
  by_cases h6 : a.com = b.com
  case neg =>
    rw [msg_ne (fun e => h6 (by rw [e]))]
    exact ms_com a b A B ca cb w (eqp_t h0) (eqq_t h0) (eqp_t h1) (eqq_t h1) (eqp_t h2) (eqq_t h2) (eqp_t h3) (eqq_t h3) (eqp_t h4) (eqq_t h4) (eqp_t h5) (eqq_t h5) (eqq_f h6) (eqp_f h6)
  by_cases h7 : a.rnd = b.rnd
  case neg =>
    rw [msg_ne (fun e => h7 (by rw [e]))]
    exact ms_rnd a b A B ca cb w (eqp_t h0) (eqq_t h0) (eqp_t h1) (eqq_t h1) (eqp_t h2) (eqq_t h2) (eqp_t h3) (eqq_t h3) (eqp_t h4) (eqq_t h4) (eqp_t h5) (eqq_t h5) (eqp_t h6) (eqq_t h6) (eqq_f h7) (eqp_f h7)
  by_cases h8 : a.ok = b.ok
  case neg =>
    rw [msg_ne (fun e => h8 (by rw [e]))]
    exact ms_ok a b A B ca cb w (eqp_t h0) (eqq_t h0) (eqp_t h1) (eqq_t h1) (eqp_t h2) (eqq_t h2) (eqp_t h3) (eqq_t h3) (eqp_t h4) (eqq_t h4) (eqp_t h5) (eqq_t h5) (eqp_t h6) (eqq_t h6) (eqp_t h7) (eqq_t h7) (neb h8)
  by_cases h9 : a.mem = b.mem
  case neg =>
    rw [msg_ne (fun e => h9 (by rw [e]))]
    exact ms_mem a b A B ca cb w (eqp_t h0) (eqq_t h0) (eqp_t h1) (eqq_t h1) (eqp_t h2) (eqq_t h2) (eqp_t h3) (eqq_t h3) (eqp_t h4) (eqq_t h4) (eqp_t h5) (eqq_t h5) (eqp_t h6) (eqq_t h6) (eqp_t h7) (eqq_t h7) (eqb h8) (eqq_f h9) (eqp_f h9)
  by_cases h10 : a.sec = b.sec
  case neg =>
    rw [msg_ne (fun e => h10 (by rw [e]))]
    exact ms_sec a b A B ca cb w (eqp_t h0) (eqq_t h0) (eqp_t h1) (eqq_t h1) (eqp_t h2) (eqq_t h2) (eqp_t h3) (eqq_t h3) (eqp_t h4) (eqq_t h4) (eqp_t h5) (eqq_t h5) (eqp_t h6) (eqq_t h6) (eqp_t h7) (eqq_t h7) (eqb h8) (eqp_t h9) (eqq_t h9) (eqq_f h10) (eqp_f h10)
  have e : decide (a = b) = (decide (a.ents = b.ents) && (a.body.toList == b.body.toList)) := by
    rw [bytes_eq, Bool.eq_iff_iff, Bool.and_eq_true, decide_eq_true_iff, decide_eq_true_iff, decide_eq_true_iff]
    constructor
    · intro h; rw [h]; exact ⟨rfl, rfl⟩
    · rintro ⟨g1, g2⟩
      cases a; cases b
      simp only [] at *
      simp_all
  rw [e]
  exact ms_rest a b A B ca cb w hA hB hn hm (eqp_t h0) (eqq_t h0) (eqp_t h1) (eqq_t h1) (eqp_t h2) (eqq_t h2) (eqp_t h3) (eqq_t h3) (eqp_t h4) (eqq_t h4) (eqp_t h5) (eqq_t h5) (eqp_t h6) (eqq_t h6) (eqp_t h7) (eqq_t h7) (eqb h8) (eqp_t h9) (eqq_t h9) (eqp_t h10) (eqq_t h10)
end Go.Proofs.Ytpdahbfjbgcmgaa
