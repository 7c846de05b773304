/-
  cmd.sameCmd walked: a field that differs. WRITTEN BY wip/tools/gen_scmd.py.
  cmd.sameCmd walked: all of it. WRITTEN BY wip/tools/gen_scmd.py.
-/
import Derived.Test.YtlcgjlganmblpaaRCmd
import Derived.Test.YtlcgjlganmblpaaRScA
import Derived.Test.YtlcgjlganmblpaaRScB
set_option linter.unusedSimpArgs false
set_option linter.unusedVariables false
namespace Go.Proofs.Ytlcgjlganmblpaa
open Go.RowKit

set_option maxRecDepth 100000 in
set_option maxHeartbeats 8000000 in
theorem sc_lease (a b : Cm.Cmd) (A B : Option Addr) (ca cb : Nat) (w : World) (d0 : ((a.op : Int) = (b.op : Int)) = True) (b0 : ((a.op : Int) == (b.op : Int)) = true) (d1 : ((a.ses : Int) = (b.ses : Int)) = True) (b1 : ((a.ses : Int) == (b.ses : Int)) = true) (d2 : ((a.seq : Int) = (b.seq : Int)) = True) (b2 : ((a.seq : Int) == (b.seq : Int)) = true) (d3 : (a.key.toList == b.key.toList) = true) (d4 : (a.val.toList == b.val.toList) = true) (d5 : (a.exp.toList == b.exp.toList) = true) (d6 : (a.frm.toList == b.frm.toList) = true) (d7 : (a.tto.toList == b.tto.toList) = true) (d8 : ((a.lim : Int) = (b.lim : Int)) = True) (b8 : ((a.lim : Int) == (b.lim : Int)) = true) (b9 : ((a.lease : Int) == (b.lease : Int)) = false) (d9 : (a.lease : Int) ≠ (b.lease : Int)) :
    Calls Try.prog 76 #[.agg (cmdC a A ca), .agg (cmdC b B cb)] w fun e w' => e = .returned (.bool false) ∧ Below w.heap.size w w' := by
  have FX := cmdF a A ca
  have FY := cmdF b B cb
  generalize cmdC a A ca = X at FX ⊢
  generalize cmdC b B cb = Y at FY ⊢
  obtain ⟨hx, _, x0, x1, x2, x3, x4, x5, x6, x7, x8, x9, _, _⟩ := FX
  obtain ⟨hy, _, y0, y1, y2, y3, y4, y5, y6, y7, y8, y9, _, _⟩ := FY
  go_enter Try.func76, Try.ntmps76
  go_wp2
  go_ret
  exact ⟨rfl, bnew (bnew (Below.refl _ _) _) _⟩

set_option maxRecDepth 100000 in
set_option maxHeartbeats 8000000 in
theorem sc_ttl (a b : Cm.Cmd) (A B : Option Addr) (ca cb : Nat) (w : World) (d0 : ((a.op : Int) = (b.op : Int)) = True) (b0 : ((a.op : Int) == (b.op : Int)) = true) (d1 : ((a.ses : Int) = (b.ses : Int)) = True) (b1 : ((a.ses : Int) == (b.ses : Int)) = true) (d2 : ((a.seq : Int) = (b.seq : Int)) = True) (b2 : ((a.seq : Int) == (b.seq : Int)) = true) (d3 : (a.key.toList == b.key.toList) = true) (d4 : (a.val.toList == b.val.toList) = true) (d5 : (a.exp.toList == b.exp.toList) = true) (d6 : (a.frm.toList == b.frm.toList) = true) (d7 : (a.tto.toList == b.tto.toList) = true) (d8 : ((a.lim : Int) = (b.lim : Int)) = True) (b8 : ((a.lim : Int) == (b.lim : Int)) = true) (d9 : ((a.lease : Int) = (b.lease : Int)) = True) (b9 : ((a.lease : Int) == (b.lease : Int)) = true) (b10 : ((a.ttl : Int) == (b.ttl : Int)) = false) (d10 : (a.ttl : Int) ≠ (b.ttl : Int)) :
    Calls Try.prog 76 #[.agg (cmdC a A ca), .agg (cmdC b B cb)] w fun e w' => e = .returned (.bool false) ∧ Below w.heap.size w w' := by
  have FX := cmdF a A ca
  have FY := cmdF b B cb
  generalize cmdC a A ca = X at FX ⊢
  generalize cmdC b B cb = Y at FY ⊢
  obtain ⟨hx, _, x0, x1, x2, x3, x4, x5, x6, x7, x8, x9, x10, _⟩ := FX
  obtain ⟨hy, _, y0, y1, y2, y3, y4, y5, y6, y7, y8, y9, y10, _⟩ := FY
  go_enter Try.func76, Try.ntmps76
  go_wp2
  go_ret
  exact ⟨rfl, bnew (bnew (Below.refl _ _) _) _⟩

end Go.Proofs.Ytlcgjlganmblpaa
namespace Go.Proofs.Ytlcgjlganmblpaa
open Go.RowKit
theorem beq_int {x y : Nat} (h : x = y) : ((x : Int) == (y : Int)) = true := by rw [h]; simp
theorem nbeq_int {x y : Nat} (h : x ≠ y) : ((x : Int) == (y : Int)) = false := by rw [beq_eq_false_iff_ne]; omega
set_option maxRecDepth 100000 in
set_option maxHeartbeats 8000000 in
theorem sc_parts (a b : Cm.Cmd) (A B : Option Addr) (ca cb : Nat) (w : World) (hA : Lies w A (pc a.parts)) (hB : Lies w B (pc b.parts)) (hn : a.parts.length ≤ 1000000) (hm : b.parts.length ≤ 1000000)
    (d0 : ((a.op : Int) = (b.op : Int)) = True) (b0 : ((a.op : Int) == (b.op : Int)) = true) (d1 : ((a.ses : Int) = (b.ses : Int)) = True) (b1 : ((a.ses : Int) == (b.ses : Int)) = true) (d2 : ((a.seq : Int) = (b.seq : Int)) = True) (b2 : ((a.seq : Int) == (b.seq : Int)) = true) (d3 : (a.key.toList == b.key.toList) = true) (d4 : (a.val.toList == b.val.toList) = true) (d5 : (a.exp.toList == b.exp.toList) = true) (d6 : (a.frm.toList == b.frm.toList) = true) (d7 : (a.tto.toList == b.tto.toList) = true) (d8 : ((a.lim : Int) = (b.lim : Int)) = True) (b8 : ((a.lim : Int) == (b.lim : Int)) = true) (d9 : ((a.lease : Int) = (b.lease : Int)) = True) (b9 : ((a.lease : Int) == (b.lease : Int)) = true) (d10 : ((a.ttl : Int) = (b.ttl : Int)) = True) (b10 : ((a.ttl : Int) == (b.ttl : Int)) = true) :
    Calls Try.prog 76 #[.agg (cmdC a A ca), .agg (cmdC b B cb)] w fun e w' => e = .returned (.bool (Cm.sameL a.parts b.parts)) ∧ Below w.heap.size w w' := by
  have HE : Hid (∀ W, Below w.heap.size w W → Calls Try.prog 85 #[.slice A a.parts.length ca, .slice B b.parts.length cb] W fun e w' => e = .returned (.bool (Cm.sameL a.parts b.parts)) ∧ Below W.heap.size W w') := Lib.hid fun W hb => seq_any a.parts b.parts A B ca cb W (hA.below hb) (hB.below hb) hn hm
  have FX := cmdF a A ca
  have FY := cmdF b B cb
  generalize cmdC a A ca = X at FX ⊢
  generalize cmdC b B cb = Y at FY ⊢
  obtain ⟨hx, _, x0, x1, x2, x3, x4, x5, x6, x7, x8, x9, x10, x11⟩ := FX
  obtain ⟨hy, _, y0, y1, y2, y3, y4, y5, y6, y7, y8, y9, y10, y11⟩ := FY
  go_enter Try.func76, Try.ntmps76
  go_wp2_with fail
  refine (HE.out _ (bnew (bnew (Below.refl _ _) _) _)).mono ?_
  rintro e w1 ⟨rfl, hb1⟩
  go_wp2_with fail
  go_ret
  exact ⟨rfl, bnext (bnew (bnew (Below.refl _ _) _) _) hb1⟩
theorem scmd_any (a b : Cm.Cmd) (A B : Option Addr) (ca cb : Nat) (w : World) (hA : Lies w A (pc a.parts)) (hB : Lies w B (pc b.parts)) (hn : a.parts.length ≤ 1000000) (hm : b.parts.length ≤ 1000000) :
    Calls Try.prog 76 #[.agg (cmdC a A ca), .agg (cmdC b B cb)] w fun e w' => e = .returned (.bool (Cm.same a b)) ∧ Below w.heap.size w w' := by
  by_cases h0 : a.op = b.op
  case neg =>
    rw [same_no (fun e => h0 (by rw [e]))]
    exact sc_op a b A B ca cb w  (nbeq_int h0) (ne_int h0)
  by_cases h1 : a.ses = b.ses
  case neg =>
    rw [same_no (fun e => h1 (by rw [e]))]
    exact sc_ses a b A B ca cb w (eq_int h0) (beq_int h0) (nbeq_int h1) (ne_int h1)
  by_cases h2 : a.seq = b.seq
  case neg =>
    rw [same_no (fun e => h2 (by rw [e]))]
    exact sc_seq a b A B ca cb w (eq_int h0) (beq_int h0) (eq_int h1) (beq_int h1) (nbeq_int h2) (ne_int h2)
  by_cases h3 : a.key = b.key
  case neg =>
    rw [same_no (fun e => h3 (by rw [e]))]
    exact sc_key a b A B ca cb w (eq_int h0) (beq_int h0) (eq_int h1) (beq_int h1) (eq_int h2) (beq_int h2) (ne_str h3)
  by_cases h4 : a.val = b.val
  case neg =>
    rw [same_no (fun e => h4 (by rw [e]))]
    exact sc_val a b A B ca cb w (eq_int h0) (beq_int h0) (eq_int h1) (beq_int h1) (eq_int h2) (beq_int h2) (eq_str h3) (ne_str h4)
  by_cases h5 : a.exp = b.exp
  case neg =>
    rw [same_no (fun e => h5 (by rw [e]))]
    exact sc_exp a b A B ca cb w (eq_int h0) (beq_int h0) (eq_int h1) (beq_int h1) (eq_int h2) (beq_int h2) (eq_str h3) (eq_str h4) (ne_str h5)
  by_cases h6 : a.frm = b.frm
  case neg =>
    rw [same_no (fun e => h6 (by rw [e]))]
    exact sc_frm a b A B ca cb w (eq_int h0) (beq_int h0) (eq_int h1) (beq_int h1) (eq_int h2) (beq_int h2) (eq_str h3) (eq_str h4) (eq_str h5) (ne_str h6)
  by_cases h7 : a.tto = b.tto
  case neg =>
    rw [same_no (fun e => h7 (by rw [e]))]
    exact sc_tto a b A B ca cb w (eq_int h0) (beq_int h0) (eq_int h1) (beq_int h1) (eq_int h2) (beq_int h2) (eq_str h3) (eq_str h4) (eq_str h5) (eq_str h6) (ne_str h7)
  by_cases h8 : a.lim = b.lim
  case neg =>
    rw [same_no (fun e => h8 (by rw [e]))]
    exact sc_lim a b A B ca cb w (eq_int h0) (beq_int h0) (eq_int h1) (beq_int h1) (eq_int h2) (beq_int h2) (eq_str h3) (eq_str h4) (eq_str h5) (eq_str h6) (eq_str h7) (nbeq_int h8) (ne_int h8)
  by_cases h9 : a.lease = b.lease
  case neg =>
    rw [same_no (fun e => h9 (by rw [e]))]
    exact sc_lease a b A B ca cb w (eq_int h0) (beq_int h0) (eq_int h1) (beq_int h1) (eq_int h2) (beq_int h2) (eq_str h3) (eq_str h4) (eq_str h5) (eq_str h6) (eq_str h7) (eq_int h8) (beq_int h8) (nbeq_int h9) (ne_int h9)
  by_cases h10 : a.ttl = b.ttl
  case neg =>
    rw [same_no (fun e => h10 (by rw [e]))]
    exact sc_ttl a b A B ca cb w (eq_int h0) (beq_int h0) (eq_int h1) (beq_int h1) (eq_int h2) (beq_int h2) (eq_str h3) (eq_str h4) (eq_str h5) (eq_str h6) (eq_str h7) (eq_int h8) (beq_int h8) (eq_int h9) (beq_int h9) (nbeq_int h10) (ne_int h10)
  have e : Cm.same a b = Cm.sameL a.parts b.parts := by
    by_cases hl : a.parts.length = b.parts.length
    · unfold Cm.same Cm.sameF
      rw [h0, h1, h2, h3, h4, h5, h6, h7, h8, h9, h10, hl]
      simp [Cm.eqS]
    · rw [sameL_len _ _ hl, same_no (fun e => hl (by rw [e]))]
  rw [e]
  exact sc_parts a b A B ca cb w hA hB hn hm (eq_int h0) (beq_int h0) (eq_int h1) (beq_int h1) (eq_int h2) (beq_int h2) (eq_str h3) (eq_str h4) (eq_str h5) (eq_str h6) (eq_str h7) (eq_int h8) (beq_int h8) (eq_int h9) (beq_int h9) (eq_int h10) (beq_int h10)
end Go.Proofs.Ytlcgjlganmblpaa
