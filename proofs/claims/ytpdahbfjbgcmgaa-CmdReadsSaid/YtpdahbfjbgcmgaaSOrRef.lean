/-
  wapentakeref03: bounded, plainOper and MayOper walked. WRITTEN BY wip/tools/gen_orref.py.
-/
import Derived.Test.YtpdahbfjbgcmgaaSOpM
import Derived.Test.YtpdahbfjbgcmgaaSOpB
import Derived.Test.YtpdahbfjbgcmgaaSEnA
import Derived.Lib.QuietBelow
set_option linter.unusedSimpArgs false
set_option linter.unusedVariables false
namespace Go.Proofs.Ytpdahbfjbgcmgaa
open Go.RowKit
set_option linter.unusedVariables false
namespace Og
def p1 (o : Oper) : Oper := ⟨1, o.slot, Tk.zero, 0, o.keys, o.bytes, o.rate, o.burst, 0⟩
def p2 (o : Oper) : Oper := ⟨2, o.slot, o.tok, o.role, 0, 0, 0, 0, 0⟩
def p3 (o : Oper) : Oper := ⟨3, 0, o.tok, 0, 0, 0, 0, 0, 0⟩
def p4 (o : Oper) : Oper := ⟨4, o.slot, Tk.zero, 0, 0, 0, 0, 0, 0⟩
def p5 (o : Oper) : Oper := ⟨o.op, 0, Tk.zero, 0, 0, 0, 0, 0, o.node⟩
/-- What just the Op uses. -/
def plain (o : Oper) : Oper := if o.op = 1 then p1 o else if o.op = 2 then p2 o else if o.op = 3 then p3 o else if o.op = 4 then p4 o else p5 o
theorem may_iff (o : Oper) : may o ↔ (1 ≤ o.op ∧ o.op ≤ 7) ∧ o = plain o ∧ o.slot ≤ 3 ∧ (o.op = 2 → 1 ≤ o.role ∧ o.role ≤ 3) ∧ (4 < o.op → 1 ≤ o.node ∧ o.node ≤ 5) ∧ amt o.keys ∧ amt o.bytes ∧ amt o.rate ∧ amt o.burst := by
  obtain ⟨op, slot, tok, role, k, b, r, u, n⟩ := o
  unfold may plain none4
  simp only []
  constructor
  · rintro (⟨rfl, h1, rfl, rfl, h2, h3, h4, h5, rfl⟩ | ⟨rfl, h1, h2, ⟨rfl, rfl, rfl, rfl⟩, rfl⟩ | ⟨rfl, rfl, rfl, ⟨rfl, rfl, rfl, rfl⟩, rfl⟩ | ⟨rfl, h1, rfl, rfl, ⟨rfl, rfl, rfl, rfl⟩, rfl⟩ | ⟨h0, rfl, rfl, rfl, ⟨rfl, rfl, rfl, rfl⟩, h1⟩)
    · exact ⟨by omega, rfl, h1, by omega, by omega, h2, h3, h4, h5⟩
    · exact ⟨by omega, rfl, h1, fun _ => h2, by omega, by decide, by decide, by decide, by decide⟩
    · exact ⟨by omega, rfl, by omega, by omega, by omega, by decide, by decide, by decide, by decide⟩
    · exact ⟨by omega, rfl, h1, by omega, by omega, by decide, by decide, by decide, by decide⟩
    · refine ⟨by omega, ?_, by omega, by omega, fun _ => h1, by decide, by decide, by decide, by decide⟩
      rw [if_neg (by omega), if_neg (by omega), if_neg (by omega), if_neg (by omega)]
      rfl
  · rintro ⟨h0, hp, h1, h2, h3, h4, h5, h6, h7⟩
    have : op = 1 ∨ op = 2 ∨ op = 3 ∨ op = 4 ∨ (op = 5 ∨ op = 6 ∨ op = 7) := by omega
    rcases this with rfl | rfl | rfl | rfl | h
    · rw [if_pos rfl] at hp
      injection hp with e1 e2 e3 e4 e5 e6 e7 e8 e9
      exact .inl ⟨rfl, h1, e3, e4, h4, h5, h6, h7, e9⟩
    · rw [if_neg (by omega), if_pos rfl] at hp
      injection hp with e1 e2 e3 e4 e5 e6 e7 e8 e9
      exact .inr (.inl ⟨rfl, h1, h2 rfl, ⟨e5, e6, e7, e8⟩, e9⟩)
    · rw [if_neg (by omega), if_neg (by omega), if_pos rfl] at hp
      injection hp with e1 e2 e3 e4 e5 e6 e7 e8 e9
      exact .inr (.inr (.inl ⟨rfl, e2, e4, ⟨e5, e6, e7, e8⟩, e9⟩))
    · rw [if_neg (by omega), if_neg (by omega), if_neg (by omega), if_pos rfl] at hp
      injection hp with e1 e2 e3 e4 e5 e6 e7 e8 e9
      exact .inr (.inr (.inr (.inl ⟨rfl, h1, e3, e4, ⟨e5, e6, e7, e8⟩, e9⟩)))
    · rw [if_neg (by omega), if_neg (by omega), if_neg (by omega), if_neg (by omega)] at hp
      injection hp with e1 e2 e3 e4 e5 e6 e7 e8 e9
      exact .inr (.inr (.inr (.inr ⟨h, e2, e3, e4, ⟨e5, e6, e7, e8⟩, h3 (by omega)⟩)))
end Og
set_option maxRecDepth 100000 in
theorem bounded_any (n : Int) (w : World) : Calls Try.prog 105 #[.int .i64 n] w fun e w' => e = .returned (.bool (decide (Og.amt n))) ∧ w = w' := by
  by_cases h1 : 0 ≤ n
  · have d1 : decide (0 ≤ n) = true := decide_eq_true h1
    by_cases h2 : n ≤ 2147483647
    · have d2 : decide (n ≤ 2147483647) = true := decide_eq_true h2
      have E := Lib.hid (decide_eq_true (p := Og.amt n) ⟨h1, h2⟩)
      clear h1 h2
      go_enter Try.func105, Try.ntmps105
      go_wp2_with fail
      go_ret
      exact ⟨by rw [E.out]; first | rfl | simp [d1, d2], rfl⟩
    · have d2 : decide (n ≤ 2147483647) = false := decide_eq_false h2
      have E := Lib.hid (decide_eq_false (p := Og.amt n) (fun h => h2 h.2))
      clear h1 h2
      go_enter Try.func105, Try.ntmps105
      go_wp2_with fail
      go_ret
      exact ⟨by rw [E.out]; first | rfl | simp [d1, d2], rfl⟩
  · have d1 : decide (0 ≤ n) = false := decide_eq_false h1
    have E := Lib.hid (decide_eq_false (p := Og.amt n) (fun h => h1 h.1))
    clear h1
    go_enter Try.func105, Try.ntmps105
    go_wp2_with fail
    go_ret
    exact ⟨by rw [E.out]; first | rfl | simp [d1], rfl⟩
theorem operF0 (c : Og.Oper) : (operC c).size = 16 ∧ (operC c).all (·.oneCell') = true := ⟨operC_size c, operC_one c⟩
theorem row_opaque {W : World} {g : Nat} {X : Array Value} {c : Og.Oper} (hX : X = operC c) (h : W.heap[g]? = some (.cells X 33 (0, 0))) : OperAt W g c := operAt (by rw [← hX]; exact h)
set_option maxRecDepth 100000 in
set_option maxHeartbeats 2000000 in
theorem plainOper_any (c : Og.Oper) (w : World) : Calls Try.prog 104 #[.agg (operC c)] w fun e w' => e = .returned (.agg (operC (Og.plain c))) ∧ Below w.heap.size w w' := by
  have hsz := operC_size c
  obtain ⟨X, hX⟩ : ∃ X, X = operC c := ⟨_, rfl⟩
  rw [← hX] at hsz ⊢
  have HX := Lib.hid hX
  clear hX
  go_enter Try.func104, Try.ntmps104
  go_upto_region 1 with (fail)
  refine forget (fun W => Below w.heap.size w W ∧ W.heap[w.heap.size]? = some (.cells (operC c) 33 (0, 0)) ∧ W.heap[w.heap.size + 1]? = some (.cells (operC Og.Oper.zero) 33 (0, 0))) ⟨bnew (bnew (Below.refl _ _) _) _, by rw [← HX.out]; exact (Below.heap_alloc _ _ _ (by simp)).trans (heap_alloc_new w _), by have := heap_alloc_new (w.alloc (.cells X 33)) (.cells (operC Og.Oper.zero) 33); rw [World.size_alloc] at this; exact this⟩ ?_
  rintro W ⟨hb, hr, hz⟩
  obtain ⟨g, hg⟩ : ∃ g, g = w.heap.size := ⟨_, rfl⟩
  obtain ⟨q, hq⟩ : ∃ q, q = w.heap.size + 1 := ⟨_, rfl⟩
  rw [← hq] at hz ⊢
  rw [← hg] at hr ⊢
  have HZ := Lib.hid (And.intro hb (And.intro hz hq))
  obtain ⟨c0, c1, c2, c3, c4, c5, c6, c7, c8, c9, c10, c11, c12, c13, c14, c15, _⟩ := operAt hr
  obtain ⟨n0, n1, n2, n3, n4, n5, n6, n7, n8, n9, n10, n11, n12, n13, n14, n15, _⟩ := operAt hz
  have v0 := frozen_of_row W q 0 _ _ hz
  have v1 := frozen_of_row W q 1 _ _ hz
  have v2 := frozen_of_row W q 2 _ _ hz
  have v3 := frozen_of_row W q 3 _ _ hz
  have v4 := frozen_of_row W q 4 _ _ hz
  have v5 := frozen_of_row W q 5 _ _ hz
  have v6 := frozen_of_row W q 6 _ _ hz
  have v7 := frozen_of_row W q 7 _ _ hz
  have v8 := frozen_of_row W q 8 _ _ hz
  have v9 := frozen_of_row W q 9 _ _ hz
  have v10 := frozen_of_row W q 10 _ _ hz
  have v11 := frozen_of_row W q 11 _ _ hz
  have v12 := frozen_of_row W q 12 _ _ hz
  have v13 := frozen_of_row W q 13 _ _ hz
  have v14 := frozen_of_row W q 14 _ _ hz
  have v15 := frozen_of_row W q 15 _ _ hz
  have hgq : g ≠ q := by omega
  clear hb hr hz hg hq hsz
  by_cases h1 : c.op = 1
  · skip
    have q1 : ((c.op : Int) == 1) = true := by simp; omega
    have E : Hid (Og.plain c = Og.p1 c) := Lib.hid (by unfold Og.plain; rw [if_pos h1])
    clear h1
    go_wp2_with fail
    refine bodyPost_ret (results_cell_row (P := Try.prog) (fn := Try.f104) rfl _ _ q 33 (operC (Og.p1 c)) (0, 0) _ rfl (operPut (x := Og.p1 c) HZ.out.2.1) Try.underlying33 rfl sizeOper) rfl ?_
    exact ⟨by rw [E.out], operBelow (x := Og.p1 c) HZ.out.1 (by have := HZ.out.2.2; omega)⟩
  by_cases h2 : c.op = 2
  · skip
    have q1 : ((c.op : Int) == 1) = false := by simp; omega
    have q2 : ((c.op : Int) == 2) = true := by simp; omega
    have E : Hid (Og.plain c = Og.p2 c) := Lib.hid (by unfold Og.plain; rw [if_neg h1, if_pos h2])
    clear h1 h2
    go_wp2_with fail
    refine bodyPost_ret (results_cell_row (P := Try.prog) (fn := Try.f104) rfl _ _ q 33 (operC (Og.p2 c)) (0, 0) _ rfl (operPut (x := Og.p2 c) HZ.out.2.1) Try.underlying33 rfl sizeOper) rfl ?_
    exact ⟨by rw [E.out], operBelow (x := Og.p2 c) HZ.out.1 (by have := HZ.out.2.2; omega)⟩
  by_cases h3 : c.op = 3
  · skip
    have q1 : ((c.op : Int) == 1) = false := by simp; omega
    have q2 : ((c.op : Int) == 2) = false := by simp; omega
    have q3 : ((c.op : Int) == 3) = true := by simp; omega
    have E : Hid (Og.plain c = Og.p3 c) := Lib.hid (by unfold Og.plain; rw [if_neg h1, if_neg h2, if_pos h3])
    clear h1 h2 h3
    go_wp2_with fail
    refine bodyPost_ret (results_cell_row (P := Try.prog) (fn := Try.f104) rfl _ _ q 33 (operC (Og.p3 c)) (0, 0) _ rfl (operPut (x := Og.p3 c) HZ.out.2.1) Try.underlying33 rfl sizeOper) rfl ?_
    exact ⟨by rw [E.out], operBelow (x := Og.p3 c) HZ.out.1 (by have := HZ.out.2.2; omega)⟩
  by_cases h4 : c.op = 4
  · skip
    have q1 : ((c.op : Int) == 1) = false := by simp; omega
    have q2 : ((c.op : Int) == 2) = false := by simp; omega
    have q3 : ((c.op : Int) == 3) = false := by simp; omega
    have q4 : ((c.op : Int) == 4) = true := by simp; omega
    have E : Hid (Og.plain c = Og.p4 c) := Lib.hid (by unfold Og.plain; rw [if_neg h1, if_neg h2, if_neg h3, if_pos h4])
    clear h1 h2 h3 h4
    go_wp2_with fail
    refine bodyPost_ret (results_cell_row (P := Try.prog) (fn := Try.f104) rfl _ _ q 33 (operC (Og.p4 c)) (0, 0) _ rfl (operPut (x := Og.p4 c) HZ.out.2.1) Try.underlying33 rfl sizeOper) rfl ?_
    exact ⟨by rw [E.out], operBelow (x := Og.p4 c) HZ.out.1 (by have := HZ.out.2.2; omega)⟩
  have q1 : ((c.op : Int) == 1) = false := by simp; omega
  have q2 : ((c.op : Int) == 2) = false := by simp; omega
  have q3 : ((c.op : Int) == 3) = false := by simp; omega
  have q4 : ((c.op : Int) == 4) = false := by simp; omega
  have E : Hid (Og.plain c = Og.p5 c) := Lib.hid (by unfold Og.plain; rw [if_neg h1, if_neg h2, if_neg h3, if_neg h4])
  clear h1 h2 h3 h4
  go_wp2_with fail
  refine bodyPost_ret (results_cell_row (P := Try.prog) (fn := Try.f104) rfl _ _ q 33 (operC (Og.p5 c)) (0, 0) _ rfl (operPut (x := Og.p5 c) HZ.out.2.1) Try.underlying33 rfl sizeOper) rfl ?_
  exact ⟨by rw [E.out], operBelow (x := Og.p5 c) HZ.out.1 (by have := HZ.out.2.2; omega)⟩
end Go.Proofs.Ytpdahbfjbgcmgaa
