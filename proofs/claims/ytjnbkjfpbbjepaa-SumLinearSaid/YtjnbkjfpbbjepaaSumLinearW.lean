/-
  SumLinear walked.
-/
import Derived.Test.YtjnbkjfpbbjepaaSumAwake
import Derived.Lib.QuietBelow
namespace Go.Proofs.Ytjnbkjfpbbjepaa
open Go.RowKit

theorem Try.infoMarks : (Try.prog.info? 23).map (fun i => (i.zero, i.size)) = some (some (.agg zerosA), 256) := by kernel_rfl
theorem sizeMarks : (Try.prog.info? 23).map (·.size) = some 256 := (zero_of_info Try.infoMarks).2

set_option maxHeartbeats 2000000 in
set_option maxRecDepth 100000 in
theorem sumLinear_core (S : SumSays) (w : World) (a b : Nat) (ha : a < 256) (hb : b < 256) (cs : Array Value) (hcs : cs.size = 256) (h1 : cs.all (·.oneCell') = true) (hv : ∀ i, i < 256 → ∃ n : Nat, n < 4294967296 ∧ cs[i]? = some (.int .u32 (n : Int))) (s : ByteArray) (hs : s.size ≤ 3000) :
    Calls Try.prog 7 #[.int .u8 (a : Int), .int .u8 (b : Int), .agg cs, .string s] w fun e w' => e = .returned (.bool true) ∧ Below w.heap.size w w' := by
  have hz := zeroTable
  have hst := storeTabA
  have hsz := tabA_size
  have Hmk := Lib.hid S.make
  have Hv := Lib.hid hv
  clear hv
  have d1 : decide ((3000 : Int) < (s.size : Int)) = false := by simp; omega
  have hst2 : ∀ W : World, (storeCells ⟨W.heap.size, 0, none⟩ cs.toList 0).run Try.prog (W.alloc (.cells zerosA 24)) = .ok () (W.alloc (.cells cs 24)) := fun W =>
    run_storeCells_new (P := Try.prog) W 24 zerosA cs (by rw [hcs]; exact sizeTable) (by rw [zeros_size, hcs]) h1
  have Hany := Lib.hid S.any_
  clear h1
  go_enter Try.func7, Try.ntmps7
  go_wp2_with (go_at_call 8; refine (Hmk.out _).mono ?_; rintro e w1 ⟨rfl, hb1⟩)
  have hg : (w1.alloc (.cells tabA 24)).heap[w.heap.size]? = some (.cells cs 23 (0, 0)) := by
    rw [Below.heap_alloc _ _ _ (by have := hb1.size; simp at this; omega), hb1.block _ (by simp)]
    exact heap_alloc_new w _
  refine wp_load_row 23 _ rfl w.heap.size rfl 23 cs (0, 0) _ hg Try.underlying23 rfl (by rw [hcs]; exact sizeMarks) ?_
  have Hb1 := Lib.hid hb1
  have hst3 := hst2 (w1.alloc (.cells tabA 24))
  rw [World.size_alloc] at hst3
  clear hg hb1 hst2
  go_wp2_with fail
  have ht1 : ((((w1.alloc (.cells tabA 24)).alloc (.cells cs 24)).alloc (.cells #[.string s, .string s] 9)).heap[w1.heap.size + 1]? = some (.cells cs 24 (0, 0))) := by
    rw [Below.heap_alloc _ _ _ (by simp)]
    have := heap_alloc_new (w1.alloc (.cells tabA 24)) (.cells cs 24)
    simpa using this
  refine (Hany.out _ _ cs _ _ [s, s] ht1 Hv.out (Lies.at_ _ (sc [s, s]) 9 (w1.heap.size + 2) (by simp)) (by simp) (by simp; omega)).mono ?_
  rintro e w2 ⟨⟨y, rfl⟩, hb2⟩
  have ht2 : TabAt w2 w1.heap.size := (((TabAt.new w1).below (bnew (Below.refl _ _) _)).below (bnew (Below.refl _ _) _)).below hb2
  clear ht1
  obtain ⟨x, hx⟩ : ∃ x, x = a ^^^ b := ⟨_, rfl⟩
  have hxl : x < 256 := by rw [hx]; exact Nat.xor_lt_two_pow (n := 8) ha hb
  have hxe : bits .xor .u8 (a : Int) (b : Int) = (x : Int) := by rw [hx]; exact u8_xor_nat a b ha hb
  have hta := Cr.tab_lt a ha
  have htb := Cr.tab_lt b hb
  have htx : bits .xor .u32 ((Cr.tab a : Nat) : Int) ((Cr.tab b : Nat) : Int) = ((Cr.tab x : Nat) : Int) := by rw [hx, Cr.tab_xor]; exact u32_xor_nat _ _ hta htb
  have hab : (((Cr.tab a : Nat) : Int) == ((Cr.tab b : Nat) : Int)) = ((a : Int) == (b : Int)) := by
    rw [Bool.eq_iff_iff, beq_iff_eq, beq_iff_eq]
    have := Cr.tab_inj ha hb
    omega
  have ca := fun d os => cell_regrown (ht2.cell a ha) d os
  have cb := fun d os => cell_regrown (ht2.cell b hb) d os
  have cx := fun d os => cell_regrown (ht2.cell x hxl) d os
  obtain ⟨ta, hta'⟩ : ∃ z, z = Cr.tab a := ⟨_, rfl⟩
  obtain ⟨tb, htb'⟩ : ∃ z, z = Cr.tab b := ⟨_, rfl⟩
  obtain ⟨tx, htx'⟩ : ∃ z, z = Cr.tab x := ⟨_, rfl⟩
  rw [← hta'] at hta htx hab ca
  rw [← htb'] at htb htx hab cb
  rw [← htx'] at htx cx
  have i1 : (0 : Int) ≤ (a : Int) := by omega
  have i2 : (a : Int) < 256 := by omega
  have i3 : (0 : Int) ≤ (b : Int) := by omega
  have i4 : (b : Int) < 256 := by omega
  have i5 : (0 : Int) ≤ (x : Int) := by omega
  have i6 : (x : Int) < 256 := by omega
  have Ht2 := Lib.hid ht2
  clear ht2 hx hta' htb' htx' hst3 hst hz hsz
  go_wp2_with fail
  refine wp_region_quiet_below (by kernel_rfl) (by kernel_rfl) ?_
  repeat (go_big_quiet_step ((go_at_call 10; exact Calls.regrown_of (sumAwake_any S _))))
  refine wpQuiet_nil ?_
  intro _ hw'
  obtain ⟨pq, hw''⟩ := hw'
  subst hw''
  have hb3 := below_regrown w2 pq.d pq.os
  clear ca cb cx
  generalize Go.Sort.grow (redrawn w2 pq.d) pq.os = w3 at *
  go_wp2
  go_ret
  exact ⟨rfl, bnext (bnext (bnew (bnew (bnew (bnext (bnew (Below.refl _ w) _) Hb1.out) _) _) _) hb2) hb3⟩
set_option maxHeartbeats 2000000 in
set_option maxRecDepth 100000 in
theorem sumLinear_cut (S : SumSays) (w : World) (a b : Nat) (ha : a < 256) (hb : b < 256) (cs : Array Value) (hcs : cs.size = 256) (h1 : cs.all (·.oneCell') = true) (hv : ∀ i, i < 256 → ∃ n : Nat, n < 4294967296 ∧ cs[i]? = some (.int .u32 (n : Int))) (s0 : ByteArray) (hs0 : 3000 < s0.size) (hz0 : s0.size ≤ 9223372036854775807) :
    Calls Try.prog 7 #[.int .u8 (a : Int), .int .u8 (b : Int), .agg cs, .string s0] w fun e w' => e = .returned (.bool true) ∧ Below w.heap.size w w' := by
  obtain ⟨s, hss⟩ : ∃ s, s = s0.extract 0 3000 := ⟨_, rfl⟩
  have hs : s.size ≤ 3000 := by rw [hss, ByteArray.size_extract]; omega
  have Hss := Lib.hid hss
  clear hss
  have hz := zeroTable
  have hst := storeTabA
  have hsz := tabA_size
  have Hmk := Lib.hid S.make
  have Hv := Lib.hid hv
  clear hv
  have d1 : decide ((3000 : Int) < (s0.size : Int)) = true := by simp; omega
  have hst2 : ∀ W : World, (storeCells ⟨W.heap.size, 0, none⟩ cs.toList 0).run Try.prog (W.alloc (.cells zerosA 24)) = .ok () (W.alloc (.cells cs 24)) := fun W =>
    run_storeCells_new (P := Try.prog) W 24 zerosA cs (by rw [hcs]; exact sizeTable) (by rw [zeros_size, hcs]) h1
  have Hany := Lib.hid S.any_
  clear h1
  go_enter Try.func7, Try.ntmps7
  go_wp2_with (go_at_call 8; refine (Hmk.out _).mono ?_; rintro e w1 ⟨rfl, hb1⟩)
  rw [← Hss.out]
  have hg : (w1.alloc (.cells tabA 24)).heap[w.heap.size]? = some (.cells cs 23 (0, 0)) := by
    rw [Below.heap_alloc _ _ _ (by have := hb1.size; simp at this; omega), hb1.block _ (by simp)]
    exact heap_alloc_new w _
  refine wp_load_row 23 _ rfl w.heap.size rfl 23 cs (0, 0) _ hg Try.underlying23 rfl (by rw [hcs]; exact sizeMarks) ?_
  have Hb1 := Lib.hid hb1
  have hst3 := hst2 (w1.alloc (.cells tabA 24))
  rw [World.size_alloc] at hst3
  clear hg hb1 hst2
  go_wp2_with fail
  have ht1 : ((((w1.alloc (.cells tabA 24)).alloc (.cells cs 24)).alloc (.cells #[.string s, .string s] 9)).heap[w1.heap.size + 1]? = some (.cells cs 24 (0, 0))) := by
    rw [Below.heap_alloc _ _ _ (by simp)]
    have := heap_alloc_new (w1.alloc (.cells tabA 24)) (.cells cs 24)
    simpa using this
  refine (Hany.out _ _ cs _ _ [s, s] ht1 Hv.out (Lies.at_ _ (sc [s, s]) 9 (w1.heap.size + 2) (by simp)) (by simp) (by simp; omega)).mono ?_
  rintro e w2 ⟨⟨y, rfl⟩, hb2⟩
  have ht2 : TabAt w2 w1.heap.size := (((TabAt.new w1).below (bnew (Below.refl _ _) _)).below (bnew (Below.refl _ _) _)).below hb2
  clear ht1
  obtain ⟨x, hx⟩ : ∃ x, x = a ^^^ b := ⟨_, rfl⟩
  have hxl : x < 256 := by rw [hx]; exact Nat.xor_lt_two_pow (n := 8) ha hb
  have hxe : bits .xor .u8 (a : Int) (b : Int) = (x : Int) := by rw [hx]; exact u8_xor_nat a b ha hb
  have hta := Cr.tab_lt a ha
  have htb := Cr.tab_lt b hb
  have htx : bits .xor .u32 ((Cr.tab a : Nat) : Int) ((Cr.tab b : Nat) : Int) = ((Cr.tab x : Nat) : Int) := by rw [hx, Cr.tab_xor]; exact u32_xor_nat _ _ hta htb
  have hab : (((Cr.tab a : Nat) : Int) == ((Cr.tab b : Nat) : Int)) = ((a : Int) == (b : Int)) := by
    rw [Bool.eq_iff_iff, beq_iff_eq, beq_iff_eq]
    have := Cr.tab_inj ha hb
    omega
  have ca := fun d os => cell_regrown (ht2.cell a ha) d os
  have cb := fun d os => cell_regrown (ht2.cell b hb) d os
  have cx := fun d os => cell_regrown (ht2.cell x hxl) d os
  obtain ⟨ta, hta'⟩ : ∃ z, z = Cr.tab a := ⟨_, rfl⟩
  obtain ⟨tb, htb'⟩ : ∃ z, z = Cr.tab b := ⟨_, rfl⟩
  obtain ⟨tx, htx'⟩ : ∃ z, z = Cr.tab x := ⟨_, rfl⟩
  rw [← hta'] at hta htx hab ca
  rw [← htb'] at htb htx hab cb
  rw [← htx'] at htx cx
  have i1 : (0 : Int) ≤ (a : Int) := by omega
  have i2 : (a : Int) < 256 := by omega
  have i3 : (0 : Int) ≤ (b : Int) := by omega
  have i4 : (b : Int) < 256 := by omega
  have i5 : (0 : Int) ≤ (x : Int) := by omega
  have i6 : (x : Int) < 256 := by omega
  have Ht2 := Lib.hid ht2
  clear ht2 hx hta' htb' htx' hst3 hst hz hsz
  go_wp2_with fail
  refine wp_region_quiet_below (by kernel_rfl) (by kernel_rfl) ?_
  repeat (go_big_quiet_step ((go_at_call 10; exact Calls.regrown_of (sumAwake_any S _))))
  refine wpQuiet_nil ?_
  intro _ hw'
  obtain ⟨pq, hw''⟩ := hw'
  subst hw''
  have hb3 := below_regrown w2 pq.d pq.os
  clear ca cb cx
  generalize Go.Sort.grow (redrawn w2 pq.d) pq.os = w3 at *
  go_wp2
  go_ret
  exact ⟨rfl, bnext (bnext (bnew (bnew (bnew (bnext (bnew (Below.refl _ w) _) Hb1.out) _) _) _) hb2) hb3⟩

theorem sumLinear_walk (S : SumSays) (w : World) (a b : Nat) (ha : a < 256) (hb : b < 256) (cs : Array Value) (hcs : cs.size = 256) (h1 : cs.all (·.oneCell') = true) (hv : ∀ i, i < 256 → ∃ n : Nat, n < 4294967296 ∧ cs[i]? = some (.int .u32 (n : Int))) (s : ByteArray) (hs : s.size ≤ maxLen) :
    Calls Try.prog 7 #[.int .u8 (a : Int), .int .u8 (b : Int), .agg cs, .string s] w fun e w' => e = .returned (.bool true) ∧ Below w.heap.size w w' := by
  by_cases h : s.size ≤ 3000
  · exact sumLinear_core S w a b ha hb cs hcs h1 hv s h
  · exact sumLinear_cut S w a b ha hb cs hcs h1 hv s (by omega) (by unfold maxLen at hs; exact hs)
end Go.Proofs.Ytjnbkjfpbbjepaa
