/-
  EntryBack's ways. WRITTEN BY wip/tools/gen_enback.py.
-/
import Derived.Test.YtkghldobefgjeaaREnBackH
set_option linter.unusedSimpArgs false
set_option linter.unusedVariables false
namespace Go.Proofs.Ytkghldobefgjeaa
open Go.RowKit
set_option linter.unusedVariables false
set_option maxRecDepth 100000 in
set_option maxHeartbeats 8000000 in
theorem back_0110 (e : En.E) (s s' t beh : ByteArray) (HC : Hid (BackC e t false)) (hbz : e.body.size ≤ 4000) (hbh : beh.size ≤ 100) (w : World)
    (ht : t = ⟨#[]⟩) (cut : Nat)
    (f : En.E) (HF : Hid (∀ W, Calls Try.prog 39 #[.string s'] W fun r w' => r = .returned (.tuple #[.agg (entC f), .bool true]) ∧ Below W.heap.size W w'))
    (HG : Hid (BackC f s' true))
    (hk : 4000 < s.size) (hs' : s.extract 0 4000 = s') :
    Calls Try.prog 14 #[.agg (entC e), .string s, .int .u16 (cut : Int), .string beh] w fun r w' => r = .returned (.bool true) ∧ Below w.heap.size w w' := by
  have HA := Lib.hid entAwake_any
  have F := entF e
  obtain ⟨X, hX⟩ : ∃ X, X = entC e := ⟨_, rfl⟩
  rw [← hX] at F ⊢
  obtain ⟨hx, _, x0, x1, x2, x3, x4, x5, x6, x7, x8, x9, x10, x11, x12⟩ := F
  have HX := Lib.hid hX
  have d1 : decide ((4000 : Int) < (e.body.size : Int)) = false := by simp; omega
  have d2 : decide ((100 : Int) < (beh.size : Int)) = false := by simp; omega
  have d3 : decide ((4000 : Int) < (s.size : Int)) = true := by simp; omega
  have d3' : (4000 : Int) ≤ (s.size : Int) := by omega
  have HSS := Lib.hid hs'
  clear hs' hk
  subst ht
  have F4 := entF f
  obtain ⟨P4, hP4⟩ : ∃ P, P = entC f := ⟨_, rfl⟩
  rw [← hP4] at F4 HF
  have hst4 := storeEnt P4 F4.size F4.one
  have hs4 := F4.size
  have HP4 := Lib.hid hP4
  clear F4 hP4 hX hbz hbh
  have d6 : (s'.toList == s'.toList) = true := by simp
  go_enter Try.func14, Try.ntmps14
  go_wp2_with fail
  refine (HC.out.W _).mono ?_
  rintro r w1 ⟨rfl, hb1⟩
  have hr0 : RowE w1 w.heap.size X := (RowE.new w X).below hb1
  rw [HX.out] at hr0
  obtain ⟨c0, c1, c2, c3, c4, c5, c6, c7, c8, c9, c10, c11, c12, _⟩ := hr0.at_
  have HB1 := Lib.hid (And.intro (bnext (bnew (Below.refl _ _) _) hb1) hr0)
  clear hr0 hb1
  go_wp2_with fail
  refine (HC.out.R _).mono ?_
  rintro r w2 ⟨rfl, hb2⟩
  have HB := Lib.hid (And.intro (bnext HB1.out.1 hb2) (HB1.out.2.below hb2))
  clear hb2 HB1 c0 c1 c2 c3 c4 c5 c6 c7 c8 c9 c10 c11 c12 x0 x1 x2 x3 x4 x5 x6 x7 x8 x9 x10 x11 x12
  go_upto_region 14 with (fail)
  refine forget (fun W => Below w.heap.size w W) HB.out.1 ?_
  intro W7 hb7
  have HB7 := Lib.hid hb7
  clear HB hb7
  go_wp2_with fail
  rw [HSS.out]
  refine (HF.out _).mono ?_
  rintro r w8 ⟨rfl, hb8⟩
  have HB8 := Lib.hid (bnext HB7.out hb8)
  clear hb8
  go_upto_region 15 with (fail)
  refine forget (fun W => Below w.heap.size w W ∧ RowE W w8.heap.size (entC f)) ⟨bnew HB8.out _, by have h := RowE.new w8 P4; rw [HP4.out] at h ⊢; exact h⟩ ?_
  rintro W9 ⟨hb9, hr9⟩
  obtain ⟨q, hq⟩ : ∃ q, q = w8.heap.size := ⟨_, rfl⟩
  rw [← hq] at hr9 ⊢
  clear hq
  obtain ⟨c0, c1, c2, c3, c4, c5, c6, c7, c8, c9, c10, c11, c12, _⟩ := hr9.at_
  have HB9 := Lib.hid (And.intro hb9 hr9)
  clear hb9 hr9 hst4 hs4 HB8 HB7
  go_wp2_with fail
  refine (HG.out.R _).mono ?_
  rintro r w10 ⟨rfl, hb10⟩
  have HB10 := Lib.hid (And.intro (bnext HB9.out.1 hb10) (HB9.out.2.below hb10))
  clear hb10 c0 c1 c2 c3 c4 c5 c6 c7 c8 c9 c10 c11 c12
  obtain ⟨c0, c1, c2, c3, c4, c5, c6, c7, c8, c9, c10, c11, c12, _⟩ := HB10.out.2.at_
  go_wp2_with fail
  refine (HG.out.W _).mono ?_
  rintro r w11 ⟨rfl, hb11⟩
  have HB11 := Lib.hid (bnext HB10.out.1 hb11)
  clear hb11 c0 c1 c2 c3 c4 c5 c6 c7 c8 c9 c10 c11 c12
  go_wp2_with fail
  refine (HA.out _).mono ?_
  rintro r w12 ⟨rfl, hb12⟩
  have HB12 := Lib.hid (bnext HB11.out hb12)
  clear hb12
  go_wp2_with fail
  go_ret
  exact ⟨rfl, HB12.out⟩
set_option maxRecDepth 100000 in
set_option maxHeartbeats 8000000 in
theorem back_0100 (e : En.E) (s s' t beh : ByteArray) (HC : Hid (BackC e t false)) (hbz : e.body.size ≤ 4000) (hbh : beh.size ≤ 100) (w : World)
    (ht : t = ⟨#[]⟩) (cut : Nat)
    (f : En.E) (HF : Hid (∀ W, Calls Try.prog 39 #[.string s'] W fun r w' => r = .returned (.tuple #[.agg (entC En.zero), .bool false]) ∧ Below W.heap.size W w'))
    (hk : 4000 < s.size) (hs' : s.extract 0 4000 = s') :
    Calls Try.prog 14 #[.agg (entC e), .string s, .int .u16 (cut : Int), .string beh] w fun r w' => r = .returned (.bool true) ∧ Below w.heap.size w w' := by
  have HA := Lib.hid entAwake_any
  have F := entF e
  obtain ⟨X, hX⟩ : ∃ X, X = entC e := ⟨_, rfl⟩
  rw [← hX] at F ⊢
  obtain ⟨hx, _, x0, x1, x2, x3, x4, x5, x6, x7, x8, x9, x10, x11, x12⟩ := F
  have HX := Lib.hid hX
  have d1 : decide ((4000 : Int) < (e.body.size : Int)) = false := by simp; omega
  have d2 : decide ((100 : Int) < (beh.size : Int)) = false := by simp; omega
  have d3 : decide ((4000 : Int) < (s.size : Int)) = true := by simp; omega
  have d3' : (4000 : Int) ≤ (s.size : Int) := by omega
  have HSS := Lib.hid hs'
  clear hs' hk
  subst ht
  have F4 := entF En.zero
  obtain ⟨P4, hP4⟩ : ∃ P, P = entC En.zero := ⟨_, rfl⟩
  rw [← hP4] at F4 HF
  have hst4 := storeEnt P4 F4.size F4.one
  have hs4 := F4.size
  have HP4 := Lib.hid hP4
  clear F4 hP4 hX hbz hbh
  have hze : ∀ W, (binOp .eql 62 (.agg #[.int .u64 0, .int .u64 0, .int .u8 0, .int .u8 0, .int .u8 0, .int .u8 0, .int .u8 0, .int .u8 0, .int .u8 0, .int .u8 0, .int .u8 0, .int .u8 0, .string ⟨#[]⟩]) (.agg #[.int .u64 0, .int .u64 0, .int .u8 0, .int .u8 0, .int .u8 0, .int .u8 0, .int .u8 0, .int .u8 0, .int .u8 0, .int .u8 0, .int .u8 0, .int .u8 0, .string ⟨#[]⟩])).run Try.prog W = .ok (.bool true) W := fun W => by
    have := ent_eql En.zero En.zero W
    rw [decide_eq_true rfl] at this
    exact this
  go_enter Try.func14, Try.ntmps14
  go_wp2_with fail
  refine (HC.out.W _).mono ?_
  rintro r w1 ⟨rfl, hb1⟩
  have hr0 : RowE w1 w.heap.size X := (RowE.new w X).below hb1
  rw [HX.out] at hr0
  obtain ⟨c0, c1, c2, c3, c4, c5, c6, c7, c8, c9, c10, c11, c12, _⟩ := hr0.at_
  have HB1 := Lib.hid (And.intro (bnext (bnew (Below.refl _ _) _) hb1) hr0)
  clear hr0 hb1
  go_wp2_with fail
  refine (HC.out.R _).mono ?_
  rintro r w2 ⟨rfl, hb2⟩
  have HB := Lib.hid (And.intro (bnext HB1.out.1 hb2) (HB1.out.2.below hb2))
  clear hb2 HB1 c0 c1 c2 c3 c4 c5 c6 c7 c8 c9 c10 c11 c12 x0 x1 x2 x3 x4 x5 x6 x7 x8 x9 x10 x11 x12
  go_upto_region 14 with (fail)
  refine forget (fun W => Below w.heap.size w W) HB.out.1 ?_
  intro W7 hb7
  have HB7 := Lib.hid hb7
  clear HB hb7
  go_wp2_with fail
  rw [HSS.out]
  refine (HF.out _).mono ?_
  rintro r w8 ⟨rfl, hb8⟩
  have HB8 := Lib.hid (bnext HB7.out hb8)
  clear hb8
  go_upto_region 15 with (fail)
  refine forget (fun W => Below w.heap.size w W ∧ RowE W w8.heap.size (entC En.zero)) ⟨bnew HB8.out _, by have h := RowE.new w8 P4; rw [HP4.out] at h ⊢; exact h⟩ ?_
  rintro W9 ⟨hb9, hr9⟩
  obtain ⟨q, hq⟩ : ∃ q, q = w8.heap.size := ⟨_, rfl⟩
  rw [← hq] at hr9 ⊢
  clear hq
  have c0 : W9.cell? ⟨q, 0, none⟩ = some (.int .u64 0) := cell_of_row W9 q 0 _ _ _ hr9
  have c1 : W9.cell? ⟨q, 1, none⟩ = some (.int .u64 0) := cell_of_row W9 q 1 _ _ _ hr9
  have c2 : W9.cell? ⟨q, 2, none⟩ = some (.int .u8 0) := cell_of_row W9 q 2 _ _ _ hr9
  have c3 : W9.cell? ⟨q, 3, none⟩ = some (.int .u8 0) := cell_of_row W9 q 3 _ _ _ hr9
  have c4 : W9.cell? ⟨q, 4, none⟩ = some (.int .u8 0) := cell_of_row W9 q 4 _ _ _ hr9
  have c5 : W9.cell? ⟨q, 5, none⟩ = some (.int .u8 0) := cell_of_row W9 q 5 _ _ _ hr9
  have c6 : W9.cell? ⟨q, 6, none⟩ = some (.int .u8 0) := cell_of_row W9 q 6 _ _ _ hr9
  have c7 : W9.cell? ⟨q, 7, none⟩ = some (.int .u8 0) := cell_of_row W9 q 7 _ _ _ hr9
  have c8 : W9.cell? ⟨q, 8, none⟩ = some (.int .u8 0) := cell_of_row W9 q 8 _ _ _ hr9
  have c9 : W9.cell? ⟨q, 9, none⟩ = some (.int .u8 0) := cell_of_row W9 q 9 _ _ _ hr9
  have c10 : W9.cell? ⟨q, 10, none⟩ = some (.int .u8 0) := cell_of_row W9 q 10 _ _ _ hr9
  have c11 : W9.cell? ⟨q, 11, none⟩ = some (.int .u8 0) := cell_of_row W9 q 11 _ _ _ hr9
  have c12 : W9.cell? ⟨q, 12, none⟩ = some (.string ⟨#[]⟩) := cell_of_row W9 q 12 _ _ _ hr9
  have HB11 := Lib.hid hb9
  clear hb9 hr9 hst4 hs4 HB8 HB7
  go_wp2_with fail
  refine (HA.out _).mono ?_
  rintro r w12 ⟨rfl, hb12⟩
  have HB12 := Lib.hid (bnext HB11.out hb12)
  clear hb12
  go_wp2_with fail
  go_ret
  exact ⟨rfl, HB12.out⟩
set_option maxRecDepth 100000 in
set_option maxHeartbeats 8000000 in
theorem back_0010 (e : En.E) (s s' t beh : ByteArray) (HC : Hid (BackC e t false)) (hbz : e.body.size ≤ 4000) (hbh : beh.size ≤ 100) (w : World)
    (ht : t = ⟨#[]⟩) (cut : Nat)
    (f : En.E) (HF : Hid (∀ W, Calls Try.prog 39 #[.string s'] W fun r w' => r = .returned (.tuple #[.agg (entC f), .bool true]) ∧ Below W.heap.size W w'))
    (HG : Hid (BackC f s' true))
    (hk : s.size ≤ 4000) (hs' : s = s') :
    Calls Try.prog 14 #[.agg (entC e), .string s, .int .u16 (cut : Int), .string beh] w fun r w' => r = .returned (.bool true) ∧ Below w.heap.size w w' := by
  have HA := Lib.hid entAwake_any
  have F := entF e
  obtain ⟨X, hX⟩ : ∃ X, X = entC e := ⟨_, rfl⟩
  rw [← hX] at F ⊢
  obtain ⟨hx, _, x0, x1, x2, x3, x4, x5, x6, x7, x8, x9, x10, x11, x12⟩ := F
  have HX := Lib.hid hX
  have d1 : decide ((4000 : Int) < (e.body.size : Int)) = false := by simp; omega
  have d2 : decide ((100 : Int) < (beh.size : Int)) = false := by simp; omega
  have d3 : decide ((4000 : Int) < (s.size : Int)) = false := by simp; omega
  subst hs'
  clear hk
  subst ht
  have F4 := entF f
  obtain ⟨P4, hP4⟩ : ∃ P, P = entC f := ⟨_, rfl⟩
  rw [← hP4] at F4 HF
  have hst4 := storeEnt P4 F4.size F4.one
  have hs4 := F4.size
  have HP4 := Lib.hid hP4
  clear F4 hP4 hX hbz hbh
  have d6 : (s.toList == s.toList) = true := by simp
  go_enter Try.func14, Try.ntmps14
  go_wp2_with fail
  refine (HC.out.W _).mono ?_
  rintro r w1 ⟨rfl, hb1⟩
  have hr0 : RowE w1 w.heap.size X := (RowE.new w X).below hb1
  rw [HX.out] at hr0
  obtain ⟨c0, c1, c2, c3, c4, c5, c6, c7, c8, c9, c10, c11, c12, _⟩ := hr0.at_
  have HB1 := Lib.hid (And.intro (bnext (bnew (Below.refl _ _) _) hb1) hr0)
  clear hr0 hb1
  go_wp2_with fail
  refine (HC.out.R _).mono ?_
  rintro r w2 ⟨rfl, hb2⟩
  have HB := Lib.hid (And.intro (bnext HB1.out.1 hb2) (HB1.out.2.below hb2))
  clear hb2 HB1 c0 c1 c2 c3 c4 c5 c6 c7 c8 c9 c10 c11 c12 x0 x1 x2 x3 x4 x5 x6 x7 x8 x9 x10 x11 x12
  go_upto_region 14 with (fail)
  refine forget (fun W => Below w.heap.size w W) HB.out.1 ?_
  intro W7 hb7
  have HB7 := Lib.hid hb7
  clear HB hb7
  go_wp2_with fail
  refine (HF.out _).mono ?_
  rintro r w8 ⟨rfl, hb8⟩
  have HB8 := Lib.hid (bnext HB7.out hb8)
  clear hb8
  go_upto_region 15 with (fail)
  refine forget (fun W => Below w.heap.size w W ∧ RowE W w8.heap.size (entC f)) ⟨bnew HB8.out _, by have h := RowE.new w8 P4; rw [HP4.out] at h ⊢; exact h⟩ ?_
  rintro W9 ⟨hb9, hr9⟩
  obtain ⟨q, hq⟩ : ∃ q, q = w8.heap.size := ⟨_, rfl⟩
  rw [← hq] at hr9 ⊢
  clear hq
  obtain ⟨c0, c1, c2, c3, c4, c5, c6, c7, c8, c9, c10, c11, c12, _⟩ := hr9.at_
  have HB9 := Lib.hid (And.intro hb9 hr9)
  clear hb9 hr9 hst4 hs4 HB8 HB7
  go_wp2_with fail
  refine (HG.out.R _).mono ?_
  rintro r w10 ⟨rfl, hb10⟩
  have HB10 := Lib.hid (And.intro (bnext HB9.out.1 hb10) (HB9.out.2.below hb10))
  clear hb10 c0 c1 c2 c3 c4 c5 c6 c7 c8 c9 c10 c11 c12
  obtain ⟨c0, c1, c2, c3, c4, c5, c6, c7, c8, c9, c10, c11, c12, _⟩ := HB10.out.2.at_
  go_wp2_with fail
  refine (HG.out.W _).mono ?_
  rintro r w11 ⟨rfl, hb11⟩
  have HB11 := Lib.hid (bnext HB10.out.1 hb11)
  clear hb11 c0 c1 c2 c3 c4 c5 c6 c7 c8 c9 c10 c11 c12
  go_wp2_with fail
  refine (HA.out _).mono ?_
  rintro r w12 ⟨rfl, hb12⟩
  have HB12 := Lib.hid (bnext HB11.out hb12)
  clear hb12
  go_wp2_with fail
  go_ret
  exact ⟨rfl, HB12.out⟩
set_option maxRecDepth 100000 in
set_option maxHeartbeats 8000000 in
theorem back_0000 (e : En.E) (s s' t beh : ByteArray) (HC : Hid (BackC e t false)) (hbz : e.body.size ≤ 4000) (hbh : beh.size ≤ 100) (w : World)
    (ht : t = ⟨#[]⟩) (cut : Nat)
    (f : En.E) (HF : Hid (∀ W, Calls Try.prog 39 #[.string s'] W fun r w' => r = .returned (.tuple #[.agg (entC En.zero), .bool false]) ∧ Below W.heap.size W w'))
    (hk : s.size ≤ 4000) (hs' : s = s') :
    Calls Try.prog 14 #[.agg (entC e), .string s, .int .u16 (cut : Int), .string beh] w fun r w' => r = .returned (.bool true) ∧ Below w.heap.size w w' := by
  have HA := Lib.hid entAwake_any
  have F := entF e
  obtain ⟨X, hX⟩ : ∃ X, X = entC e := ⟨_, rfl⟩
  rw [← hX] at F ⊢
  obtain ⟨hx, _, x0, x1, x2, x3, x4, x5, x6, x7, x8, x9, x10, x11, x12⟩ := F
  have HX := Lib.hid hX
  have d1 : decide ((4000 : Int) < (e.body.size : Int)) = false := by simp; omega
  have d2 : decide ((100 : Int) < (beh.size : Int)) = false := by simp; omega
  have d3 : decide ((4000 : Int) < (s.size : Int)) = false := by simp; omega
  subst hs'
  clear hk
  subst ht
  have F4 := entF En.zero
  obtain ⟨P4, hP4⟩ : ∃ P, P = entC En.zero := ⟨_, rfl⟩
  rw [← hP4] at F4 HF
  have hst4 := storeEnt P4 F4.size F4.one
  have hs4 := F4.size
  have HP4 := Lib.hid hP4
  clear F4 hP4 hX hbz hbh
  have hze : ∀ W, (binOp .eql 62 (.agg #[.int .u64 0, .int .u64 0, .int .u8 0, .int .u8 0, .int .u8 0, .int .u8 0, .int .u8 0, .int .u8 0, .int .u8 0, .int .u8 0, .int .u8 0, .int .u8 0, .string ⟨#[]⟩]) (.agg #[.int .u64 0, .int .u64 0, .int .u8 0, .int .u8 0, .int .u8 0, .int .u8 0, .int .u8 0, .int .u8 0, .int .u8 0, .int .u8 0, .int .u8 0, .int .u8 0, .string ⟨#[]⟩])).run Try.prog W = .ok (.bool true) W := fun W => by
    have := ent_eql En.zero En.zero W
    rw [decide_eq_true rfl] at this
    exact this
  go_enter Try.func14, Try.ntmps14
  go_wp2_with fail
  refine (HC.out.W _).mono ?_
  rintro r w1 ⟨rfl, hb1⟩
  have hr0 : RowE w1 w.heap.size X := (RowE.new w X).below hb1
  rw [HX.out] at hr0
  obtain ⟨c0, c1, c2, c3, c4, c5, c6, c7, c8, c9, c10, c11, c12, _⟩ := hr0.at_
  have HB1 := Lib.hid (And.intro (bnext (bnew (Below.refl _ _) _) hb1) hr0)
  clear hr0 hb1
  go_wp2_with fail
  refine (HC.out.R _).mono ?_
  rintro r w2 ⟨rfl, hb2⟩
  have HB := Lib.hid (And.intro (bnext HB1.out.1 hb2) (HB1.out.2.below hb2))
  clear hb2 HB1 c0 c1 c2 c3 c4 c5 c6 c7 c8 c9 c10 c11 c12 x0 x1 x2 x3 x4 x5 x6 x7 x8 x9 x10 x11 x12
  go_upto_region 14 with (fail)
  refine forget (fun W => Below w.heap.size w W) HB.out.1 ?_
  intro W7 hb7
  have HB7 := Lib.hid hb7
  clear HB hb7
  go_wp2_with fail
  refine (HF.out _).mono ?_
  rintro r w8 ⟨rfl, hb8⟩
  have HB8 := Lib.hid (bnext HB7.out hb8)
  clear hb8
  go_upto_region 15 with (fail)
  refine forget (fun W => Below w.heap.size w W ∧ RowE W w8.heap.size (entC En.zero)) ⟨bnew HB8.out _, by have h := RowE.new w8 P4; rw [HP4.out] at h ⊢; exact h⟩ ?_
  rintro W9 ⟨hb9, hr9⟩
  obtain ⟨q, hq⟩ : ∃ q, q = w8.heap.size := ⟨_, rfl⟩
  rw [← hq] at hr9 ⊢
  clear hq
  have c0 : W9.cell? ⟨q, 0, none⟩ = some (.int .u64 0) := cell_of_row W9 q 0 _ _ _ hr9
  have c1 : W9.cell? ⟨q, 1, none⟩ = some (.int .u64 0) := cell_of_row W9 q 1 _ _ _ hr9
  have c2 : W9.cell? ⟨q, 2, none⟩ = some (.int .u8 0) := cell_of_row W9 q 2 _ _ _ hr9
  have c3 : W9.cell? ⟨q, 3, none⟩ = some (.int .u8 0) := cell_of_row W9 q 3 _ _ _ hr9
  have c4 : W9.cell? ⟨q, 4, none⟩ = some (.int .u8 0) := cell_of_row W9 q 4 _ _ _ hr9
  have c5 : W9.cell? ⟨q, 5, none⟩ = some (.int .u8 0) := cell_of_row W9 q 5 _ _ _ hr9
  have c6 : W9.cell? ⟨q, 6, none⟩ = some (.int .u8 0) := cell_of_row W9 q 6 _ _ _ hr9
  have c7 : W9.cell? ⟨q, 7, none⟩ = some (.int .u8 0) := cell_of_row W9 q 7 _ _ _ hr9
  have c8 : W9.cell? ⟨q, 8, none⟩ = some (.int .u8 0) := cell_of_row W9 q 8 _ _ _ hr9
  have c9 : W9.cell? ⟨q, 9, none⟩ = some (.int .u8 0) := cell_of_row W9 q 9 _ _ _ hr9
  have c10 : W9.cell? ⟨q, 10, none⟩ = some (.int .u8 0) := cell_of_row W9 q 10 _ _ _ hr9
  have c11 : W9.cell? ⟨q, 11, none⟩ = some (.int .u8 0) := cell_of_row W9 q 11 _ _ _ hr9
  have c12 : W9.cell? ⟨q, 12, none⟩ = some (.string ⟨#[]⟩) := cell_of_row W9 q 12 _ _ _ hr9
  have HB11 := Lib.hid hb9
  clear hb9 hr9 hst4 hs4 HB8 HB7
  go_wp2_with fail
  refine (HA.out _).mono ?_
  rintro r w12 ⟨rfl, hb12⟩
  have HB12 := Lib.hid (bnext HB11.out hb12)
  clear hb12
  go_wp2_with fail
  go_ret
  exact ⟨rfl, HB12.out⟩
end Go.Proofs.Ytkghldobefgjeaa
