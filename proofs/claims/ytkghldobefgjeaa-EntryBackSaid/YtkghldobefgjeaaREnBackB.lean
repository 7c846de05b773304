/-
  EntryBack's ways. WRITTEN BY wip/tools/gen_enback.py.
-/
import Derived.Test.YtkghldobefgjeaaREnBackH
set_option linter.unusedSimpArgs false
set_option linter.unusedVariables false
namespace Go.Proofs.Ytkghldobefgjeaa
open Go.RowKit
set_option linter.unusedVariables false
set_option maxRecDepth 100000 in
set_option maxHeartbeats 8000000 in
theorem back_1011 (e : En.E) (s s' t beh : ByteArray) (HC : Hid (BackC e t true)) (hbz : e.body.size ≤ 4000) (hbh : beh.size ≤ 100) (w : World)
    (ht0 : 0 < t.size) (ht : t.size ≤ 5000) (cut : Nat) (hc : cut < 65536)
    (HR1 : Hid (∀ W, Calls Try.prog 39 #[.string t] W fun r w' => r = .returned (.tuple #[.agg (entC e), .bool true]) ∧ Below W.heap.size W w'))
    (HR2 : Hid (∀ W, Calls Try.prog 39 #[.string (t.extract 0 (cut % t.size))] W fun r w' => r = .returned (.tuple #[.agg (entC En.zero), .bool false]) ∧ Below W.heap.size W w'))
    (HR3 : Hid (∀ W, Calls Try.prog 39 #[.string (t ++ beh)] W fun r w' => r = .returned (.tuple #[.agg (entC e), .bool true]) ∧ Below W.heap.size W w'))
    (hbe : beh.size = 0)
    (f : En.E) (HF : Hid (∀ W, Calls Try.prog 39 #[.string s'] W fun r w' => r = .returned (.tuple #[.agg (entC f), .bool true]) ∧ Below W.heap.size W w'))
    (HG : Hid (BackC f s' true))
    (hk : s.size ≤ 4000) (hs' : s = s') :
    Calls Try.prog 14 #[.agg (entC e), .string s, .int .u16 (cut : Int), .string beh] w fun r w' => r = .returned (.bool true) ∧ Below w.heap.size w w' := by
  have HA := Lib.hid entAwake_any
  have F := entF e
  obtain ⟨X, hX⟩ : ∃ X, X = entC e := ⟨_, rfl⟩
  rw [← hX] at F ⊢
  obtain ⟨hx, _, x0, x1, x2, x3, x4, x5, x6, x7, x8, x9, x10, x11, x12⟩ := F
  have HX := Lib.hid hX
  have d1 : decide ((4000 : Int) < (e.body.size : Int)) = false := by simp; omega
  have d2 : decide ((100 : Int) < (beh.size : Int)) = false := by simp; omega
  have d3 : decide ((4000 : Int) < (s.size : Int)) = false := by simp; omega
  subst hs'
  clear hk
  have d4 : t.toList.isEmpty = false := by
    rw [body_empty, beq_eq_false_iff_ne]; omega
  have i1 : (0 : Int) ≤ (cut : Int) % (t.size : Int) := by omega
  have i2 : (cut : Int) % (t.size : Int) ≤ (t.size : Int) := by
    have := Int.emod_lt_of_pos (cut : Int) (show (0 : Int) < (t.size : Int) by omega)
    omega
  have ha : ∀ W : World, (Op.stringOp .add t beh).run Try.prog W = .ok (.string (t ++ beh)) W := fun W => run_string_add_sum W _ _ (by omega)
  have d5 : beh.toList.isEmpty = true := by
    rw [body_empty]; simpa using hbe
  have hne : ∀ W, (binOp .neq 62 (.agg #[.int .u64 (e.idx : Int), .int .u64 (e.trm : Int), .int .u8 (e.kind : Int), .int .u8 (e.slot : Int), .int .u8 (e.tok.a0.toNat : Int), .int .u8 (e.tok.a1.toNat : Int), .int .u8 (e.tok.a2.toNat : Int), .int .u8 (e.tok.a3.toNat : Int), .int .u8 (e.tok.a4.toNat : Int), .int .u8 (e.tok.a5.toNat : Int), .int .u8 (e.tok.a6.toNat : Int), .int .u8 (e.tok.a7.toNat : Int), .string e.body]) (.agg #[.int .u64 (e.idx : Int), .int .u64 (e.trm : Int), .int .u8 (e.kind : Int), .int .u8 (e.slot : Int), .int .u8 (e.tok.a0.toNat : Int), .int .u8 (e.tok.a1.toNat : Int), .int .u8 (e.tok.a2.toNat : Int), .int .u8 (e.tok.a3.toNat : Int), .int .u8 (e.tok.a4.toNat : Int), .int .u8 (e.tok.a5.toNat : Int), .int .u8 (e.tok.a6.toNat : Int), .int .u8 (e.tok.a7.toNat : Int), .string e.body])).run Try.prog W = .ok (.bool false) W := fun W => by
    have := ent_neq e e W
    rw [decide_eq_true rfl] at this
    exact this
  have F1 := entF e
  obtain ⟨P1, hP1⟩ : ∃ P, P = entC e := ⟨_, rfl⟩
  rw [← hP1] at F1 HR1
  have hst1 := storeEnt P1 F1.size F1.one
  have hs1 := F1.size
  have HP1 := Lib.hid hP1
  have F2 := entF En.zero
  obtain ⟨P2, hP2⟩ : ∃ P, P = entC En.zero := ⟨_, rfl⟩
  rw [← hP2] at F2 HR2
  have hst2 := storeEnt P2 F2.size F2.one
  have hs2 := F2.size
  have F3 := entF e
  obtain ⟨P3, hP3⟩ : ∃ P, P = entC e := ⟨_, rfl⟩
  rw [← hP3] at F3 HR3
  have hst3 := storeEnt P3 F3.size F3.one
  have hs3 := F3.size
  clear F1 F2 F3 hP1 hP2 hP3 hbe
  have F4 := entF f
  obtain ⟨P4, hP4⟩ : ∃ P, P = entC f := ⟨_, rfl⟩
  rw [← hP4] at F4 HF
  have hst4 := storeEnt P4 F4.size F4.one
  have hs4 := F4.size
  have HP4 := Lib.hid hP4
  clear F4 hP4 hX hbz hbh
  have d6 : (s.toList == s.toList) = true := by simp
  go_enter Try.func14, Try.ntmps14
  go_wp2_with fail
  refine (HC.out.W _).mono ?_
  rintro r w1 ⟨rfl, hb1⟩
  have hr0 : RowE w1 w.heap.size X := (RowE.new w X).below hb1
  rw [HX.out] at hr0
  obtain ⟨c0, c1, c2, c3, c4, c5, c6, c7, c8, c9, c10, c11, c12, _⟩ := hr0.at_
  have HB1 := Lib.hid (And.intro (bnext (bnew (Below.refl _ _) _) hb1) hr0)
  clear hr0 hb1
  go_wp2_with fail
  refine (HC.out.R _).mono ?_
  rintro r w2 ⟨rfl, hb2⟩
  have HB := Lib.hid (And.intro (bnext HB1.out.1 hb2) (HB1.out.2.below hb2))
  clear hb2 HB1 c0 c1 c2 c3 c4 c5 c6 c7 c8 c9 c10 c11 c12 x0 x1 x2 x3 x4 x5 x6 x7 x8 x9 x10 x11 x12
  go_wp2_with fail
  refine (HR1.out _).mono ?_
  rintro r w3 ⟨rfl, hb3⟩
  have HB3 := Lib.hid (And.intro (bnext HB.out.1 hb3) (HB.out.2.below hb3))
  clear hb3
  go_wp2_with fail
  refine (HR2.out _).mono ?_
  rintro r w4 ⟨rfl, hb4⟩
  have HB4 := Lib.hid (And.intro (bnext (bnew HB3.out.1 (.cells P1 62)) hb4) (And.intro ((HB3.out.2.below (bnew (Below.refl _ _) (.cells P1 62))).below hb4) ((RowE.new w3 P1).below hb4)))
  clear hb4
  go_wp2_with fail
  refine (HR3.out _).mono ?_
  rintro r w5 ⟨rfl, hb5⟩
  have HB5 := Lib.hid (And.intro (bnext (bnew HB4.out.1 (.cells P2 62)) hb5) (And.intro ((HB4.out.2.1.below (bnew (Below.refl _ _) (.cells P2 62))).below hb5) ((HB4.out.2.2.below (bnew (Below.refl _ _) (.cells P2 62))).below hb5)))
  clear hb5
  go_upto_region 12 with (fail)
  refine forget (fun W => Below w.heap.size w W ∧ RowE W w.heap.size (entC e) ∧ RowE W w3.heap.size (entC e)) ⟨bnew HB5.out.1 _, HB5.out.2.1.below (bnew (Below.refl _ _) _), by have h := HB5.out.2.2.below (bnew (Below.refl _ _) (.cells P3 62)); rwa [HP1.out] at h⟩ ?_
  rintro W6 ⟨hb6, hr6, hq6⟩
  obtain ⟨c0, c1, c2, c3, c4, c5, c6, c7, c8, c9, c10, c11, c12, _⟩ := hr6.at_
  obtain ⟨k0, k1, k2, k3, k4, k5, k6, k7, k8, k9, k10, k11, k12, _⟩ := hq6.at_
  have HB6 := Lib.hid hb6
  clear hr6 hq6 hb6 hst1 hst2 hst3 hs1 hs2 hs3 HB HB3 HB4 HB5 HP1 HR1 HR2 HR3
  go_upto_region 14 with (fail)
  refine forget (fun W => Below w.heap.size w W) HB6.out ?_
  intro W7 hb7
  have HB7 := Lib.hid hb7
  clear HB6 hb7 c0 c1 c2 c3 c4 c5 c6 c7 c8 c9 c10 c11 c12 k0 k1 k2 k3 k4 k5 k6 k7 k8 k9 k10 k11 k12 hne
  go_wp2_with fail
  refine (HF.out _).mono ?_
  rintro r w8 ⟨rfl, hb8⟩
  have HB8 := Lib.hid (bnext HB7.out hb8)
  clear hb8
  go_upto_region 15 with (fail)
  refine forget (fun W => Below w.heap.size w W ∧ RowE W w8.heap.size (entC f)) ⟨bnew HB8.out _, by have h := RowE.new w8 P4; rw [HP4.out] at h ⊢; exact h⟩ ?_
  rintro W9 ⟨hb9, hr9⟩
  obtain ⟨q, hq⟩ : ∃ q, q = w8.heap.size := ⟨_, rfl⟩
  rw [← hq] at hr9 ⊢
  clear hq
  obtain ⟨c0, c1, c2, c3, c4, c5, c6, c7, c8, c9, c10, c11, c12, _⟩ := hr9.at_
  have HB9 := Lib.hid (And.intro hb9 hr9)
  clear hb9 hr9 hst4 hs4 HB8 HB7
  go_wp2_with fail
  refine (HG.out.R _).mono ?_
  rintro r w10 ⟨rfl, hb10⟩
  have HB10 := Lib.hid (And.intro (bnext HB9.out.1 hb10) (HB9.out.2.below hb10))
  clear hb10 c0 c1 c2 c3 c4 c5 c6 c7 c8 c9 c10 c11 c12
  obtain ⟨c0, c1, c2, c3, c4, c5, c6, c7, c8, c9, c10, c11, c12, _⟩ := HB10.out.2.at_
  go_wp2_with fail
  refine (HG.out.W _).mono ?_
  rintro r w11 ⟨rfl, hb11⟩
  have HB11 := Lib.hid (bnext HB10.out.1 hb11)
  clear hb11 c0 c1 c2 c3 c4 c5 c6 c7 c8 c9 c10 c11 c12
  go_wp2_with fail
  refine (HA.out _).mono ?_
  rintro r w12 ⟨rfl, hb12⟩
  have HB12 := Lib.hid (bnext HB11.out hb12)
  clear hb12
  go_wp2_with fail
  go_ret
  exact ⟨rfl, HB12.out⟩
set_option maxRecDepth 100000 in
set_option maxHeartbeats 8000000 in
theorem back_1010 (e : En.E) (s s' t beh : ByteArray) (HC : Hid (BackC e t true)) (hbz : e.body.size ≤ 4000) (hbh : beh.size ≤ 100) (w : World)
    (ht0 : 0 < t.size) (ht : t.size ≤ 5000) (cut : Nat) (hc : cut < 65536)
    (HR1 : Hid (∀ W, Calls Try.prog 39 #[.string t] W fun r w' => r = .returned (.tuple #[.agg (entC e), .bool true]) ∧ Below W.heap.size W w'))
    (HR2 : Hid (∀ W, Calls Try.prog 39 #[.string (t.extract 0 (cut % t.size))] W fun r w' => r = .returned (.tuple #[.agg (entC En.zero), .bool false]) ∧ Below W.heap.size W w'))
    (HR3 : Hid (∀ W, Calls Try.prog 39 #[.string (t ++ beh)] W fun r w' => r = .returned (.tuple #[.agg (entC En.zero), .bool false]) ∧ Below W.heap.size W w'))
    (hbe : beh.size ≠ 0)
    (f : En.E) (HF : Hid (∀ W, Calls Try.prog 39 #[.string s'] W fun r w' => r = .returned (.tuple #[.agg (entC f), .bool true]) ∧ Below W.heap.size W w'))
    (HG : Hid (BackC f s' true))
    (hk : s.size ≤ 4000) (hs' : s = s') :
    Calls Try.prog 14 #[.agg (entC e), .string s, .int .u16 (cut : Int), .string beh] w fun r w' => r = .returned (.bool true) ∧ Below w.heap.size w w' := by
  have HA := Lib.hid entAwake_any
  have F := entF e
  obtain ⟨X, hX⟩ : ∃ X, X = entC e := ⟨_, rfl⟩
  rw [← hX] at F ⊢
  obtain ⟨hx, _, x0, x1, x2, x3, x4, x5, x6, x7, x8, x9, x10, x11, x12⟩ := F
  have HX := Lib.hid hX
  have d1 : decide ((4000 : Int) < (e.body.size : Int)) = false := by simp; omega
  have d2 : decide ((100 : Int) < (beh.size : Int)) = false := by simp; omega
  have d3 : decide ((4000 : Int) < (s.size : Int)) = false := by simp; omega
  subst hs'
  clear hk
  have d4 : t.toList.isEmpty = false := by
    rw [body_empty, beq_eq_false_iff_ne]; omega
  have i1 : (0 : Int) ≤ (cut : Int) % (t.size : Int) := by omega
  have i2 : (cut : Int) % (t.size : Int) ≤ (t.size : Int) := by
    have := Int.emod_lt_of_pos (cut : Int) (show (0 : Int) < (t.size : Int) by omega)
    omega
  have ha : ∀ W : World, (Op.stringOp .add t beh).run Try.prog W = .ok (.string (t ++ beh)) W := fun W => run_string_add_sum W _ _ (by omega)
  have d5 : beh.toList.isEmpty = false := by
    rw [body_empty]; simpa using hbe
  have hne : ∀ W, (binOp .neq 62 (.agg #[.int .u64 (e.idx : Int), .int .u64 (e.trm : Int), .int .u8 (e.kind : Int), .int .u8 (e.slot : Int), .int .u8 (e.tok.a0.toNat : Int), .int .u8 (e.tok.a1.toNat : Int), .int .u8 (e.tok.a2.toNat : Int), .int .u8 (e.tok.a3.toNat : Int), .int .u8 (e.tok.a4.toNat : Int), .int .u8 (e.tok.a5.toNat : Int), .int .u8 (e.tok.a6.toNat : Int), .int .u8 (e.tok.a7.toNat : Int), .string e.body]) (.agg #[.int .u64 (e.idx : Int), .int .u64 (e.trm : Int), .int .u8 (e.kind : Int), .int .u8 (e.slot : Int), .int .u8 (e.tok.a0.toNat : Int), .int .u8 (e.tok.a1.toNat : Int), .int .u8 (e.tok.a2.toNat : Int), .int .u8 (e.tok.a3.toNat : Int), .int .u8 (e.tok.a4.toNat : Int), .int .u8 (e.tok.a5.toNat : Int), .int .u8 (e.tok.a6.toNat : Int), .int .u8 (e.tok.a7.toNat : Int), .string e.body])).run Try.prog W = .ok (.bool false) W := fun W => by
    have := ent_neq e e W
    rw [decide_eq_true rfl] at this
    exact this
  have F1 := entF e
  obtain ⟨P1, hP1⟩ : ∃ P, P = entC e := ⟨_, rfl⟩
  rw [← hP1] at F1 HR1
  have hst1 := storeEnt P1 F1.size F1.one
  have hs1 := F1.size
  have HP1 := Lib.hid hP1
  have F2 := entF En.zero
  obtain ⟨P2, hP2⟩ : ∃ P, P = entC En.zero := ⟨_, rfl⟩
  rw [← hP2] at F2 HR2
  have hst2 := storeEnt P2 F2.size F2.one
  have hs2 := F2.size
  have F3 := entF En.zero
  obtain ⟨P3, hP3⟩ : ∃ P, P = entC En.zero := ⟨_, rfl⟩
  rw [← hP3] at F3 HR3
  have hst3 := storeEnt P3 F3.size F3.one
  have hs3 := F3.size
  clear F1 F2 F3 hP1 hP2 hP3 hbe
  have F4 := entF f
  obtain ⟨P4, hP4⟩ : ∃ P, P = entC f := ⟨_, rfl⟩
  rw [← hP4] at F4 HF
  have hst4 := storeEnt P4 F4.size F4.one
  have hs4 := F4.size
  have HP4 := Lib.hid hP4
  clear F4 hP4 hX hbz hbh
  have d6 : (s.toList == s.toList) = true := by simp
  go_enter Try.func14, Try.ntmps14
  go_wp2_with fail
  refine (HC.out.W _).mono ?_
  rintro r w1 ⟨rfl, hb1⟩
  have hr0 : RowE w1 w.heap.size X := (RowE.new w X).below hb1
  rw [HX.out] at hr0
  obtain ⟨c0, c1, c2, c3, c4, c5, c6, c7, c8, c9, c10, c11, c12, _⟩ := hr0.at_
  have HB1 := Lib.hid (And.intro (bnext (bnew (Below.refl _ _) _) hb1) hr0)
  clear hr0 hb1
  go_wp2_with fail
  refine (HC.out.R _).mono ?_
  rintro r w2 ⟨rfl, hb2⟩
  have HB := Lib.hid (And.intro (bnext HB1.out.1 hb2) (HB1.out.2.below hb2))
  clear hb2 HB1 c0 c1 c2 c3 c4 c5 c6 c7 c8 c9 c10 c11 c12 x0 x1 x2 x3 x4 x5 x6 x7 x8 x9 x10 x11 x12
  go_wp2_with fail
  refine (HR1.out _).mono ?_
  rintro r w3 ⟨rfl, hb3⟩
  have HB3 := Lib.hid (And.intro (bnext HB.out.1 hb3) (HB.out.2.below hb3))
  clear hb3
  go_wp2_with fail
  refine (HR2.out _).mono ?_
  rintro r w4 ⟨rfl, hb4⟩
  have HB4 := Lib.hid (And.intro (bnext (bnew HB3.out.1 (.cells P1 62)) hb4) (And.intro ((HB3.out.2.below (bnew (Below.refl _ _) (.cells P1 62))).below hb4) ((RowE.new w3 P1).below hb4)))
  clear hb4
  go_wp2_with fail
  refine (HR3.out _).mono ?_
  rintro r w5 ⟨rfl, hb5⟩
  have HB5 := Lib.hid (And.intro (bnext (bnew HB4.out.1 (.cells P2 62)) hb5) (And.intro ((HB4.out.2.1.below (bnew (Below.refl _ _) (.cells P2 62))).below hb5) ((HB4.out.2.2.below (bnew (Below.refl _ _) (.cells P2 62))).below hb5)))
  clear hb5
  go_upto_region 12 with (fail)
  refine forget (fun W => Below w.heap.size w W ∧ RowE W w.heap.size (entC e) ∧ RowE W w3.heap.size (entC e)) ⟨bnew HB5.out.1 _, HB5.out.2.1.below (bnew (Below.refl _ _) _), by have h := HB5.out.2.2.below (bnew (Below.refl _ _) (.cells P3 62)); rwa [HP1.out] at h⟩ ?_
  rintro W6 ⟨hb6, hr6, hq6⟩
  obtain ⟨c0, c1, c2, c3, c4, c5, c6, c7, c8, c9, c10, c11, c12, _⟩ := hr6.at_
  obtain ⟨k0, k1, k2, k3, k4, k5, k6, k7, k8, k9, k10, k11, k12, _⟩ := hq6.at_
  have HB6 := Lib.hid hb6
  clear hr6 hq6 hb6 hst1 hst2 hst3 hs1 hs2 hs3 HB HB3 HB4 HB5 HP1 HR1 HR2 HR3
  go_upto_region 14 with (fail)
  refine forget (fun W => Below w.heap.size w W) HB6.out ?_
  intro W7 hb7
  have HB7 := Lib.hid hb7
  clear HB6 hb7 c0 c1 c2 c3 c4 c5 c6 c7 c8 c9 c10 c11 c12 k0 k1 k2 k3 k4 k5 k6 k7 k8 k9 k10 k11 k12 hne
  go_wp2_with fail
  refine (HF.out _).mono ?_
  rintro r w8 ⟨rfl, hb8⟩
  have HB8 := Lib.hid (bnext HB7.out hb8)
  clear hb8
  go_upto_region 15 with (fail)
  refine forget (fun W => Below w.heap.size w W ∧ RowE W w8.heap.size (entC f)) ⟨bnew HB8.out _, by have h := RowE.new w8 P4; rw [HP4.out] at h ⊢; exact h⟩ ?_
  rintro W9 ⟨hb9, hr9⟩
  obtain ⟨q, hq⟩ : ∃ q, q = w8.heap.size := ⟨_, rfl⟩
  rw [← hq] at hr9 ⊢
  clear hq
  obtain ⟨c0, c1, c2, c3, c4, c5, c6, c7, c8, c9, c10, c11, c12, _⟩ := hr9.at_
  have HB9 := Lib.hid (And.intro hb9 hr9)
  clear hb9 hr9 hst4 hs4 HB8 HB7
  go_wp2_with fail
  refine (HG.out.R _).mono ?_
  rintro r w10 ⟨rfl, hb10⟩
  have HB10 := Lib.hid (And.intro (bnext HB9.out.1 hb10) (HB9.out.2.below hb10))
  clear hb10 c0 c1 c2 c3 c4 c5 c6 c7 c8 c9 c10 c11 c12
  obtain ⟨c0, c1, c2, c3, c4, c5, c6, c7, c8, c9, c10, c11, c12, _⟩ := HB10.out.2.at_
  go_wp2_with fail
  refine (HG.out.W _).mono ?_
  rintro r w11 ⟨rfl, hb11⟩
  have HB11 := Lib.hid (bnext HB10.out.1 hb11)
  clear hb11 c0 c1 c2 c3 c4 c5 c6 c7 c8 c9 c10 c11 c12
  go_wp2_with fail
  refine (HA.out _).mono ?_
  rintro r w12 ⟨rfl, hb12⟩
  have HB12 := Lib.hid (bnext HB11.out hb12)
  clear hb12
  go_wp2_with fail
  go_ret
  exact ⟨rfl, HB12.out⟩
set_option maxRecDepth 100000 in
set_option maxHeartbeats 8000000 in
theorem back_1001 (e : En.E) (s s' t beh : ByteArray) (HC : Hid (BackC e t true)) (hbz : e.body.size ≤ 4000) (hbh : beh.size ≤ 100) (w : World)
    (ht0 : 0 < t.size) (ht : t.size ≤ 5000) (cut : Nat) (hc : cut < 65536)
    (HR1 : Hid (∀ W, Calls Try.prog 39 #[.string t] W fun r w' => r = .returned (.tuple #[.agg (entC e), .bool true]) ∧ Below W.heap.size W w'))
    (HR2 : Hid (∀ W, Calls Try.prog 39 #[.string (t.extract 0 (cut % t.size))] W fun r w' => r = .returned (.tuple #[.agg (entC En.zero), .bool false]) ∧ Below W.heap.size W w'))
    (HR3 : Hid (∀ W, Calls Try.prog 39 #[.string (t ++ beh)] W fun r w' => r = .returned (.tuple #[.agg (entC e), .bool true]) ∧ Below W.heap.size W w'))
    (hbe : beh.size = 0)
    (f : En.E) (HF : Hid (∀ W, Calls Try.prog 39 #[.string s'] W fun r w' => r = .returned (.tuple #[.agg (entC En.zero), .bool false]) ∧ Below W.heap.size W w'))
    (hk : s.size ≤ 4000) (hs' : s = s') :
    Calls Try.prog 14 #[.agg (entC e), .string s, .int .u16 (cut : Int), .string beh] w fun r w' => r = .returned (.bool true) ∧ Below w.heap.size w w' := by
  have HA := Lib.hid entAwake_any
  have F := entF e
  obtain ⟨X, hX⟩ : ∃ X, X = entC e := ⟨_, rfl⟩
  rw [← hX] at F ⊢
  obtain ⟨hx, _, x0, x1, x2, x3, x4, x5, x6, x7, x8, x9, x10, x11, x12⟩ := F
  have HX := Lib.hid hX
  have d1 : decide ((4000 : Int) < (e.body.size : Int)) = false := by simp; omega
  have d2 : decide ((100 : Int) < (beh.size : Int)) = false := by simp; omega
  have d3 : decide ((4000 : Int) < (s.size : Int)) = false := by simp; omega
  subst hs'
  clear hk
  have d4 : t.toList.isEmpty = false := by
    rw [body_empty, beq_eq_false_iff_ne]; omega
  have i1 : (0 : Int) ≤ (cut : Int) % (t.size : Int) := by omega
  have i2 : (cut : Int) % (t.size : Int) ≤ (t.size : Int) := by
    have := Int.emod_lt_of_pos (cut : Int) (show (0 : Int) < (t.size : Int) by omega)
    omega
  have ha : ∀ W : World, (Op.stringOp .add t beh).run Try.prog W = .ok (.string (t ++ beh)) W := fun W => run_string_add_sum W _ _ (by omega)
  have d5 : beh.toList.isEmpty = true := by
    rw [body_empty]; simpa using hbe
  have hne : ∀ W, (binOp .neq 62 (.agg #[.int .u64 (e.idx : Int), .int .u64 (e.trm : Int), .int .u8 (e.kind : Int), .int .u8 (e.slot : Int), .int .u8 (e.tok.a0.toNat : Int), .int .u8 (e.tok.a1.toNat : Int), .int .u8 (e.tok.a2.toNat : Int), .int .u8 (e.tok.a3.toNat : Int), .int .u8 (e.tok.a4.toNat : Int), .int .u8 (e.tok.a5.toNat : Int), .int .u8 (e.tok.a6.toNat : Int), .int .u8 (e.tok.a7.toNat : Int), .string e.body]) (.agg #[.int .u64 (e.idx : Int), .int .u64 (e.trm : Int), .int .u8 (e.kind : Int), .int .u8 (e.slot : Int), .int .u8 (e.tok.a0.toNat : Int), .int .u8 (e.tok.a1.toNat : Int), .int .u8 (e.tok.a2.toNat : Int), .int .u8 (e.tok.a3.toNat : Int), .int .u8 (e.tok.a4.toNat : Int), .int .u8 (e.tok.a5.toNat : Int), .int .u8 (e.tok.a6.toNat : Int), .int .u8 (e.tok.a7.toNat : Int), .string e.body])).run Try.prog W = .ok (.bool false) W := fun W => by
    have := ent_neq e e W
    rw [decide_eq_true rfl] at this
    exact this
  have F1 := entF e
  obtain ⟨P1, hP1⟩ : ∃ P, P = entC e := ⟨_, rfl⟩
  rw [← hP1] at F1 HR1
  have hst1 := storeEnt P1 F1.size F1.one
  have hs1 := F1.size
  have HP1 := Lib.hid hP1
  have F2 := entF En.zero
  obtain ⟨P2, hP2⟩ : ∃ P, P = entC En.zero := ⟨_, rfl⟩
  rw [← hP2] at F2 HR2
  have hst2 := storeEnt P2 F2.size F2.one
  have hs2 := F2.size
  have F3 := entF e
  obtain ⟨P3, hP3⟩ : ∃ P, P = entC e := ⟨_, rfl⟩
  rw [← hP3] at F3 HR3
  have hst3 := storeEnt P3 F3.size F3.one
  have hs3 := F3.size
  clear F1 F2 F3 hP1 hP2 hP3 hbe
  have F4 := entF En.zero
  obtain ⟨P4, hP4⟩ : ∃ P, P = entC En.zero := ⟨_, rfl⟩
  rw [← hP4] at F4 HF
  have hst4 := storeEnt P4 F4.size F4.one
  have hs4 := F4.size
  have HP4 := Lib.hid hP4
  clear F4 hP4 hX hbz hbh
  have hze : ∀ W, (binOp .eql 62 (.agg #[.int .u64 0, .int .u64 0, .int .u8 0, .int .u8 0, .int .u8 0, .int .u8 0, .int .u8 0, .int .u8 0, .int .u8 0, .int .u8 0, .int .u8 0, .int .u8 0, .string ⟨#[]⟩]) (.agg #[.int .u64 0, .int .u64 0, .int .u8 0, .int .u8 0, .int .u8 0, .int .u8 0, .int .u8 0, .int .u8 0, .int .u8 0, .int .u8 0, .int .u8 0, .int .u8 0, .string ⟨#[]⟩])).run Try.prog W = .ok (.bool true) W := fun W => by
    have := ent_eql En.zero En.zero W
    rw [decide_eq_true rfl] at this
    exact this
  go_enter Try.func14, Try.ntmps14
  go_wp2_with fail
  refine (HC.out.W _).mono ?_
  rintro r w1 ⟨rfl, hb1⟩
  have hr0 : RowE w1 w.heap.size X := (RowE.new w X).below hb1
  rw [HX.out] at hr0
  obtain ⟨c0, c1, c2, c3, c4, c5, c6, c7, c8, c9, c10, c11, c12, _⟩ := hr0.at_
  have HB1 := Lib.hid (And.intro (bnext (bnew (Below.refl _ _) _) hb1) hr0)
  clear hr0 hb1
  go_wp2_with fail
  refine (HC.out.R _).mono ?_
  rintro r w2 ⟨rfl, hb2⟩
  have HB := Lib.hid (And.intro (bnext HB1.out.1 hb2) (HB1.out.2.below hb2))
  clear hb2 HB1 c0 c1 c2 c3 c4 c5 c6 c7 c8 c9 c10 c11 c12 x0 x1 x2 x3 x4 x5 x6 x7 x8 x9 x10 x11 x12
  go_wp2_with fail
  refine (HR1.out _).mono ?_
  rintro r w3 ⟨rfl, hb3⟩
  have HB3 := Lib.hid (And.intro (bnext HB.out.1 hb3) (HB.out.2.below hb3))
  clear hb3
  go_wp2_with fail
  refine (HR2.out _).mono ?_
  rintro r w4 ⟨rfl, hb4⟩
  have HB4 := Lib.hid (And.intro (bnext (bnew HB3.out.1 (.cells P1 62)) hb4) (And.intro ((HB3.out.2.below (bnew (Below.refl _ _) (.cells P1 62))).below hb4) ((RowE.new w3 P1).below hb4)))
  clear hb4
  go_wp2_with fail
  refine (HR3.out _).mono ?_
  rintro r w5 ⟨rfl, hb5⟩
  have HB5 := Lib.hid (And.intro (bnext (bnew HB4.out.1 (.cells P2 62)) hb5) (And.intro ((HB4.out.2.1.below (bnew (Below.refl _ _) (.cells P2 62))).below hb5) ((HB4.out.2.2.below (bnew (Below.refl _ _) (.cells P2 62))).below hb5)))
  clear hb5
  go_upto_region 12 with (fail)
  refine forget (fun W => Below w.heap.size w W ∧ RowE W w.heap.size (entC e) ∧ RowE W w3.heap.size (entC e)) ⟨bnew HB5.out.1 _, HB5.out.2.1.below (bnew (Below.refl _ _) _), by have h := HB5.out.2.2.below (bnew (Below.refl _ _) (.cells P3 62)); rwa [HP1.out] at h⟩ ?_
  rintro W6 ⟨hb6, hr6, hq6⟩
  obtain ⟨c0, c1, c2, c3, c4, c5, c6, c7, c8, c9, c10, c11, c12, _⟩ := hr6.at_
  obtain ⟨k0, k1, k2, k3, k4, k5, k6, k7, k8, k9, k10, k11, k12, _⟩ := hq6.at_
  have HB6 := Lib.hid hb6
  clear hr6 hq6 hb6 hst1 hst2 hst3 hs1 hs2 hs3 HB HB3 HB4 HB5 HP1 HR1 HR2 HR3
  go_upto_region 14 with (fail)
  refine forget (fun W => Below w.heap.size w W) HB6.out ?_
  intro W7 hb7
  have HB7 := Lib.hid hb7
  clear HB6 hb7 c0 c1 c2 c3 c4 c5 c6 c7 c8 c9 c10 c11 c12 k0 k1 k2 k3 k4 k5 k6 k7 k8 k9 k10 k11 k12 hne
  go_wp2_with fail
  refine (HF.out _).mono ?_
  rintro r w8 ⟨rfl, hb8⟩
  have HB8 := Lib.hid (bnext HB7.out hb8)
  clear hb8
  go_upto_region 15 with (fail)
  refine forget (fun W => Below w.heap.size w W ∧ RowE W w8.heap.size (entC En.zero)) ⟨bnew HB8.out _, by have h := RowE.new w8 P4; rw [HP4.out] at h ⊢; exact h⟩ ?_
  rintro W9 ⟨hb9, hr9⟩
  obtain ⟨q, hq⟩ : ∃ q, q = w8.heap.size := ⟨_, rfl⟩
  rw [← hq] at hr9 ⊢
  clear hq
  have c0 : W9.cell? ⟨q, 0, none⟩ = some (.int .u64 0) := cell_of_row W9 q 0 _ _ _ hr9
  have c1 : W9.cell? ⟨q, 1, none⟩ = some (.int .u64 0) := cell_of_row W9 q 1 _ _ _ hr9
  have c2 : W9.cell? ⟨q, 2, none⟩ = some (.int .u8 0) := cell_of_row W9 q 2 _ _ _ hr9
  have c3 : W9.cell? ⟨q, 3, none⟩ = some (.int .u8 0) := cell_of_row W9 q 3 _ _ _ hr9
  have c4 : W9.cell? ⟨q, 4, none⟩ = some (.int .u8 0) := cell_of_row W9 q 4 _ _ _ hr9
  have c5 : W9.cell? ⟨q, 5, none⟩ = some (.int .u8 0) := cell_of_row W9 q 5 _ _ _ hr9
  have c6 : W9.cell? ⟨q, 6, none⟩ = some (.int .u8 0) := cell_of_row W9 q 6 _ _ _ hr9
  have c7 : W9.cell? ⟨q, 7, none⟩ = some (.int .u8 0) := cell_of_row W9 q 7 _ _ _ hr9
  have c8 : W9.cell? ⟨q, 8, none⟩ = some (.int .u8 0) := cell_of_row W9 q 8 _ _ _ hr9
  have c9 : W9.cell? ⟨q, 9, none⟩ = some (.int .u8 0) := cell_of_row W9 q 9 _ _ _ hr9
  have c10 : W9.cell? ⟨q, 10, none⟩ = some (.int .u8 0) := cell_of_row W9 q 10 _ _ _ hr9
  have c11 : W9.cell? ⟨q, 11, none⟩ = some (.int .u8 0) := cell_of_row W9 q 11 _ _ _ hr9
  have c12 : W9.cell? ⟨q, 12, none⟩ = some (.string ⟨#[]⟩) := cell_of_row W9 q 12 _ _ _ hr9
  have HB11 := Lib.hid hb9
  clear hb9 hr9 hst4 hs4 HB8 HB7
  go_wp2_with fail
  refine (HA.out _).mono ?_
  rintro r w12 ⟨rfl, hb12⟩
  have HB12 := Lib.hid (bnext HB11.out hb12)
  clear hb12
  go_wp2_with fail
  go_ret
  exact ⟨rfl, HB12.out⟩
set_option maxRecDepth 100000 in
set_option maxHeartbeats 8000000 in
theorem back_1000 (e : En.E) (s s' t beh : ByteArray) (HC : Hid (BackC e t true)) (hbz : e.body.size ≤ 4000) (hbh : beh.size ≤ 100) (w : World)
    (ht0 : 0 < t.size) (ht : t.size ≤ 5000) (cut : Nat) (hc : cut < 65536)
    (HR1 : Hid (∀ W, Calls Try.prog 39 #[.string t] W fun r w' => r = .returned (.tuple #[.agg (entC e), .bool true]) ∧ Below W.heap.size W w'))
    (HR2 : Hid (∀ W, Calls Try.prog 39 #[.string (t.extract 0 (cut % t.size))] W fun r w' => r = .returned (.tuple #[.agg (entC En.zero), .bool false]) ∧ Below W.heap.size W w'))
    (HR3 : Hid (∀ W, Calls Try.prog 39 #[.string (t ++ beh)] W fun r w' => r = .returned (.tuple #[.agg (entC En.zero), .bool false]) ∧ Below W.heap.size W w'))
    (hbe : beh.size ≠ 0)
    (f : En.E) (HF : Hid (∀ W, Calls Try.prog 39 #[.string s'] W fun r w' => r = .returned (.tuple #[.agg (entC En.zero), .bool false]) ∧ Below W.heap.size W w'))
    (hk : s.size ≤ 4000) (hs' : s = s') :
    Calls Try.prog 14 #[.agg (entC e), .string s, .int .u16 (cut : Int), .string beh] w fun r w' => r = .returned (.bool true) ∧ Below w.heap.size w w' := by
  have HA := Lib.hid entAwake_any
  have F := entF e
  obtain ⟨X, hX⟩ : ∃ X, X = entC e := ⟨_, rfl⟩
  rw [← hX] at F ⊢
  obtain ⟨hx, _, x0, x1, x2, x3, x4, x5, x6, x7, x8, x9, x10, x11, x12⟩ := F
  have HX := Lib.hid hX
  have d1 : decide ((4000 : Int) < (e.body.size : Int)) = false := by simp; omega
  have d2 : decide ((100 : Int) < (beh.size : Int)) = false := by simp; omega
  have d3 : decide ((4000 : Int) < (s.size : Int)) = false := by simp; omega
  subst hs'
  clear hk
  have d4 : t.toList.isEmpty = false := by
    rw [body_empty, beq_eq_false_iff_ne]; omega
  have i1 : (0 : Int) ≤ (cut : Int) % (t.size : Int) := by omega
  have i2 : (cut : Int) % (t.size : Int) ≤ (t.size : Int) := by
    have := Int.emod_lt_of_pos (cut : Int) (show (0 : Int) < (t.size : Int) by omega)
    omega
  have ha : ∀ W : World, (Op.stringOp .add t beh).run Try.prog W = .ok (.string (t ++ beh)) W := fun W => run_string_add_sum W _ _ (by omega)
  have d5 : beh.toList.isEmpty = false := by
    rw [body_empty]; simpa using hbe
  have hne : ∀ W, (binOp .neq 62 (.agg #[.int .u64 (e.idx : Int), .int .u64 (e.trm : Int), .int .u8 (e.kind : Int), .int .u8 (e.slot : Int), .int .u8 (e.tok.a0.toNat : Int), .int .u8 (e.tok.a1.toNat : Int), .int .u8 (e.tok.a2.toNat : Int), .int .u8 (e.tok.a3.toNat : Int), .int .u8 (e.tok.a4.toNat : Int), .int .u8 (e.tok.a5.toNat : Int), .int .u8 (e.tok.a6.toNat : Int), .int .u8 (e.tok.a7.toNat : Int), .string e.body]) (.agg #[.int .u64 (e.idx : Int), .int .u64 (e.trm : Int), .int .u8 (e.kind : Int), .int .u8 (e.slot : Int), .int .u8 (e.tok.a0.toNat : Int), .int .u8 (e.tok.a1.toNat : Int), .int .u8 (e.tok.a2.toNat : Int), .int .u8 (e.tok.a3.toNat : Int), .int .u8 (e.tok.a4.toNat : Int), .int .u8 (e.tok.a5.toNat : Int), .int .u8 (e.tok.a6.toNat : Int), .int .u8 (e.tok.a7.toNat : Int), .string e.body])).run Try.prog W = .ok (.bool false) W := fun W => by
    have := ent_neq e e W
    rw [decide_eq_true rfl] at this
    exact this
  have F1 := entF e
  obtain ⟨P1, hP1⟩ : ∃ P, P = entC e := ⟨_, rfl⟩
  rw [← hP1] at F1 HR1
  have hst1 := storeEnt P1 F1.size F1.one
  have hs1 := F1.size
  have HP1 := Lib.hid hP1
  have F2 := entF En.zero
  obtain ⟨P2, hP2⟩ : ∃ P, P = entC En.zero := ⟨_, rfl⟩
  rw [← hP2] at F2 HR2
  have hst2 := storeEnt P2 F2.size F2.one
  have hs2 := F2.size
  have F3 := entF En.zero
  obtain ⟨P3, hP3⟩ : ∃ P, P = entC En.zero := ⟨_, rfl⟩
  rw [← hP3] at F3 HR3
  have hst3 := storeEnt P3 F3.size F3.one
  have hs3 := F3.size
  clear F1 F2 F3 hP1 hP2 hP3 hbe
  have F4 := entF En.zero
  obtain ⟨P4, hP4⟩ : ∃ P, P = entC En.zero := ⟨_, rfl⟩
  rw [← hP4] at F4 HF
  have hst4 := storeEnt P4 F4.size F4.one
  have hs4 := F4.size
  have HP4 := Lib.hid hP4
  clear F4 hP4 hX hbz hbh
  have hze : ∀ W, (binOp .eql 62 (.agg #[.int .u64 0, .int .u64 0, .int .u8 0, .int .u8 0, .int .u8 0, .int .u8 0, .int .u8 0, .int .u8 0, .int .u8 0, .int .u8 0, .int .u8 0, .int .u8 0, .string ⟨#[]⟩]) (.agg #[.int .u64 0, .int .u64 0, .int .u8 0, .int .u8 0, .int .u8 0, .int .u8 0, .int .u8 0, .int .u8 0, .int .u8 0, .int .u8 0, .int .u8 0, .int .u8 0, .string ⟨#[]⟩])).run Try.prog W = .ok (.bool true) W := fun W => by
    have := ent_eql En.zero En.zero W
    rw [decide_eq_true rfl] at this
    exact this
  go_enter Try.func14, Try.ntmps14
  go_wp2_with fail
  refine (HC.out.W _).mono ?_
  rintro r w1 ⟨rfl, hb1⟩
  have hr0 : RowE w1 w.heap.size X := (RowE.new w X).below hb1
  rw [HX.out] at hr0
  obtain ⟨c0, c1, c2, c3, c4, c5, c6, c7, c8, c9, c10, c11, c12, _⟩ := hr0.at_
  have HB1 := Lib.hid (And.intro (bnext (bnew (Below.refl _ _) _) hb1) hr0)
  clear hr0 hb1
  go_wp2_with fail
  refine (HC.out.R _).mono ?_
  rintro r w2 ⟨rfl, hb2⟩
  have HB := Lib.hid (And.intro (bnext HB1.out.1 hb2) (HB1.out.2.below hb2))
  clear hb2 HB1 c0 c1 c2 c3 c4 c5 c6 c7 c8 c9 c10 c11 c12 x0 x1 x2 x3 x4 x5 x6 x7 x8 x9 x10 x11 x12
  go_wp2_with fail
  refine (HR1.out _).mono ?_
  rintro r w3 ⟨rfl, hb3⟩
  have HB3 := Lib.hid (And.intro (bnext HB.out.1 hb3) (HB.out.2.below hb3))
  clear hb3
  go_wp2_with fail
  refine (HR2.out _).mono ?_
  rintro r w4 ⟨rfl, hb4⟩
  have HB4 := Lib.hid (And.intro (bnext (bnew HB3.out.1 (.cells P1 62)) hb4) (And.intro ((HB3.out.2.below (bnew (Below.refl _ _) (.cells P1 62))).below hb4) ((RowE.new w3 P1).below hb4)))
  clear hb4
  go_wp2_with fail
  refine (HR3.out _).mono ?_
  rintro r w5 ⟨rfl, hb5⟩
  have HB5 := Lib.hid (And.intro (bnext (bnew HB4.out.1 (.cells P2 62)) hb5) (And.intro ((HB4.out.2.1.below (bnew (Below.refl _ _) (.cells P2 62))).below hb5) ((HB4.out.2.2.below (bnew (Below.refl _ _) (.cells P2 62))).below hb5)))
  clear hb5
  go_upto_region 12 with (fail)
  refine forget (fun W => Below w.heap.size w W ∧ RowE W w.heap.size (entC e) ∧ RowE W w3.heap.size (entC e)) ⟨bnew HB5.out.1 _, HB5.out.2.1.below (bnew (Below.refl _ _) _), by have h := HB5.out.2.2.below (bnew (Below.refl _ _) (.cells P3 62)); rwa [HP1.out] at h⟩ ?_
  rintro W6 ⟨hb6, hr6, hq6⟩
  obtain ⟨c0, c1, c2, c3, c4, c5, c6, c7, c8, c9, c10, c11, c12, _⟩ := hr6.at_
  obtain ⟨k0, k1, k2, k3, k4, k5, k6, k7, k8, k9, k10, k11, k12, _⟩ := hq6.at_
  have HB6 := Lib.hid hb6
  clear hr6 hq6 hb6 hst1 hst2 hst3 hs1 hs2 hs3 HB HB3 HB4 HB5 HP1 HR1 HR2 HR3
  go_upto_region 14 with (fail)
  refine forget (fun W => Below w.heap.size w W) HB6.out ?_
  intro W7 hb7
  have HB7 := Lib.hid hb7
  clear HB6 hb7 c0 c1 c2 c3 c4 c5 c6 c7 c8 c9 c10 c11 c12 k0 k1 k2 k3 k4 k5 k6 k7 k8 k9 k10 k11 k12 hne
  go_wp2_with fail
  refine (HF.out _).mono ?_
  rintro r w8 ⟨rfl, hb8⟩
  have HB8 := Lib.hid (bnext HB7.out hb8)
  clear hb8
  go_upto_region 15 with (fail)
  refine forget (fun W => Below w.heap.size w W ∧ RowE W w8.heap.size (entC En.zero)) ⟨bnew HB8.out _, by have h := RowE.new w8 P4; rw [HP4.out] at h ⊢; exact h⟩ ?_
  rintro W9 ⟨hb9, hr9⟩
  obtain ⟨q, hq⟩ : ∃ q, q = w8.heap.size := ⟨_, rfl⟩
  rw [← hq] at hr9 ⊢
  clear hq
  have c0 : W9.cell? ⟨q, 0, none⟩ = some (.int .u64 0) := cell_of_row W9 q 0 _ _ _ hr9
  have c1 : W9.cell? ⟨q, 1, none⟩ = some (.int .u64 0) := cell_of_row W9 q 1 _ _ _ hr9
  have c2 : W9.cell? ⟨q, 2, none⟩ = some (.int .u8 0) := cell_of_row W9 q 2 _ _ _ hr9
  have c3 : W9.cell? ⟨q, 3, none⟩ = some (.int .u8 0) := cell_of_row W9 q 3 _ _ _ hr9
  have c4 : W9.cell? ⟨q, 4, none⟩ = some (.int .u8 0) := cell_of_row W9 q 4 _ _ _ hr9
  have c5 : W9.cell? ⟨q, 5, none⟩ = some (.int .u8 0) := cell_of_row W9 q 5 _ _ _ hr9
  have c6 : W9.cell? ⟨q, 6, none⟩ = some (.int .u8 0) := cell_of_row W9 q 6 _ _ _ hr9
  have c7 : W9.cell? ⟨q, 7, none⟩ = some (.int .u8 0) := cell_of_row W9 q 7 _ _ _ hr9
  have c8 : W9.cell? ⟨q, 8, none⟩ = some (.int .u8 0) := cell_of_row W9 q 8 _ _ _ hr9
  have c9 : W9.cell? ⟨q, 9, none⟩ = some (.int .u8 0) := cell_of_row W9 q 9 _ _ _ hr9
  have c10 : W9.cell? ⟨q, 10, none⟩ = some (.int .u8 0) := cell_of_row W9 q 10 _ _ _ hr9
  have c11 : W9.cell? ⟨q, 11, none⟩ = some (.int .u8 0) := cell_of_row W9 q 11 _ _ _ hr9
  have c12 : W9.cell? ⟨q, 12, none⟩ = some (.string ⟨#[]⟩) := cell_of_row W9 q 12 _ _ _ hr9
  have HB11 := Lib.hid hb9
  clear hb9 hr9 hst4 hs4 HB8 HB7
  go_wp2_with fail
  refine (HA.out _).mono ?_
  rintro r w12 ⟨rfl, hb12⟩
  have HB12 := Lib.hid (bnext HB11.out hb12)
  clear hb12
  go_wp2_with fail
  go_ret
  exact ⟨rfl, HB12.out⟩
end Go.Proofs.Ytkghldobefgjeaa
