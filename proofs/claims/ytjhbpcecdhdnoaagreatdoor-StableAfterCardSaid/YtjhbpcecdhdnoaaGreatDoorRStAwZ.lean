/-
  Layer 9's awake walked.
  The function After walked.
-/
import Derived.Test.YtjhbpcecdhdnoaaGreatDoorRStSort12Z
import Derived.Test.YtjhbpcecdhdnoaaGreatDoorRWwX
import Derived.Test.YtjhbpcecdhdnoaaGreatDoorRStTurnZ
set_option linter.unusedSimpArgs false
set_option linter.unusedVariables false
namespace Go.Proofs.YtjhbpcecdhdnoaaGreatDoor
open Go.RowKit
theorem state9_any (t v : Nat) (w : World) : Calls Tryz.prog 34 #[.int .u64 (t : Int), .int .u8 (v : Int)] w fun e w' => e = .returned (.agg (recC (St.stR t v))) ∧ Below w.heap.size w w' := by
  have hr0 : Rw (w.alloc (.cells (recC Wl.rzero) 90)) w.heap.size (recC Wl.rzero) 90 := Rw.new w _ _
  have HH := Lib.hid (And.intro hr0 (bnew (Below.refl w.heap.size w) (.cells (recC Wl.rzero) 90)))
  clear hr0
  go_enter Tryz.func34, Tryz.ntmps34
  go_wp2_with (refine wpList_store_sub rfl 90 _ _ rfl w.heap.size 0 rfl 90 (recC Wl.rzero) (recC (St.stR t v)) rfl HH.out.1 (Nat.le_refl _) sizeRec (recC_one _) ?_)
  exact bodyPost_ret (results_cell_row (P := Tryz.prog) (fn := Tryz.f34) rfl _ _ w.heap.size 90 (recC (St.stR t v)) (0, 0) _ rfl (HH.out.1.over rfl) Tryz.underlying90 rfl sizeRec) rfl ⟨rfl, setCells_below (Nat.le_refl _) _ _ _ HH.out.2⟩
theorem noop9_any (i t : Nat) (w : World) : Calls Tryz.prog 35 #[.int .u64 (i : Int), .int .u64 (t : Int)] w fun e w' => e = .returned (.agg (recC (St.noR i t))) ∧ Below w.heap.size w w' := by
  have hr0 : Rw (w.alloc (.cells (recC Wl.rzero) 90)) w.heap.size (recC Wl.rzero) 90 := Rw.new w _ _
  have HH := Lib.hid (And.intro hr0 (bnew (Below.refl w.heap.size w) (.cells (recC Wl.rzero) 90)))
  clear hr0
  go_enter Tryz.func35, Tryz.ntmps35
  go_wp2_with (refine wpList_store_sub rfl 90 _ _ rfl w.heap.size 0 rfl 90 (recC Wl.rzero) (recC (St.noR i t)) rfl HH.out.1 (Nat.le_refl _) sizeRec (recC_one _) ?_)
  exact bodyPost_ret (results_cell_row (P := Tryz.prog) (fn := Tryz.f35) rfl _ _ w.heap.size 90 (recC (St.noR i t)) (0, 0) _ rfl (HH.out.1.over rfl) Tryz.underlying90 rfl sizeRec) rfl ⟨rfl, setCells_below (Nat.le_refl _) _ _ _ HH.out.2⟩
theorem snap9_any (i t : Nat) (w : World) : Calls Tryz.prog 37 #[.int .u64 (i : Int), .int .u64 (t : Int)] w fun e w' => e = .returned (.agg (snC (St.snS i t))) ∧ Below w.heap.size w w' := by
  have hr0 : Rw (w.alloc (.cells (snC St.zs) 55)) w.heap.size (snC St.zs) 55 := Rw.new w _ _
  have HH := Lib.hid (And.intro hr0 (bnew (Below.refl w.heap.size w) (.cells (snC St.zs) 55)))
  clear hr0
  go_enter Tryz.func37, Tryz.ntmps37
  go_wp2_with (refine wpList_store_sub rfl 55 _ _ rfl w.heap.size 0 rfl 55 (snC St.zs) (snC (St.snS i t)) rfl HH.out.1 (Nat.le_refl _) sizeSnap (snC_one _) ?_)
  exact bodyPost_ret (results_cell_row (P := Tryz.prog) (fn := Tryz.f37) rfl _ _ w.heap.size 55 (snC (St.snS i t)) (0, 0) _ rfl (HH.out.1.over rfl) Tryz.underlying55 rfl sizeSnap) rfl ⟨rfl, setCells_below (Nat.le_refl _) _ _ _ HH.out.2⟩
section
variable {At : DkAt}
set_option maxRecDepth 100000 in
set_option maxHeartbeats 8000000 in
theorem awake9_any (K : DiskK At) (w : World) (hE : EnvT w ∧ EnvE w) : Calls Tryz.prog 21 #[] w (RetTr true w) := by
  have HK := Lib.hid K
  have HEn := Lib.hid hE
  have HS1 : Hid (∀ W, Calls Tryz.prog 34 #[.int .u64 1, .int .u8 2] W fun e w' => e = .returned (.agg (recC (St.stR 1 2))) ∧ Below W.heap.size W w') := Lib.hid fun W => state9_any 1 2 W
  have HN1 : Hid (∀ W, Calls Tryz.prog 35 #[.int .u64 1, .int .u64 1] W fun e w' => e = .returned (.agg (recC (St.noR 1 1))) ∧ Below W.heap.size W w') := Lib.hid fun W => noop9_any 1 1 W
  have HN2 : Hid (∀ W, Calls Tryz.prog 35 #[.int .u64 2, .int .u64 1] W fun e w' => e = .returned (.agg (recC (St.noR 2 1))) ∧ Below W.heap.size W w') := Lib.hid fun W => noop9_any 2 1 W
  have HSn : Hid (∀ W, Calls Tryz.prog 37 #[.int .u64 1, .int .u64 1] W fun e w' => e = .returned (.agg (snC (St.snS 1 1))) ∧ Below W.heap.size W w') := Lib.hid fun W => snap9_any 1 1 W
  unfold recC St.stR at HS1
  unfold recC St.noR at HN1 HN2
  have hzt := zeroTable
  have hst := storeTabA
  have hsz := tabA_size
  clear K hE
  go_enter Tryz.func21, Tryz.ntmps21
  go_wp2_with fail
  refine (HK.out.new _).mono ?_
  rintro e w1 ⟨p, S, rfl, a1, a2, a3⟩
  have H1 := Lib.hid (And.intro a1 (And.intro a2 a3))
  clear a1 a2 a3
  go_wp2_with fail
  refine (make_any _).mono ?_
  rintro e w2 ⟨rfl, hb2⟩
  have HR0 : Hid (Run At w (w2.alloc (.cells tabA 27)) p w2.heap.size S Dk.D.new) := Lib.hid (by
    obtain ⟨h1, h2, h3⟩ := H1.out
    have hb3 := bnew hb2 (.cells tabA 27)
    exact ⟨HK.out.below h1 hb3, h2, TabAt.new w2, Nat.le_trans h3.size hb2.size, fun hk => absurd (HK.out.lt h1 _ hk) (Nat.not_lt.2 hb2.size), bnext h3 hb3⟩)
  clear hb2 H1
  go_upto_region 3 with (fail)
  refine forget (fun W3 => Run At w W3 p w2.heap.size S Dk.D.new) HR0.out ?_
  intro W3 hR3
  generalize w2.heap.size = tb at hR3 ⊢
  have HR3 := Lib.hid hR3
  clear hR3 HR0 hzt hst hsz
  go_wp2_with fail
  refine (ropen_any HK.out w W3 p tb S Dk.D.new HR3.out HEn.out opD_new).mono ?_
  intro e w4 hr4
  unfold RetRO at hr4
  have q0 : (St.opens Dk.D.new).1 = 0 := St.q0_is.1
  have q0b : (St.opens Dk.D.new).2.2 = some (1, St.zero) := St.q0_is.2
  rw [q0b, q0] at hr4
  obtain ⟨q, lq, S4, A4, c4, A2, c2, rfl, hr4, _, _, _⟩ := hr4
  have HR4 : Hid (RunS At w w4 p tb q lq 1 0 S4 St.q0.2.1 St.zero A4 c4 false) := Lib.hid hr4
  have e0 : St.zero.ents.length = 0 := rfl
  rw [e0]
  clear hr4 HR3 q0 q0b e0
  obtain ⟨X, hX⟩ : ∃ X, X = kC St.zero (.slice A2 0 c2) := ⟨_, rfl⟩
  have HX : Hid (X = kC St.zero (.slice A2 0 c2)) := Lib.hid hX
  have HXs : Hid (X.size = 11 ∧ X.all (·.oneCell') = true ∧ (Tryz.prog.info? 58).map (·.size) = some X.size) := Lib.hid (by rw [hX]; exact ⟨rfl, kC_one _ _ _ _, sizeKept' _ _⟩)
  rw [← hX]
  clear hX
  go_upto_region 4 with (refine wpList_store_sub rfl 58 _ _ rfl w4.heap.size 0 rfl 58 zK X rfl ?_ (by rw [HXs.out.1]; exact Nat.le_refl 11) HXs.out.2.2 HXs.out.2.1 ?_; exact heap_alloc_new w4 _)
  refine forget (fun W5 => RunS At w W5 p tb q lq 1 0 S4 St.q0.2.1 St.zero A4 c4 false ∧ Rw W5 w4.heap.size X 58 ∧ ¬ StS S4 q lq w4.heap.size ∧ w.heap.size ≤ w4.heap.size) ⟨HR4.out.more HK.out (((Bl.refl w4).alloc _).puts (Nat.le_refl _) _ _).bel, (Rw.new w4 zK _).over (by rw [HXs.out.1]; rfl), fun h => absurd (HR4.out.sto.sr.lts HK.out _ h) (Nat.lt_irrefl _), HR4.out.bel.size⟩ ?_
  intro W5 H5
  generalize w4.heap.size = gk at H5 ⊢
  have HR5 := Lib.hid H5
  have hx5 := H5.2.1
  rw [HX.out] at hx5
  obtain ⟨x0, x1, x2, x3, x4, x5, x6, x7, x8, x9, x10⟩ := kc_cells hx5
  have x0' : W5.cell? ⟨gk, 0, none⟩ = some (.int .u64 0) := x0
  clear H5 hx5 x0 x1 x2 x3 x4 x5 x6 x7 x8 x9 HR4
  go_wp2_with fail
  refine (HS1.out _).mono ?_
  rintro e w6 ⟨rfl, hb6⟩
  have HB6 := Lib.hid hb6
  clear hb6 x0' x10
  go_wp2_with fail
  refine (HN1.out _).mono ?_
  rintro e w7 ⟨rfl, hb7⟩
  have HB7 := Lib.hid (bnext HB6.out hb7)
  clear hb7
  go_wp2_with fail
  refine (HN2.out _).mono ?_
  rintro e w8 ⟨rfl, hb8⟩
  have HB8 := Lib.hid (bnext HB7.out hb8)
  clear hb8 HB6 HB7
  go_wp2_with fail
  have HR9 : Hid (RunS At w (w8.alloc (.cells (wrs St.awR).toArray 90)) p tb q lq 1 0 S4 St.q0.2.1 St.zero A4 c4 false) := Lib.hid (HR5.out.1.more HK.out (bnew HB8.out _))
  have HG9 : Hid (Rw (w8.alloc (.cells (wrs St.awR).toArray 90)) gk X 58) := Lib.hid (HR5.out.2.1.bel (bnew HB8.out _))
  have hsv := save_any HK.out (w8.alloc (.cells (wrs St.awR).toArray 90)) q p lq 1 0 S4 St.q0.2.1 St.zero A4 c4 St.awR (some ⟨w8.heap.size, 0, none⟩) 3 HR9.out.sto (HR9.out.envs HEn.out.1) (by decide) (Lies.new w8 (wrs St.awR) 90) St.awR_recs ⟨fun r hr => ⟨(St.awR_fits r hr).1, by have := (St.awR_fits r hr).2; omega⟩, by decide⟩ (by decide) (by decide)
    (fun k' hk => by rw [St.q_after.1] at hk; injection hk with hk; subst hk; exact ⟨St.k1_small, by decide⟩) (by have := St.q_load.2.1; have := St.q_cost.1; omega) (fun k' hk => by rw [St.q_after.1] at hk; injection hk with hk; subst hk; have := St.q_load.2.2.1; have := St.q_cost.2.2.1; omega)
  refine hsv.mono ?_
  rintro e w10 ⟨rfl, hst10⟩
  have e1 : (St.save St.q0.2.1 1 0 St.zero St.awR).1 = 0 := St.q1_is.1
  obtain ⟨lq1, S10, A10, c10, hr10, hm10⟩ := HR9.out.call hst10
  have e2 : (St.save St.q0.2.1 1 0 St.zero St.awR).2.2 = ((1, 3), St.k1, false) := St.q1_is.2
  rw [e2] at hr10
  have HR10 : Hid (RunS At w w10 p tb q lq1 1 3 S10 St.q1.2.1 St.k1 A10 c10 false) := Lib.hid hr10
  have HG10 : Hid (Rw w10 gk X 58 ∧ ¬ StS S10 q lq1 gk) := Lib.hid ⟨hm10.ko.row HR5.out.2.2.1 HG9.out, fun h => (hm10.sub gk h).elim HR5.out.2.2.1 fun e => absurd HG9.out.lt (Nat.not_lt.2 e)⟩
  have Hgk : Hid (w.heap.size ≤ gk) := Lib.hid HR5.out.2.2.2
  rw [e1]
  clear hsv hst10 e1 e2 hr10 hm10 HR9 HG9 HR5 HB8
  go_wp2_with fail
  refine (HSn.out _).mono ?_
  rintro e w11 ⟨rfl, hb11⟩
  have HR11 := Lib.hid (HR10.out.more HK.out hb11)
  have HG11 := Lib.hid (HG10.out.1.bel hb11)
  clear hb11
  go_wp2_with fail
  have hct := scut_any HK.out w11 q p lq1 1 3 S10 St.q1.2.1 St.k1 A10 c10 (St.snS 1 1) HR11.out.sto (HR11.out.envs HEn.out.1) (by decide) (by decide) (by decide) (by
      have := (St.k2_small).secs
      exact this) (fun k' hk => by rw [St.q_after.2] at hk; injection hk with hk; subst hk; exact St.snS_fits 1 1 (by decide) (by decide)) (fun k' hk => by rw [St.q_after.2] at hk; injection hk with hk; subst hk; exact ⟨St.k2_small, by decide⟩)
    (fun k' hk => by rw [St.q_after.2] at hk; injection hk with hk; subst hk; have := St.q_load.2.2.2.1; have : Wl.cost (St.srow St.k2.snap) ≤ 5000 := St.q_cost.2.2.2.2; omega) (fun k' hk => by rw [St.q_after.2] at hk; injection hk with hk; subst hk; have : Dk.load (St.writeSnap St.q1.2.1 St.k2.snap).2 ≤ 5000 := St.q_load.2.2.2.2.1; have := St.q_cost.2.2.2.1; omega)
  refine hct.mono ?_
  rintro e w12 ⟨rfl, hst12⟩
  have e1 : (St.scut St.q1.2.1 1 3 St.k1 (St.snS 1 1)).1 = 0 := St.q2_is.1
  obtain ⟨lq2, S12, A12, c12, hr12, hm12⟩ := HR11.out.call hst12
  have HR12 : Hid (Run At w w12 p tb S12 St.q2.2.1) := Lib.hid hr12.run
  have HG12 : Hid (Rw w12 gk X 58 ∧ ¬ S12 gk) := Lib.hid ⟨hm12.ko.row HG10.out.2 HG11.out, fun h => (hm12.sub gk (.inl h)).elim HG10.out.2 fun e => absurd HG11.out.lt (Nat.not_lt.2 e)⟩
  rw [e1]
  clear hct hst12 e1 hr12 hm12 HR10 HR11 HG10 HG11
  go_wp2_with fail
  refine (crash_nil HK.out _ p S12 _ HR12.out.at_).mono ?_
  rintro e w13 ⟨rfl, hn13⟩
  obtain ⟨S13, hr13, hm13⟩ := HR12.out.step hn13
  have HR13 := Lib.hid hr13
  have HG13 : Hid (Rw w13 gk X 58 ∧ ¬ S13 gk) := Lib.hid ⟨hm13.ko.row HG12.out.2 HG12.out.1, fun h => (hm13.sub gk h).elim HG12.out.2 fun e => absurd HG12.out.1.lt (Nat.not_lt.2 e)⟩
  clear hn13 hr13 hm13 HR12 HG12
  go_wp2_with fail
  refine (HK.out.start _ p S13 _ HR13.out.at_).mono ?_
  rintro e w14 ⟨rfl, hn14⟩
  obtain ⟨S14, hr14, hm14⟩ := HR13.out.step hn14
  have HR14 : Hid (Run At w w14 p tb S14 St.q3) := Lib.hid hr14
  have HG14 : Hid (Rw w14 gk X 58 ∧ ¬ S14 gk) := Lib.hid ⟨hm14.ko.row HG13.out.2 HG13.out.1, fun h => (hm14.sub gk h).elim HG13.out.2 fun e => absurd HG13.out.1.lt (Nat.not_lt.2 e)⟩
  clear hn14 hr14 hm14 HR13 HG13
  go_wp2_with fail
  refine (ropen_any HK.out w w14 p tb S14 St.q3 HR14.out HEn.out opD_q3).mono ?_
  intro e w15 hr15
  unfold RetRO at hr15
  have q4 : (St.opens St.q3).1 = 0 := St.q4_is.1
  have q4b : (St.opens St.q3).2.2 = some (3, St.k2) := St.q4_is.2
  rw [q4b, q4] at hr15
  obtain ⟨q', lq', S15, A15, c15, B2, d2, rfl, hr15, ho15, _, hm15⟩ := hr15
  have HR15 := Lib.hid hr15.bel
  have HG15 : Hid (Rw w15 gk X 58) := Lib.hid (hm15.ko.row HG14.out.2 HG14.out.1)
  have e2 : St.k2.ents.length = 1 := rfl
  rw [e2] at ho15 ⊢
  obtain ⟨gb, hgb, hlie⟩ : ∃ b, B2 = some ⟨b, 0, none⟩ ∧ w15.cell? ⟨b, 0, none⟩ = some (.int .u64 2) ∧ b < w15.heap.size ∧ w14.heap.size ≤ b := by
    rcases ho15.2 with ⟨h, _⟩ | ⟨g, cap, cur, h, _, hg, _⟩
    · cases h
    · injection h with h1 _ _
      refine ⟨g, h1, ?_, (Array.getElem?_eq_some_iff.1 hg).1, ?_⟩
      · subst h1
        have := World.ownsRow.cells ho15 (g := g) rfl 0 (.int .u64 2) rfl
        simpa [Addr.add] using this
      · subst h1; exact (own_lt ho15 (b := g) rfl).2
  subst hgb
  have hgne : gb ≠ gk := fun e => by have := HG14.out.1.lt; have := hlie.2.2; omega
  have HL15 := Lib.hid (And.intro hlie.1 (And.intro hlie.2.1 hgne))
  clear hr15 ho15 hm15 q4 q4b e2 hlie hgne HR14 HG14
  obtain ⟨Y, hY⟩ : ∃ Y, Y = kC St.k2 (.slice (some ⟨gb, 0, none⟩) 1 d2) := ⟨_, rfl⟩
  have HY : Hid (Y = kC St.k2 (.slice (some ⟨gb, 0, none⟩) 1 d2)) := Lib.hid hY
  have HYs : Hid (Y.size = 11 ∧ Y.all (·.oneCell') = true ∧ (Tryz.prog.info? 58).map (·.size) = some Y.size) := Lib.hid (by rw [hY]; exact ⟨rfl, kC_one _ _ _ _, sizeKept' _ _⟩)
  rw [← hY]
  clear hY
  go_upto_region 11 with (refine wpList_store_sub rfl 58 _ _ rfl gk 0 rfl 58 X Y rfl HG15.out (by rw [HXs.out.1, HYs.out.1]; exact Nat.le_refl 11) HYs.out.2.2 HYs.out.2.1 ?_)
  refine forget (fun W => Rw W gk (kC St.k2 (.slice (some ⟨gb, 0, none⟩) 1 d2)) 58 ∧ W.cell? ⟨gb, 0, none⟩ = some (.int .u64 2) ∧ gb < W.heap.size ∧ Below w.heap.size w W) ⟨?_, ?_, ?_, setCells_below Hgk.out _ _ _ HR15.out⟩ ?_
  · rw [← HY.out]; exact HG15.out.over (by rw [HXs.out.1, HYs.out.1])
  · have := setCells_other HL15.out.2.2 Y.toList 0 w15
    have h0 := HL15.out.1
    unfold World.cell? at h0 ⊢
    rw [this]; exact h0
  · have hz := setCells_other HL15.out.2.2 Y.toList 0 w15
    have h1 := Array.getElem?_eq_getElem (xs := w15.heap) HL15.out.2.1
    rw [← hz] at h1
    exact (Array.getElem?_eq_some_iff.1 h1).1
  intro W16 H16
  have HF16 := Lib.hid H16.2.2.2
  have HRw := Lib.hid H16.1
  obtain ⟨x0, x1, x2, x3, x4, x5, x6, x7, x8, x9, x10⟩ := kc_cells H16.1
  have y := H16.2.1
  have z0 : W16.cell? ⟨gk, 0, none⟩ = some (.int .u64 1) := x0
  have z1 : W16.cell? ⟨gk, 1, none⟩ = some (.int .u8 2) := x1
  have j0 := fun d os => cell_regrown z0 d os
  have j1 := fun d os => cell_regrown z1 d os
  have j10 := fun d os => cell_regrown x10 d os
  have jy := fun d os => cell_regrown y d os
  have hse : ∀ W, (binOp .eql 55 (.agg (snC (St.snS 1 1))) (.agg (snC (St.snS 1 1)))).run Tryz.prog W = .ok (.bool true) W := fun W => by have := sn_eql (St.snS 1 1) (St.snS 1 1) W; rw [snE_refl] at this; exact this
  have HSub : Hid (∀ j, j < (snC (St.snS 1 1)).size → (kC St.k2 (.slice (some ⟨gb, 0, none⟩) 1 d2))[2 + j]? = (snC (St.snS 1 1))[j]?) := Lib.hid fun j hj => by
    have hj : j < 8 := hj
    rcases (show j = 0 ∨ j = 1 ∨ j = 2 ∨ j = 3 ∨ j = 4 ∨ j = 5 ∨ j = 6 ∨ j = 7 by omega) with rfl | rfl | rfl | rfl | rfl | rfl | rfl | rfl <;> rfl
  have HZs : Hid ((Tryz.prog.info? 55).map (·.size) = some (snC (St.snS 1 1)).size) := Lib.hid sizeSnap
  clear H16 x0 x1 x2 x3 x4 x5 x6 x7 x8 x9 z0 z1 x10 y
  refine wp_region_quiet_below (by kernel_rfl) (by kernel_rfl) ?_
  repeat (first | (refine wpQuiet_load_sub rfl 55 _ rfl gk 2 rfl 58 _ (snC (St.snS 1 1)) (0, 0) _ HRw.out HSub.out Tryz.underlying55 rfl HZs.out ?_; (conv => arg 6; simp [Act.put])) | go_big_quiet_step ((go_at_call 37; exact Calls.regrown_of (HSn.out _))))
  refine wpQuiet_nil ?_
  intro _ hw'
  obtain ⟨pq, hw''⟩ := hw'
  subst hw''
  have HFn := Lib.hid (bnext HF16.out (below_regrown W16 pq.d pq.os))
  clear j0 j1 j10 jy hse
  generalize Go.Sort.grow (redrawn W16 pq.d) pq.os = W17 at *
  go_wp2_with fail
  go_ret
  exact ⟨rfl, HFn.out⟩
end
end Go.Proofs.YtjhbpcecdhdnoaaGreatDoor
namespace Go.Proofs.YtjhbpcecdhdnoaaGreatDoor
open Go.RowKit
def RetAfE (no : Int) (o : Option St.K) (w : World) (e : Ending) (w' : World) : Prop := match o with
  | some k => ∃ A c, e = .returned (.tuple #[.agg (kC k (.slice A k.ents.length c)), .int .i64 0]) ∧ w'.ownsRow w.heap.size 88 13 (.slice A k.ents.length c) k.ents.length (ec k.ents) ∧ Below w.heap.size w w'
  | none => e = .returned (.tuple #[.agg zK, .int .i64 no]) ∧ Below w.heap.size w w'
theorem af_box (W : World) (X : Array Value) : Rw ((W.alloc (.cells X 58)).alloc (.cells zK 58)) (W.heap.size + 1) zK 58 := by
  have h := Rw.new (W.alloc (.cells X 58)) zK 58
  have e : (W.alloc (.cells X 58)).heap.size = W.heap.size + 1 := by simp
  rw [e] at h
  exact h
set_option maxRecDepth 100000 in
set_option maxHeartbeats 8000000 in
theorem afterF_any (W : World) (k : St.K) (A : Option Addr) (c : Nat) (l : List Wl.R) (AR : Option Addr) (cr : Nat) (hA : Lies W A (ec k.ents)) (hz : Nilly A c) (hs : St.Sec k.snap) (hR : Lies W AR (wrs l)) (hk : k.snap.idx < Nm.top) (hn : k.ents.length + l.length ≤ 1000000) (hb : ∀ e ∈ k.ents, e.body.size ≤ 140737488355328) (hl : Recs l) :
    Calls Tryz.prog 22 #[.agg (kC k (.slice A k.ents.length c)), .slice AR l.length cr] W (RetAfE 1 (St.after k l) W) := by
  have HTw := Lib.hid (fun W1 (h : Below W.heap.size W W1) => twin_gen k A c W1 (hA.below h) hz hs (by omega) hb)
  have HAf := Lib.hid (fun W2 A2 c2 (B : Nat) (h : Below W.heap.size W W2) (ho : W2.ownsRow B 88 13 (.slice A2 k.ents.length c2) k.ents.length (ec k.ents)) => after_any k A2 c2 l AR cr W2 (lies_own13 ho) (own_form ho) (hR.below h) hk hn hl)
  obtain ⟨X, hX⟩ : ∃ X, X = kC k (.slice A k.ents.length c) := ⟨_, rfl⟩
  have HX : Hid ((Tryz.prog.info? 58).map (·.size) = some X.size) := Lib.hid (by rw [hX]; exact sizeKept' _ _)
  rw [← hX] at HTw ⊢
  clear hX hA hz hs hR hk hn hb hl
  go_enter Tryz.func22, Tryz.ntmps22
  go_upto_region 1 with (fail)
  refine forget (fun W1 => Rw W1 W.heap.size X 58 ∧ Rw W1 (W.heap.size + 1) zK 58 ∧ Bl W W1 ∧ W.heap.size ≤ W.heap.size) ⟨(Rw.new W X _).alloc _, af_box W X, ((Bl.refl W).alloc _).alloc _, Nat.le_refl _⟩ ?_
  intro W1 H1
  obtain ⟨g, hg⟩ : ∃ g, g = W.heap.size := ⟨_, rfl⟩
  have hsz : (W.alloc (.cells X 58)).heap.size = W.heap.size + 1 := by simp
  try rw [hsz]
  rw [← hg] at H1 ⊢
  have HI := Lib.hid H1
  have Hg : Hid (W.heap.size ≤ g) := Lib.hid (by rw [hg]; exact Nat.le_refl _)
  clear H1 hg hsz
  go_wp2_with (refine wpList_load_sub rfl 58 _ rfl g 0 rfl 58 X X (0, 0) _ HI.out.1 (fun j hj => by rw [Nat.zero_add]) Tryz.underlying58 rfl HX.out ?_)
  refine (HTw.out W1 HI.out.2.2.1.bel).mono ?_
  rintro e w2 ⟨A2, c2, rfl, ho2, hb2⟩
  have HR2 : Hid (Rw w2 (g + 1) zK 58 ∧ Bl W w2) := Lib.hid ⟨HI.out.2.1.bel hb2, HI.out.2.2.1.next hb2⟩
  have HO2 := Lib.hid ho2
  clear ho2 hb2 HI
  go_wp2_with fail
  refine (HAf.out w2 A2 c2 _ HR2.out.2.bel HO2.out).mono ?_
  intro e w3 haf
  cases hak : St.after k l with
  | none =>
    rw [hak] at haf
    obtain ⟨rfl, hb3⟩ := haf
    have HR3 : Hid (Rw w3 (g + 1) zK 58 ∧ Bl W w3) := Lib.hid ⟨HR2.out.1.bel hb3, HR2.out.2.next hb3⟩
    have E := Lib.hid hak
    clear hb3 hak
    go_upto_region 2 with (refine wpList_store_sub rfl 58 _ _ rfl w3.heap.size 0 rfl 58 zK zK rfl ?_ (Nat.le_refl 11) zK_size zK_one ?_; exact heap_alloc_new w3 _)
    refine forget (fun W4 => Rw W4 (g + 1) zK 58 ∧ Bl W W4) ⟨(HR3.out.1.alloc _).oputs (by have := Rw.lt HR3.out.1; omega) _ _, (HR3.out.2.alloc _).puts HR3.out.2.le _ _⟩ ?_
    intro W4 H4
    have HI4 := Lib.hid H4
    clear H4
    go_wp2_with (first
      | (refine wpList_built rfl 58 _ rfl zK (by kernel_rfl) ?_)
      | (refine wpList_store_sub rfl 58 _ _ rfl (g + 1) 0 rfl 58 zK zK rfl HI4.out.1 (Nat.le_refl 11) zK_size zK_one ?_))
    refine bodyPost_ret (results_ct (P := Tryz.prog) (fn := Tryz.f22) rfl _ _ (g + 1) 58 zK (0, 0) _ rfl (HI4.out.1.over rfl) Tryz.underlying58 rfl zK_size) rfl ?_
    rw [E.out]
    exact ⟨rfl, (HI4.out.2.puts (by have := Hg.out; omega) _ _).bel⟩
  | some k' =>
    rw [hak] at haf
    obtain ⟨A', c', rfl, ho3, hb3⟩ := haf
    have HR3 : Hid (Rw w3 (g + 1) zK 58 ∧ Bl W w3) := Lib.hid ⟨HR2.out.1.bel hb3, HR2.out.2.next hb3⟩
    have HO3 := Lib.hid ho3
    have H2s : Hid (W.heap.size ≤ w2.heap.size ∧ g + 1 < w2.heap.size) := Lib.hid ⟨HR2.out.2.le, Rw.lt HR2.out.1⟩
    have E := Lib.hid hak
    clear hb3 hak ho3
    obtain ⟨Z, hZ⟩ : ∃ Z, Z = kC k' (.slice A' k'.ents.length c') := ⟨_, rfl⟩
    have HZZ : Hid (Z.size = 11 ∧ Z.all (·.oneCell') = true ∧ (Tryz.prog.info? 58).map (·.size) = some Z.size) := Lib.hid (by rw [hZ]; exact ⟨rfl, kC_one _ _ _ _, sizeKept' _ _⟩)
    have hZ2 := Lib.hid hZ
    rw [← hZ]
    clear hZ
    go_upto_region 2 with (refine wpList_store_sub rfl 58 _ _ rfl w3.heap.size 0 rfl 58 zK Z rfl ?_ (by rw [HZZ.out.1]; exact Nat.le_refl 11) HZZ.out.2.2 HZZ.out.2.1 ?_; exact heap_alloc_new w3 _)
    refine forget (fun W4 => Rw W4 (g + 1) zK 58 ∧ Rw W4 w3.heap.size Z 58 ∧ Bl W W4 ∧ W4.ownsRow w2.heap.size 88 13 (.slice A' k'.ents.length c') k'.ents.length (ec k'.ents)) ⟨(HR3.out.1.alloc _).oputs (by have := Rw.lt HR3.out.1; omega) _ _, (Rw.new w3 zK _).over (by rw [HZZ.out.1]; rfl), (HR3.out.2.alloc _).puts HR3.out.2.le _ _, own_kept HO3.out fun m hm => (((Bl.refl w3).alloc _).puts (Nat.le_refl _) _ _).bel.block m (own_lt HO3.out hm).1⟩ ?_
    intro W4 H4
    generalize w3.heap.size = gb at H4 ⊢
    have HI4 := Lib.hid H4
    clear H4
    go_wp2_with (first
      | (refine wpList_load_sub rfl 58 _ rfl gb 0 rfl 58 Z Z (0, 0) _ HI4.out.2.1 (fun m hm => by rw [Nat.zero_add]) Tryz.underlying58 rfl HZZ.out.2.2 ?_)
      | (refine wpList_store_sub rfl 58 _ _ rfl (g + 1) 0 rfl 58 zK Z rfl HI4.out.1 (by rw [HZZ.out.1]; exact Nat.le_refl 11) HZZ.out.2.2 HZZ.out.2.1 ?_))
    refine bodyPost_ret (results_ct (P := Tryz.prog) (fn := Tryz.f22) rfl _ _ (g + 1) 58 Z (0, 0) _ rfl (HI4.out.1.over (by rw [HZZ.out.1]; rfl)) Tryz.underlying58 rfl HZZ.out.2.2) rfl ?_
    rw [E.out]
    exact ⟨A', c', by rw [← hZ2.out]; rfl, own_mono (own_kept HI4.out.2.2.2 fun m hm => setCells_other (by have := (own_lt HI4.out.2.2.2 hm).2; have := H2s.out.2; omega) _ _ _) H2s.out.1, (HI4.out.2.2.1.puts (by have := Hg.out; omega) _ _).bel⟩
end Go.Proofs.YtjhbpcecdhdnoaaGreatDoor
