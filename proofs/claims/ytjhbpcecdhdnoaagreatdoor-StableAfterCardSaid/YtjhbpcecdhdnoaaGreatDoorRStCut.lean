/-
  stable's cut walked: what is behind a snapshot. WRITTEN BY wip/tools/gen_stcut.py.
-/
import Derived.Test.YtjhbpcecdhdnoaaGreatDoorRStAfter
set_option linter.unusedSimpArgs false
set_option linter.unusedVariables false
namespace Go.Proofs.YtjhbpcecdhdnoaaGreatDoor
open Go.RowKit
theorem has_at {k : St.K} {i t : Nat} (h : St.pl k i < k.ents.length) : St.has k i t = decide ((k.ents[St.pl k i]'h).trm = t) := by
  unfold St.has
  rw [List.getElem?_eq_getElem h]
theorem has_no {k : St.K} {i t : Nat} (h : k.ents.length ≤ St.pl k i) : St.has k i t = false := by
  unfold St.has
  rw [List.getElem?_eq_none h]
theorem ec_drop (es : List En.E) (n : Nat) : (ec es).drop (n * 13) = ec (es.drop n) := by
  rcases Nat.lt_or_ge n es.length with h | h
  · have e : ec es = ec (es.take n) ++ ec (es.drop n) := by
      unfold ec
      rw [← List.flatten_append, ← List.map_append, List.take_append_drop]
    have hl : (ec (es.take n)).length = n * 13 := by rw [ec_length, List.length_take]; omega
    rw [e, ← hl, List.drop_left]
  · rw [List.drop_of_length_le h, List.drop_of_length_le (by rw [ec_length]; omega)]; rfl
theorem lies_drop {w : World} {b off : Nat} {es : List En.E} (h : Lies w (some ⟨b, off, none⟩) (ec es)) (n : Nat) : Lies w (some ⟨b, off + n * 13, none⟩) (ec (es.drop n)) := by
  rcases h with h | ⟨b', off', e, hb, hc⟩
  · left
    rw [← ec_drop, h]; simp
  · injection e with e
    injection e with e1 e2
    subst e1 e2
    refine .inr ⟨b, off + n * 13, rfl, hb, fun i u hu => ?_⟩
    rw [← ec_drop, List.getElem?_drop] at hu
    rw [Nat.add_assoc]
    exact hc _ u hu
set_option maxRecDepth 100000 in
set_option maxHeartbeats 8000000 in
theorem cut_any (k : St.K) (A : Option Addr) (c : Nat) (s : St.Sn) (w : World) (hA : Lies w A (ec k.ents)) (hz : (∃ b off, A = some ⟨b, off, none⟩) ∨ (A = none ∧ c = 0)) (hcap : k.ents.length ≤ c) (hk : k.snap.idx < Nm.top) (hs : s.idx < Nm.top) (hst : s.trm < Nm.top) (hss : St.Sec s) (hn : k.ents.length ≤ 1000000) :
    Calls Tryz.prog 66 #[.agg (kC k (.slice A k.ents.length c)), .agg (snC s)] w (RetAf (St.cut k s) w) := by
  have HA := Lib.hid hA
  have HPl := Lib.hid (fun W => place_any k A c s.idx W hs hk (by omega))
  have HSn := Lib.hid (fun W => ownSnap_any s W hss)
  have hi1 : s.idx ≤ 18446744073709551615 := by unfold Nm.top at hs; omega
  have hi2 : k.snap.idx ≤ 18446744073709551615 := by unfold Nm.top at hk; omega
  have hi3 : s.trm ≤ 18446744073709551615 := by unfold Nm.top at hst; omega
  obtain ⟨X, hX⟩ : ∃ X, X = kC k (.slice A k.ents.length c) := ⟨_, rfl⟩
  obtain ⟨Y, hY⟩ : ∃ Y, Y = snC s := ⟨_, rfl⟩
  have HX : Hid (X.size = 11 ∧ X[2]? = some (.int .u64 (k.snap.idx : Int)) ∧ X[10]? = some (.slice A k.ents.length c) ∧ (∀ v, X.setIfInBounds 10 v = kC k v) ∧ (Tryz.prog.info? 58).map (·.size) = some X.size) := Lib.hid (by
    rw [hX]; exact ⟨rfl, rfl, rfl, fun v => by rw [kC_put], sizeKept⟩)
  have HY : Hid (Y.size = 8 ∧ Y[0]? = some (.int .u64 (s.idx : Int)) ∧ Y[1]? = some (.int .u64 (s.trm : Int)) ∧ Y.all (·.oneCell') = true ∧ (Tryz.prog.info? 55).map (·.size) = some Y.size) := Lib.hid (by rw [hY]; exact ⟨rfl, rfl, rfl, snC_one _, sizeSnap⟩)
  have HYl : Hid (∀ v, lay (kC k v) 2 Y.toList = kC ⟨k.trm, k.vote, s, k.ents⟩ v) := Lib.hid fun v => by rw [hY, kC_lay]
  rw [← hX] at HPl ⊢
  rw [← hY] at HSn ⊢
  clear hX hY hss hA
  by_cases h1 : s.idx ≤ k.snap.idx
  · have E6 : Hid (St.cut k s = none) := Lib.hid (by unfold St.cut; rw [if_pos h1])
    have d1 : decide ((s.idx : Int) ≤ (k.snap.idx : Int)) = true := by simp; omega
    have d2 : ((s.idx : Int) ≤ (k.snap.idx : Int)) = True := by simp; omega
    clear h1
    go_enter Tryz.func66, Tryz.ntmps66
    go_upto_region 1 with (fail)
    refine forget (fun W => Rw W w.heap.size X 58 ∧ Rw W (w.heap.size + 1) Y 55 ∧ Rw W (w.heap.size + 1 + 1) zK 58 ∧ Bl w W ∧ w.heap.size ≤ w.heap.size) ⟨((Rw.new w X _).alloc _).alloc _, by have := Rw.new (w.alloc (.cells X 58)) Y 55; rw [World.size_alloc] at this; exact this.alloc _, by have := Rw.new ((w.alloc (.cells X 58)).alloc (.cells Y 55)) zK 58; rw [World.size_alloc, World.size_alloc] at this; exact this, (((Bl.refl w).alloc _).alloc _).alloc _, Nat.le_refl _⟩ ?_
    intro W1 H1
    obtain ⟨g, hg⟩ : ∃ g, g = w.heap.size := ⟨_, rfl⟩
    have hg2 : w.heap.size ≤ g := by omega
    rw [← hg] at H1 ⊢
    clear hg
    have HI := Lib.hid H1
    have x2 := H1.1.cell 2 HX.out.2.1
    have y0 := H1.2.1.cell 0 HY.out.2.1
    clear H1
    go_wp2_with (refine wpList_store_sub rfl 58 _ _ rfl (g + 1 + 1) 0 rfl 58 zK zK rfl HI.out.2.2.1 (Nat.le_refl 11) zK_size zK_one ?_)
    refine bodyPost_ret (results_ct (P := Tryz.prog) (fn := Tryz.f66) rfl _ _ (g + 1 + 1) 58 zK (0, 0) _ rfl (HI.out.2.2.1.over rfl) Tryz.underlying58 rfl zK_size) rfl ?_
    rw [E6.out]
    exact ⟨rfl, HI.out.2.2.2.1.puts (by omega) _ _⟩
  have d1 : decide ((s.idx : Int) ≤ (k.snap.idx : Int)) = false := by simp; omega
  have d2 : ((s.idx : Int) ≤ (k.snap.idx : Int)) = False := by simp; omega
  have hcut : ∀ b, St.has k s.idx s.trm = b → St.cut k s = some ⟨k.trm, k.vote, s, if b = true then k.ents.drop (St.pl k s.idx + 1) else []⟩ := fun b hb => by unfold St.cut; rw [if_neg h1, hb]
  by_cases h2 : St.pl k s.idx ≤ k.ents.length
  case neg =>
    have E6 : Hid (St.cut k s = some ⟨k.trm, k.vote, s, []⟩) := Lib.hid (hcut false (has_no (by omega)))
    have hpv : placeV k.snap.idx k.ents.length s.idx = .tuple #[.int .i64 0, .bool false] := if_neg fun h => h2 h.2
    rw [hpv] at HPl
    obtain ⟨n, hnn⟩ : ∃ n, n = k.ents.length := ⟨_, rfl⟩
    rw [← hnn] at HX
    clear hcut h1 h2 hpv hnn
    go_enter Tryz.func66, Tryz.ntmps66
    go_upto_region 1 with (fail)
    refine forget (fun W => Rw W w.heap.size X 58 ∧ Rw W (w.heap.size + 1) Y 55 ∧ Rw W (w.heap.size + 1 + 1) zK 58 ∧ Bl w W ∧ w.heap.size ≤ w.heap.size) ⟨((Rw.new w X _).alloc _).alloc _, by have := Rw.new (w.alloc (.cells X 58)) Y 55; rw [World.size_alloc] at this; exact this.alloc _, by have := Rw.new ((w.alloc (.cells X 58)).alloc (.cells Y 55)) zK 58; rw [World.size_alloc, World.size_alloc] at this; exact this, (((Bl.refl w).alloc _).alloc _).alloc _, Nat.le_refl _⟩ ?_
    intro W1 H1
    obtain ⟨g, hg⟩ : ∃ g, g = w.heap.size := ⟨_, rfl⟩
    have hg2 : w.heap.size ≤ g := by omega
    rw [← hg] at H1 ⊢
    clear hg
    have HI := Lib.hid H1
    have x2 := H1.1.cell 2 HX.out.2.1
    have y0 := H1.2.1.cell 0 HY.out.2.1
    clear H1
    go_wp2_with (refine wpList_load_sub rfl 58 _ rfl g 0 rfl 58 X X (0, 0) _ HI.out.1 (fun j hj => by rw [Nat.zero_add]) Tryz.underlying58 rfl HX.out.2.2.2.2 ?_)
    refine (HPl.out _).mono ?_
    rintro r w3 ⟨rfl, hb3⟩
    have H3 : Hid (Rw w3 g X 58 ∧ Rw w3 (g + 1) Y 55 ∧ Rw w3 (g + 1 + 1) zK 58 ∧ Bl w w3) := Lib.hid ⟨HI.out.1.bel hb3, HI.out.2.1.bel hb3, HI.out.2.2.1.bel hb3, HI.out.2.2.2.1.next hb3⟩
    clear hb3 x2 y0
    have hgl := H3.out.1.lt
    have hgl1 := H3.out.2.1.lt
    have x10 := H3.out.1.cell 10 HX.out.2.2.1
    have x10r := fun d os => ((below_regrown w3 d os).cell (p := ⟨g, 10, none⟩) hgl).trans x10
    have y1 := H3.out.2.1.cell 1 HY.out.2.2.1
    have y1r := fun d os => ((below_regrown w3 d os).cell (p := ⟨g + 1, 1, none⟩) hgl1).trans y1
    go_upto_region 4 with (fail)
    refine wp_region_quiet_below (by kernel_rfl) (by kernel_rfl) ?_
    repeat (go_big_quiet_step (fail))
    refine wpQuiet_nil ?_
    intro _ hw'
    obtain ⟨pq, hw''⟩ := hw'
    subst hw''
    have hb4 := below_regrown w3 pq.d pq.os
    generalize Go.Sort.grow (redrawn w3 pq.d) pq.os = w4 at *
    have HT : Hid (Rw (w4.setCell ⟨g, 10, none⟩ (.slice none 0 0)) g (kC k (.slice none 0 0)) 58 ∧ Rw (w4.setCell ⟨g, 10, none⟩ (.slice none 0 0)) (g + 1) Y 55 ∧ Rw (w4.setCell ⟨g, 10, none⟩ (.slice none 0 0)) (g + 1 + 1) zK 58 ∧ Bl w (w4.setCell ⟨g, 10, none⟩ (.slice none 0 0)) ∧ (w4.setCell ⟨g, 10, none⟩ (.slice none 0 0)).ownsRow (g + 3) 88 13 (.slice none 0 0) 0 (ec [])) := Lib.hid (by
      have r := (H3.out.1.bel hb4).put 10 (.slice none 0 0)
      rw [HX.out.2.2.2.1] at r
      exact ⟨r, (H3.out.2.1.bel hb4).oput (by omega) _ _, (H3.out.2.2.1.bel hb4).oput (by omega) _ _, (H3.out.2.2.2.next hb4).put hg2 _ _, rfl, .inl ⟨rfl, rfl⟩⟩)
    have z10 := (H3.out.1.bel hb4).cell 10 HX.out.2.2.1
    have fz10 := (H3.out.1.bel hb4).free 10
    clear hb4 x10 x10r y1 y1r hgl hgl1 H3 HI
    go_upto_region 7 with (fail)
    refine forget (fun W => Rw W g (kC k (.slice none 0 0)) 58 ∧ Rw W (g + 1) Y 55 ∧ Rw W (g + 1 + 1) zK 58 ∧ Bl w W ∧ W.ownsRow (g + 3) 88 13 (.slice none 0 0) 0 (ec [])) HT.out ?_
    intro W8 H8
    have HU := Lib.hid H8
    clear H8 HT
    go_wp2_with (refine wpList_load_sub rfl 55 _ rfl (g + 1) 0 rfl 55 Y Y (0, 0) _ HU.out.2.1 (fun j hj => by rw [Nat.zero_add]) Tryz.underlying55 rfl HY.out.2.2.2.2 ?_)
    refine (HSn.out _).mono ?_
    rintro r w9 ⟨rfl, hb9⟩
    obtain ⟨Z, hZ⟩ : ∃ Z, Z = kC ⟨k.trm, k.vote, s, k.ents⟩ (.slice none 0 0) := ⟨_, rfl⟩
    have HZZ : Hid (Z.size = 11 ∧ Z.all (·.oneCell') = true ∧ (Tryz.prog.info? 58).map (·.size) = some Z.size) := Lib.hid (by rw [hZ]; exact ⟨rfl, kC_one _ _ _ _, sizeKept' _ _⟩)
    have H9 : Hid (Rw w9 g (kC k (.slice none 0 0)) 58 ∧ Rw (w9.setCells g 2 Y.toList) g Z 58 ∧ Rw (w9.setCells g 2 Y.toList) (g + 1 + 1) zK 58 ∧ Bl w (w9.setCells g 2 Y.toList) ∧ (w9.setCells g 2 Y.toList).ownsRow (g + 3) 88 13 (.slice none 0 0) 0 (ec [])) := Lib.hid (by
      have r := HU.out.1.bel hb9
      refine ⟨r, by rw [hZ, ← HYl.out]; exact r.puts 2 _, (HU.out.2.2.1.bel hb9).oputs (by omega) _ _, (HU.out.2.2.2.1.next hb9).puts hg2 _ _, own_kept HU.out.2.2.2.2 fun j hj => ?_⟩
      have h2 := own_lt HU.out.2.2.2.2 hj
      exact (setCells_other (by omega) _ _ _).trans (hb9.block j h2.1))
    have hZ2 := Lib.hid hZ
    clear hb9 hZ HU
    go_wp2_with (first
      | (refine wpList_store_sub rfl 55 _ _ rfl g 2 rfl 58 (kC k (.slice none 0 0)) Y rfl H9.out.1 (by rw [HY.out.1]; exact Nat.le_of_ble_eq_true rfl) HY.out.2.2.2.2 HY.out.2.2.2.1 ?_)
      | (refine wpList_load_sub rfl 58 _ rfl g 0 rfl 58 Z Z (0, 0) _ H9.out.2.1 (fun j hj => by rw [Nat.zero_add]) Tryz.underlying58 rfl HZZ.out.2.2 ?_)
      | (refine wpList_store_sub rfl 58 _ _ rfl (g + 1 + 1) 0 rfl 58 zK Z rfl H9.out.2.2.1 (by rw [HZZ.out.1]; exact Nat.le_refl 11) HZZ.out.2.2 HZZ.out.2.1 ?_))
    refine bodyPost_ret (results_ct (P := Tryz.prog) (fn := Tryz.f66) rfl _ _ (g + 1 + 1) 58 Z (0, 0) _ rfl (H9.out.2.2.1.over (by rw [HZZ.out.1]; rfl)) Tryz.underlying58 rfl HZZ.out.2.2) rfl ?_
    rw [E6.out]
    have how : ((w9.setCells g 2 Y.toList).setCells (g + 1 + 1) 0 Z.toList).ownsRow (g + 3) 88 13 (.slice none 0 0) 0 (ec []) := own_kept H9.out.2.2.2.2 fun j hj => setCells_other (by have := (own_lt H9.out.2.2.2.2 hj).2; omega) _ _ _
    exact ⟨none, 0, by rw [hZ2.out]; rfl, own_mono how (by omega), H9.out.2.2.2.1.puts (by omega) _ _⟩
  have hpv : placeV k.snap.idx k.ents.length s.idx = .tuple #[.int .i64 ((St.pl k s.idx : Nat) : Int), .bool true] := if_pos ⟨by omega, h2⟩
  rw [hpv] at HPl
  clear hpv
  by_cases h3 : St.pl k s.idx < k.ents.length
  case neg =>
    have E6 : Hid (St.cut k s = some ⟨k.trm, k.vote, s, []⟩) := Lib.hid (hcut false (has_no (by omega)))
    obtain ⟨at_, hat⟩ : ∃ at_, at_ = St.pl k s.idx := ⟨_, rfl⟩
    rw [← hat] at HPl h2 h3
    obtain ⟨n, hnn⟩ : ∃ n, n = k.ents.length := ⟨_, rfl⟩
    rw [← hnn] at HX h2 h3 hn
    have d3 : decide ((at_ : Int) < (n : Int)) = false := by simp; omega
    have d4 : ((at_ : Int) < (n : Int)) = False := by simp; omega
    have q1 : at_ ≤ 1000000 := by omega
    clear hcut h1 h2 h3 hat hnn
    go_enter Tryz.func66, Tryz.ntmps66
    go_upto_region 1 with (fail)
    refine forget (fun W => Rw W w.heap.size X 58 ∧ Rw W (w.heap.size + 1) Y 55 ∧ Rw W (w.heap.size + 1 + 1) zK 58 ∧ Bl w W ∧ w.heap.size ≤ w.heap.size) ⟨((Rw.new w X _).alloc _).alloc _, by have := Rw.new (w.alloc (.cells X 58)) Y 55; rw [World.size_alloc] at this; exact this.alloc _, by have := Rw.new ((w.alloc (.cells X 58)).alloc (.cells Y 55)) zK 58; rw [World.size_alloc, World.size_alloc] at this; exact this, (((Bl.refl w).alloc _).alloc _).alloc _, Nat.le_refl _⟩ ?_
    intro W1 H1
    obtain ⟨g, hg⟩ : ∃ g, g = w.heap.size := ⟨_, rfl⟩
    have hg2 : w.heap.size ≤ g := by omega
    rw [← hg] at H1 ⊢
    clear hg
    have HI := Lib.hid H1
    have x2 := H1.1.cell 2 HX.out.2.1
    have y0 := H1.2.1.cell 0 HY.out.2.1
    clear H1
    go_wp2_with (refine wpList_load_sub rfl 58 _ rfl g 0 rfl 58 X X (0, 0) _ HI.out.1 (fun j hj => by rw [Nat.zero_add]) Tryz.underlying58 rfl HX.out.2.2.2.2 ?_)
    refine (HPl.out _).mono ?_
    rintro r w3 ⟨rfl, hb3⟩
    have H3 : Hid (Rw w3 g X 58 ∧ Rw w3 (g + 1) Y 55 ∧ Rw w3 (g + 1 + 1) zK 58 ∧ Bl w w3) := Lib.hid ⟨HI.out.1.bel hb3, HI.out.2.1.bel hb3, HI.out.2.2.1.bel hb3, HI.out.2.2.2.1.next hb3⟩
    clear hb3 x2 y0
    have hgl := H3.out.1.lt
    have hgl1 := H3.out.2.1.lt
    have x10 := H3.out.1.cell 10 HX.out.2.2.1
    have x10r := fun d os => ((below_regrown w3 d os).cell (p := ⟨g, 10, none⟩) hgl).trans x10
    have y1 := H3.out.2.1.cell 1 HY.out.2.2.1
    have y1r := fun d os => ((below_regrown w3 d os).cell (p := ⟨g + 1, 1, none⟩) hgl1).trans y1
    go_upto_region 4 with (fail)
    refine wp_region_quiet_below (by kernel_rfl) (by kernel_rfl) ?_
    repeat (go_big_quiet_step (fail))
    refine wpQuiet_nil ?_
    intro _ hw'
    obtain ⟨pq, hw''⟩ := hw'
    subst hw''
    have hb4 := below_regrown w3 pq.d pq.os
    generalize Go.Sort.grow (redrawn w3 pq.d) pq.os = w4 at *
    have HT : Hid (Rw (w4.setCell ⟨g, 10, none⟩ (.slice none 0 0)) g (kC k (.slice none 0 0)) 58 ∧ Rw (w4.setCell ⟨g, 10, none⟩ (.slice none 0 0)) (g + 1) Y 55 ∧ Rw (w4.setCell ⟨g, 10, none⟩ (.slice none 0 0)) (g + 1 + 1) zK 58 ∧ Bl w (w4.setCell ⟨g, 10, none⟩ (.slice none 0 0)) ∧ (w4.setCell ⟨g, 10, none⟩ (.slice none 0 0)).ownsRow (g + 3) 88 13 (.slice none 0 0) 0 (ec [])) := Lib.hid (by
      have r := (H3.out.1.bel hb4).put 10 (.slice none 0 0)
      rw [HX.out.2.2.2.1] at r
      exact ⟨r, (H3.out.2.1.bel hb4).oput (by omega) _ _, (H3.out.2.2.1.bel hb4).oput (by omega) _ _, (H3.out.2.2.2.next hb4).put hg2 _ _, rfl, .inl ⟨rfl, rfl⟩⟩)
    have z10 := (H3.out.1.bel hb4).cell 10 HX.out.2.2.1
    have fz10 := (H3.out.1.bel hb4).free 10
    clear hb4 x10 x10r y1 y1r hgl hgl1 H3 HI
    go_upto_region 7 with (fail)
    refine forget (fun W => Rw W g (kC k (.slice none 0 0)) 58 ∧ Rw W (g + 1) Y 55 ∧ Rw W (g + 1 + 1) zK 58 ∧ Bl w W ∧ W.ownsRow (g + 3) 88 13 (.slice none 0 0) 0 (ec [])) HT.out ?_
    intro W8 H8
    have HU := Lib.hid H8
    clear H8 HT
    go_wp2_with (refine wpList_load_sub rfl 55 _ rfl (g + 1) 0 rfl 55 Y Y (0, 0) _ HU.out.2.1 (fun j hj => by rw [Nat.zero_add]) Tryz.underlying55 rfl HY.out.2.2.2.2 ?_)
    refine (HSn.out _).mono ?_
    rintro r w9 ⟨rfl, hb9⟩
    obtain ⟨Z, hZ⟩ : ∃ Z, Z = kC ⟨k.trm, k.vote, s, k.ents⟩ (.slice none 0 0) := ⟨_, rfl⟩
    have HZZ : Hid (Z.size = 11 ∧ Z.all (·.oneCell') = true ∧ (Tryz.prog.info? 58).map (·.size) = some Z.size) := Lib.hid (by rw [hZ]; exact ⟨rfl, kC_one _ _ _ _, sizeKept' _ _⟩)
    have H9 : Hid (Rw w9 g (kC k (.slice none 0 0)) 58 ∧ Rw (w9.setCells g 2 Y.toList) g Z 58 ∧ Rw (w9.setCells g 2 Y.toList) (g + 1 + 1) zK 58 ∧ Bl w (w9.setCells g 2 Y.toList) ∧ (w9.setCells g 2 Y.toList).ownsRow (g + 3) 88 13 (.slice none 0 0) 0 (ec [])) := Lib.hid (by
      have r := HU.out.1.bel hb9
      refine ⟨r, by rw [hZ, ← HYl.out]; exact r.puts 2 _, (HU.out.2.2.1.bel hb9).oputs (by omega) _ _, (HU.out.2.2.2.1.next hb9).puts hg2 _ _, own_kept HU.out.2.2.2.2 fun j hj => ?_⟩
      have h2 := own_lt HU.out.2.2.2.2 hj
      exact (setCells_other (by omega) _ _ _).trans (hb9.block j h2.1))
    have hZ2 := Lib.hid hZ
    clear hb9 hZ HU
    go_wp2_with (first
      | (refine wpList_store_sub rfl 55 _ _ rfl g 2 rfl 58 (kC k (.slice none 0 0)) Y rfl H9.out.1 (by rw [HY.out.1]; exact Nat.le_of_ble_eq_true rfl) HY.out.2.2.2.2 HY.out.2.2.2.1 ?_)
      | (refine wpList_load_sub rfl 58 _ rfl g 0 rfl 58 Z Z (0, 0) _ H9.out.2.1 (fun j hj => by rw [Nat.zero_add]) Tryz.underlying58 rfl HZZ.out.2.2 ?_)
      | (refine wpList_store_sub rfl 58 _ _ rfl (g + 1 + 1) 0 rfl 58 zK Z rfl H9.out.2.2.1 (by rw [HZZ.out.1]; exact Nat.le_refl 11) HZZ.out.2.2 HZZ.out.2.1 ?_))
    refine bodyPost_ret (results_ct (P := Tryz.prog) (fn := Tryz.f66) rfl _ _ (g + 1 + 1) 58 Z (0, 0) _ rfl (H9.out.2.2.1.over (by rw [HZZ.out.1]; rfl)) Tryz.underlying58 rfl HZZ.out.2.2) rfl ?_
    rw [E6.out]
    have how : ((w9.setCells g 2 Y.toList).setCells (g + 1 + 1) 0 Z.toList).ownsRow (g + 3) 88 13 (.slice none 0 0) 0 (ec []) := own_kept H9.out.2.2.2.2 fun j hj => setCells_other (by have := (own_lt H9.out.2.2.2.2 hj).2; omega) _ _ _
    exact ⟨none, 0, by rw [hZ2.out]; rfl, own_mono how (by omega), H9.out.2.2.2.1.puts (by omega) _ _⟩
  obtain ⟨b, off, rfl, hE⟩ := HA.out.ent _ h3
  have hbl := hE.lt
  have hc1 := hE.c1
  have hhas := has_at (t := s.trm) h3
  obtain ⟨tb, htb⟩ : ∃ tb, tb = (k.ents[St.pl k s.idx]'h3).trm := ⟨_, rfl⟩
  rw [← htb] at hc1 hhas
  have HD := Lib.hid (fun W (hb : Below w.heap.size w W) => cloneE_any W (some ⟨b, off + (St.pl k s.idx + 1) * 13, none⟩) (c - (St.pl k s.idx + 1)) (k.ents.drop (St.pl k s.idx + 1)) ((lies_drop HA.out _).below hb) (.inl ⟨_, _, rfl⟩) (by rw [List.length_drop]; omega))
  have hlen : (k.ents.drop (St.pl k s.idx + 1)).length = k.ents.length - (St.pl k s.idx + 1) := List.length_drop
  obtain ⟨at_, hat⟩ : ∃ at_, at_ = St.pl k s.idx := ⟨_, rfl⟩
  rw [← hat] at HPl h2 h3 hc1 HD hlen
  have hcut2 := hcut
  rw [← hat] at hcut2
  clear hE htb hcut
  obtain ⟨n, hnn⟩ : ∃ n, n = k.ents.length := ⟨_, rfl⟩
  rw [← hnn] at HX h2 h3 hn hcap hlen
  have d3 : decide ((at_ : Int) < (n : Int)) = true := by simp; omega
  have d4 : ((at_ : Int) < (n : Int)) = True := by simp; omega
  have q1 : at_ ≤ 1000000 := by omega
  have HC1 := Lib.hid (fun W (hb : Below w.heap.size w W) => And.intro (hb.cell (p := ⟨b, off + at_ * 13 + 1, none⟩) hbl |>.trans hc1) (Nat.lt_of_lt_of_le hbl hb.size))
  by_cases h4 : tb = s.trm
  case neg =>
    have E6 : Hid (St.cut k s = some ⟨k.trm, k.vote, s, []⟩) := Lib.hid (hcut2 false (by rw [hhas]; simpa using h4))
    have d5 : ((tb : Int) == (s.trm : Int)) = false := by simp; omega
    have d6 : ((tb : Int) = (s.trm : Int)) = False := by simp; omega
    clear hcut2 h1 h2 h3 h4 hat hnn hlen hhas hc1 hbl HD
    go_enter Tryz.func66, Tryz.ntmps66
    go_upto_region 1 with (fail)
    refine forget (fun W => Rw W w.heap.size X 58 ∧ Rw W (w.heap.size + 1) Y 55 ∧ Rw W (w.heap.size + 1 + 1) zK 58 ∧ Bl w W ∧ w.heap.size ≤ w.heap.size) ⟨((Rw.new w X _).alloc _).alloc _, by have := Rw.new (w.alloc (.cells X 58)) Y 55; rw [World.size_alloc] at this; exact this.alloc _, by have := Rw.new ((w.alloc (.cells X 58)).alloc (.cells Y 55)) zK 58; rw [World.size_alloc, World.size_alloc] at this; exact this, (((Bl.refl w).alloc _).alloc _).alloc _, Nat.le_refl _⟩ ?_
    intro W1 H1
    obtain ⟨g, hg⟩ : ∃ g, g = w.heap.size := ⟨_, rfl⟩
    have hg2 : w.heap.size ≤ g := by omega
    rw [← hg] at H1 ⊢
    clear hg
    have HI := Lib.hid H1
    have x2 := H1.1.cell 2 HX.out.2.1
    have y0 := H1.2.1.cell 0 HY.out.2.1
    clear H1
    go_wp2_with (refine wpList_load_sub rfl 58 _ rfl g 0 rfl 58 X X (0, 0) _ HI.out.1 (fun j hj => by rw [Nat.zero_add]) Tryz.underlying58 rfl HX.out.2.2.2.2 ?_)
    refine (HPl.out _).mono ?_
    rintro r w3 ⟨rfl, hb3⟩
    have H3 : Hid (Rw w3 g X 58 ∧ Rw w3 (g + 1) Y 55 ∧ Rw w3 (g + 1 + 1) zK 58 ∧ Bl w w3) := Lib.hid ⟨HI.out.1.bel hb3, HI.out.2.1.bel hb3, HI.out.2.2.1.bel hb3, HI.out.2.2.2.1.next hb3⟩
    clear hb3 x2 y0
    have hgl := H3.out.1.lt
    have hgl1 := H3.out.2.1.lt
    have x10 := H3.out.1.cell 10 HX.out.2.2.1
    have x10r := fun d os => ((below_regrown w3 d os).cell (p := ⟨g, 10, none⟩) hgl).trans x10
    have y1 := H3.out.2.1.cell 1 HY.out.2.2.1
    have y1r := fun d os => ((below_regrown w3 d os).cell (p := ⟨g + 1, 1, none⟩) hgl1).trans y1
    have hx1 := (HC1.out w3 H3.out.2.2.2.bel)
    have x1 := hx1.1
    have hbl3 := hx1.2
    have x1r := fun d os => ((below_regrown w3 d os).cell (p := ⟨b, off + at_ * 13 + 1, none⟩) hbl3).trans x1
    go_upto_region 4 with (fail)
    refine wp_region_quiet_below (by kernel_rfl) (by kernel_rfl) ?_
    repeat (go_big_quiet_step (fail))
    refine wpQuiet_nil ?_
    intro _ hw'
    obtain ⟨pq, hw''⟩ := hw'
    subst hw''
    have hb4 := below_regrown w3 pq.d pq.os
    generalize Go.Sort.grow (redrawn w3 pq.d) pq.os = w4 at *
    have HT : Hid (Rw (w4.setCell ⟨g, 10, none⟩ (.slice none 0 0)) g (kC k (.slice none 0 0)) 58 ∧ Rw (w4.setCell ⟨g, 10, none⟩ (.slice none 0 0)) (g + 1) Y 55 ∧ Rw (w4.setCell ⟨g, 10, none⟩ (.slice none 0 0)) (g + 1 + 1) zK 58 ∧ Bl w (w4.setCell ⟨g, 10, none⟩ (.slice none 0 0)) ∧ (w4.setCell ⟨g, 10, none⟩ (.slice none 0 0)).ownsRow (g + 3) 88 13 (.slice none 0 0) 0 (ec [])) := Lib.hid (by
      have r := (H3.out.1.bel hb4).put 10 (.slice none 0 0)
      rw [HX.out.2.2.2.1] at r
      exact ⟨r, (H3.out.2.1.bel hb4).oput (by omega) _ _, (H3.out.2.2.1.bel hb4).oput (by omega) _ _, (H3.out.2.2.2.next hb4).put hg2 _ _, rfl, .inl ⟨rfl, rfl⟩⟩)
    have z10 := (H3.out.1.bel hb4).cell 10 HX.out.2.2.1
    have fz10 := (H3.out.1.bel hb4).free 10
    clear hb4 x1 x1r hx1 hbl3 x10 x10r y1 y1r hgl hgl1 H3 HI
    go_upto_region 7 with (fail)
    refine forget (fun W => Rw W g (kC k (.slice none 0 0)) 58 ∧ Rw W (g + 1) Y 55 ∧ Rw W (g + 1 + 1) zK 58 ∧ Bl w W ∧ W.ownsRow (g + 3) 88 13 (.slice none 0 0) 0 (ec [])) HT.out ?_
    intro W8 H8
    have HU := Lib.hid H8
    clear H8 HT
    go_wp2_with (refine wpList_load_sub rfl 55 _ rfl (g + 1) 0 rfl 55 Y Y (0, 0) _ HU.out.2.1 (fun j hj => by rw [Nat.zero_add]) Tryz.underlying55 rfl HY.out.2.2.2.2 ?_)
    refine (HSn.out _).mono ?_
    rintro r w9 ⟨rfl, hb9⟩
    obtain ⟨Z, hZ⟩ : ∃ Z, Z = kC ⟨k.trm, k.vote, s, k.ents⟩ (.slice none 0 0) := ⟨_, rfl⟩
    have HZZ : Hid (Z.size = 11 ∧ Z.all (·.oneCell') = true ∧ (Tryz.prog.info? 58).map (·.size) = some Z.size) := Lib.hid (by rw [hZ]; exact ⟨rfl, kC_one _ _ _ _, sizeKept' _ _⟩)
    have H9 : Hid (Rw w9 g (kC k (.slice none 0 0)) 58 ∧ Rw (w9.setCells g 2 Y.toList) g Z 58 ∧ Rw (w9.setCells g 2 Y.toList) (g + 1 + 1) zK 58 ∧ Bl w (w9.setCells g 2 Y.toList) ∧ (w9.setCells g 2 Y.toList).ownsRow (g + 3) 88 13 (.slice none 0 0) 0 (ec [])) := Lib.hid (by
      have r := HU.out.1.bel hb9
      refine ⟨r, by rw [hZ, ← HYl.out]; exact r.puts 2 _, (HU.out.2.2.1.bel hb9).oputs (by omega) _ _, (HU.out.2.2.2.1.next hb9).puts hg2 _ _, own_kept HU.out.2.2.2.2 fun j hj => ?_⟩
      have h2 := own_lt HU.out.2.2.2.2 hj
      exact (setCells_other (by omega) _ _ _).trans (hb9.block j h2.1))
    have hZ2 := Lib.hid hZ
    clear hb9 hZ HU
    go_wp2_with (first
      | (refine wpList_store_sub rfl 55 _ _ rfl g 2 rfl 58 (kC k (.slice none 0 0)) Y rfl H9.out.1 (by rw [HY.out.1]; exact Nat.le_of_ble_eq_true rfl) HY.out.2.2.2.2 HY.out.2.2.2.1 ?_)
      | (refine wpList_load_sub rfl 58 _ rfl g 0 rfl 58 Z Z (0, 0) _ H9.out.2.1 (fun j hj => by rw [Nat.zero_add]) Tryz.underlying58 rfl HZZ.out.2.2 ?_)
      | (refine wpList_store_sub rfl 58 _ _ rfl (g + 1 + 1) 0 rfl 58 zK Z rfl H9.out.2.2.1 (by rw [HZZ.out.1]; exact Nat.le_refl 11) HZZ.out.2.2 HZZ.out.2.1 ?_))
    refine bodyPost_ret (results_ct (P := Tryz.prog) (fn := Tryz.f66) rfl _ _ (g + 1 + 1) 58 Z (0, 0) _ rfl (H9.out.2.2.1.over (by rw [HZZ.out.1]; rfl)) Tryz.underlying58 rfl HZZ.out.2.2) rfl ?_
    rw [E6.out]
    have how : ((w9.setCells g 2 Y.toList).setCells (g + 1 + 1) 0 Z.toList).ownsRow (g + 3) 88 13 (.slice none 0 0) 0 (ec []) := own_kept H9.out.2.2.2.2 fun j hj => setCells_other (by have := (own_lt H9.out.2.2.2.2 hj).2; omega) _ _ _
    exact ⟨none, 0, by rw [hZ2.out]; rfl, own_mono how (by omega), H9.out.2.2.2.1.puts (by omega) _ _⟩
  have E6 : Hid (St.cut k s = some ⟨k.trm, k.vote, s, k.ents.drop (at_ + 1)⟩) := Lib.hid (hcut2 true (by rw [hhas]; simpa using h4))
  have d5 : ((tb : Int) == (s.trm : Int)) = true := by simp; omega
  have d6 : ((tb : Int) = (s.trm : Int)) = True := by simp; omega
  obtain ⟨es, hes⟩ : ∃ es, es = k.ents.drop (at_ + 1) := ⟨_, rfl⟩
  rw [← hes] at E6 HD hlen
  rw [hlen] at HD
  have HDD : Hid (∀ W, Below w.heap.size w W → ∀ o' c', ((o' = off + (at_ + 1) * 13 ∧ c' = c - (at_ + 1)) ∨ (o' = off ∧ c' = 0 ∧ c = at_ + 1)) → Calls Tryz.prog 121 #[.slice (some ⟨b, o', none⟩) (n - (at_ + 1)) c'] W fun e w' => ∃ A' c2, e = .returned (.slice A' (n - (at_ + 1)) c2) ∧ w'.ownsRow W.heap.size 88 13 (.slice A' (n - (at_ + 1)) c2) (n - (at_ + 1)) (ec es) ∧ Below W.heap.size W w') := Lib.hid fun W hb o' c' h => by
    rcases h with ⟨rfl, rfl⟩ | ⟨rfl, rfl, h⟩
    · exact HD.out W hb
    · have h0 : n - (at_ + 1) = 0 := by omega
      have he : es = [] := List.eq_nil_of_length_eq_zero (by omega)
      have := cloneE_any W (some ⟨b, o', none⟩) 0 [] (.inl rfl) (.inl ⟨_, _, rfl⟩) (by decide)
      rw [h0, he]
      exact this
  have q2 : (at_ : Int) + 1 ≤ (n : Int) := by omega
  have q3 : (n : Int) ≤ (c : Int) := by omega
  have HLE := Lib.hid hlen
  clear hcut2 h1 h4 hat hnn hlen hhas hc1 hbl hes
  go_enter Tryz.func66, Tryz.ntmps66
  go_upto_region 1 with (fail)
  refine forget (fun W => Rw W w.heap.size X 58 ∧ Rw W (w.heap.size + 1) Y 55 ∧ Rw W (w.heap.size + 1 + 1) zK 58 ∧ Bl w W ∧ w.heap.size ≤ w.heap.size) ⟨((Rw.new w X _).alloc _).alloc _, by have := Rw.new (w.alloc (.cells X 58)) Y 55; rw [World.size_alloc] at this; exact this.alloc _, by have := Rw.new ((w.alloc (.cells X 58)).alloc (.cells Y 55)) zK 58; rw [World.size_alloc, World.size_alloc] at this; exact this, (((Bl.refl w).alloc _).alloc _).alloc _, Nat.le_refl _⟩ ?_
  intro W1 H1
  obtain ⟨g, hg⟩ : ∃ g, g = w.heap.size := ⟨_, rfl⟩
  have hg2 : w.heap.size ≤ g := by omega
  rw [← hg] at H1 ⊢
  clear hg
  have HI := Lib.hid H1
  have x2 := H1.1.cell 2 HX.out.2.1
  have y0 := H1.2.1.cell 0 HY.out.2.1
  clear H1
  go_wp2_with (refine wpList_load_sub rfl 58 _ rfl g 0 rfl 58 X X (0, 0) _ HI.out.1 (fun j hj => by rw [Nat.zero_add]) Tryz.underlying58 rfl HX.out.2.2.2.2 ?_)
  refine (HPl.out _).mono ?_
  rintro r w3 ⟨rfl, hb3⟩
  have H3 : Hid (Rw w3 g X 58 ∧ Rw w3 (g + 1) Y 55 ∧ Rw w3 (g + 1 + 1) zK 58 ∧ Bl w w3) := Lib.hid ⟨HI.out.1.bel hb3, HI.out.2.1.bel hb3, HI.out.2.2.1.bel hb3, HI.out.2.2.2.1.next hb3⟩
  clear hb3 x2 y0
  have hgl := H3.out.1.lt
  have hgl1 := H3.out.2.1.lt
  have x10 := H3.out.1.cell 10 HX.out.2.2.1
  have x10r := fun d os => ((below_regrown w3 d os).cell (p := ⟨g, 10, none⟩) hgl).trans x10
  have y1 := H3.out.2.1.cell 1 HY.out.2.2.1
  have y1r := fun d os => ((below_regrown w3 d os).cell (p := ⟨g + 1, 1, none⟩) hgl1).trans y1
  have hx1 := (HC1.out w3 H3.out.2.2.2.bel)
  have x1 := hx1.1
  have hbl3 := hx1.2
  have x1r := fun d os => ((below_regrown w3 d os).cell (p := ⟨b, off + at_ * 13 + 1, none⟩) hbl3).trans x1
  go_upto_region 4 with (fail)
  refine wp_region_quiet_below (by kernel_rfl) (by kernel_rfl) ?_
  repeat (go_big_quiet_step (fail))
  refine wpQuiet_nil ?_
  intro _ hw'
  obtain ⟨pq, hw''⟩ := hw'
  subst hw''
  have hb4 := below_regrown w3 pq.d pq.os
  generalize Go.Sort.grow (redrawn w3 pq.d) pq.os = w4 at *
  have z10 := (H3.out.1.bel hb4).cell 10 HX.out.2.2.1
  have H4 : Hid (Rw w4 g X 58 ∧ Rw w4 (g + 1) Y 55 ∧ Rw w4 (g + 1 + 1) zK 58 ∧ Bl w w4) := Lib.hid ⟨H3.out.1.bel hb4, H3.out.2.1.bel hb4, H3.out.2.2.1.bel hb4, H3.out.2.2.2.next hb4⟩
  clear hb4 x1 x1r hx1 hbl3 x10 x10r y1 y1r hgl hgl1 H3 HI
  have p1 : (n : Int) - ((at_ : Int) + 1) = ((n - (at_ + 1) : Nat) : Int) := by omega
  have p2 : (c : Int) - ((at_ : Int) + 1) = ((c - (at_ + 1) : Nat) : Int) := by omega
  go_wp2_with fail
  all_goals (
    refine (HDD.out _ H4.out.2.2.2.bel _ _ (by first | exact .inl ⟨rfl, rfl⟩ | exact .inr ⟨rfl, rfl, by assumption⟩)).mono ?_
    rintro r w5 ⟨A', c', rfl, ho5, hb5⟩
    have HT : Hid (Rw (w5.setCell ⟨g, 10, none⟩ (.slice A' (n - (at_ + 1)) c')) g (kC k (.slice A' (n - (at_ + 1)) c')) 58 ∧ Rw (w5.setCell ⟨g, 10, none⟩ (.slice A' (n - (at_ + 1)) c')) (g + 1) Y 55 ∧ Rw (w5.setCell ⟨g, 10, none⟩ (.slice A' (n - (at_ + 1)) c')) (g + 1 + 1) zK 58 ∧ Bl w (w5.setCell ⟨g, 10, none⟩ (.slice A' (n - (at_ + 1)) c')) ∧ (w5.setCell ⟨g, 10, none⟩ (.slice A' (n - (at_ + 1)) c')).ownsRow (g + 3) 88 13 (.slice A' (n - (at_ + 1)) c') (n - (at_ + 1)) (ec es)) := Lib.hid (by
      have r := (H4.out.1.bel hb5).put 10 (.slice A' (n - (at_ + 1)) c')
      rw [HX.out.2.2.2.1] at r
      have hl := H4.out.2.2.1.lt
      have ho2 := own_mono (B' := g + 3) ho5 (by omega)
      exact ⟨r, (H4.out.2.1.bel hb5).oput (by omega) _ _, (H4.out.2.2.1.bel hb5).oput (by omega) _ _, (H4.out.2.2.2.next hb5).put hg2 _ _, own_kept ho2 fun j hj => heap_setCell_other w5 ⟨g, 10, none⟩ j _ (by have := (own_lt ho2 hj).2; show j ≠ g; omega)⟩)
    have z5 := (H4.out.1.bel hb5).cell 10 HX.out.2.2.1
    have fz5 := (H4.out.1.bel hb5).free 10
    clear ho5 hb5 z10 H4
    go_upto_region 7 with (fail)
    refine forget (fun W => Rw W g (kC k (.slice A' (n - (at_ + 1)) c')) 58 ∧ Rw W (g + 1) Y 55 ∧ Rw W (g + 1 + 1) zK 58 ∧ Bl w W ∧ W.ownsRow (g + 3) 88 13 (.slice A' (n - (at_ + 1)) c') (n - (at_ + 1)) (ec es)) HT.out ?_
    intro W8 H8
    have HU := Lib.hid H8
    clear H8 HT
    go_wp2_with (refine wpList_load_sub rfl 55 _ rfl (g + 1) 0 rfl 55 Y Y (0, 0) _ HU.out.2.1 (fun j hj => by rw [Nat.zero_add]) Tryz.underlying55 rfl HY.out.2.2.2.2 ?_)
    refine (HSn.out _).mono ?_
    rintro r w9 ⟨rfl, hb9⟩
    obtain ⟨Z, hZ⟩ : ∃ Z, Z = kC ⟨k.trm, k.vote, s, k.ents⟩ (.slice A' (n - (at_ + 1)) c') := ⟨_, rfl⟩
    have HZZ : Hid (Z.size = 11 ∧ Z.all (·.oneCell') = true ∧ (Tryz.prog.info? 58).map (·.size) = some Z.size) := Lib.hid (by rw [hZ]; exact ⟨rfl, kC_one _ _ _ _, sizeKept' _ _⟩)
    have H9 : Hid (Rw w9 g (kC k (.slice A' (n - (at_ + 1)) c')) 58 ∧ Rw (w9.setCells g 2 Y.toList) g Z 58 ∧ Rw (w9.setCells g 2 Y.toList) (g + 1 + 1) zK 58 ∧ Bl w (w9.setCells g 2 Y.toList) ∧ (w9.setCells g 2 Y.toList).ownsRow (g + 3) 88 13 (.slice A' (n - (at_ + 1)) c') (n - (at_ + 1)) (ec es)) := Lib.hid (by
      have r := HU.out.1.bel hb9
      refine ⟨r, by rw [hZ, ← HYl.out]; exact r.puts 2 _, (HU.out.2.2.1.bel hb9).oputs (by omega) _ _, (HU.out.2.2.2.1.next hb9).puts hg2 _ _, own_kept HU.out.2.2.2.2 fun j hj => ?_⟩
      have h2 := own_lt HU.out.2.2.2.2 hj
      exact (setCells_other (by omega) _ _ _).trans (hb9.block j h2.1))
    have hZ2 := Lib.hid hZ
    clear hb9 hZ HU
    go_wp2_with (first
      | (refine wpList_store_sub rfl 55 _ _ rfl g 2 rfl 58 (kC k (.slice A' (n - (at_ + 1)) c')) Y rfl H9.out.1 (by rw [HY.out.1]; exact Nat.le_of_ble_eq_true rfl) HY.out.2.2.2.2 HY.out.2.2.2.1 ?_)
      | (refine wpList_load_sub rfl 58 _ rfl g 0 rfl 58 Z Z (0, 0) _ H9.out.2.1 (fun j hj => by rw [Nat.zero_add]) Tryz.underlying58 rfl HZZ.out.2.2 ?_)
      | (refine wpList_store_sub rfl 58 _ _ rfl (g + 1 + 1) 0 rfl 58 zK Z rfl H9.out.2.2.1 (by rw [HZZ.out.1]; exact Nat.le_refl 11) HZZ.out.2.2 HZZ.out.2.1 ?_))
    refine bodyPost_ret (results_ct (P := Tryz.prog) (fn := Tryz.f66) rfl _ _ (g + 1 + 1) 58 Z (0, 0) _ rfl (H9.out.2.2.1.over (by rw [HZZ.out.1]; rfl)) Tryz.underlying58 rfl HZZ.out.2.2) rfl ?_
    rw [E6.out]
    have how : ((w9.setCells g 2 Y.toList).setCells (g + 1 + 1) 0 Z.toList).ownsRow (g + 3) 88 13 (.slice A' (n - (at_ + 1)) c') (n - (at_ + 1)) (ec es) := own_kept H9.out.2.2.2.2 fun j hj => setCells_other (by have := (own_lt H9.out.2.2.2.2 hj).2; omega) _ _ _
    exact ⟨A', c', by rw [hZ2.out, ← HLE.out]; rfl, by rw [HLE.out]; exact own_mono how (by omega), H9.out.2.2.2.1.puts (by omega) _ _⟩)
end Go.Proofs.YtjhbpcecdhdnoaaGreatDoor
