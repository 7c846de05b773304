/-
  The document's One walked.
-/
import Derived.Test.YtjhbpcecdhdnoaaGreatDoorRStCutFZ
import Derived.Test.YtjhbpcecdhdnoaaGreatDoorRStSort12Z
import Derived.Test.YtjhbpcecdhdnoaaGreatDoorRStAwZ
set_option linter.unusedSimpArgs false
set_option linter.unusedVariables false
namespace Go.Proofs.YtjhbpcecdhdnoaaGreatDoor
open Go.RowKit
def RetOne (A0 : Option Addr) (es0 : List En.E) (o : Option St.K) (w : World) (e : Ending) (w' : World) : Prop := match o with
  | some k => ∃ A c, e = .returned (.tuple #[.agg (kC k (.slice A k.ents.length c)), .bool true]) ∧ Lies w' A (ec k.ents) ∧ Below w.heap.size w w' ∧ ((A = A0 ∧ k.ents = es0) ∨ ∀ b off, A = some ⟨b, off, none⟩ → w.heap.size ≤ b)
  | none => e = .returned (.tuple #[.agg zK, .bool false]) ∧ Below w.heap.size w w'
theorem kC_trm (k : St.K) (v : Value) (t : Nat) : (kC k v).setIfInBounds 0 (.int .u64 (t : Int)) = kC ⟨t, k.vote, k.snap, k.ents⟩ v := rfl
theorem kC_vote (k : St.K) (v : Value) (t : Nat) : (kC k v).setIfInBounds 1 (.int .u8 (t : Int)) = kC ⟨k.trm, t, k.snap, k.ents⟩ v := rfl
theorem kC_ents (k : St.K) (v v' : Value) (es : List En.E) : (kC k v).setIfInBounds 10 v' = kC ⟨k.trm, k.vote, k.snap, es⟩ v' := rfl
theorem rec_cells9 {W : World} {g : Nat} {r : Wl.R} (h : Rw W g (recC r) 90) :
    W.cell? ⟨g, 0, none⟩ = some (.int .u8 (r.kind : Int)) ∧ W.cell? ⟨g, 1, none⟩ = some (.int .u64 (r.trm : Int)) ∧ W.cell? ⟨g, 2, none⟩ = some (.int .u8 (r.vote : Int)) ∧ W.cell? ⟨g, 3, none⟩ = some (.int .u64 (r.ent.idx : Int)) ∧ W.cell? ⟨g, 4, none⟩ = some (.int .u64 (r.ent.trm : Int)) ∧ W.cell? ⟨g, 5, none⟩ = some (.int .u8 (r.ent.kind : Int)) ∧ W.cell? ⟨g, 6, none⟩ = some (.int .u8 (r.ent.slot : Int)) ∧
    W.cell? ⟨g, 7, none⟩ = some (.int .u8 (r.ent.tok.a0.toNat : Int)) ∧ W.cell? ⟨g, 8, none⟩ = some (.int .u8 (r.ent.tok.a1.toNat : Int)) ∧ W.cell? ⟨g, 9, none⟩ = some (.int .u8 (r.ent.tok.a2.toNat : Int)) ∧ W.cell? ⟨g, 10, none⟩ = some (.int .u8 (r.ent.tok.a3.toNat : Int)) ∧ W.cell? ⟨g, 11, none⟩ = some (.int .u8 (r.ent.tok.a4.toNat : Int)) ∧ W.cell? ⟨g, 12, none⟩ = some (.int .u8 (r.ent.tok.a5.toNat : Int)) ∧ W.cell? ⟨g, 13, none⟩ = some (.int .u8 (r.ent.tok.a6.toNat : Int)) ∧ W.cell? ⟨g, 14, none⟩ = some (.int .u8 (r.ent.tok.a7.toNat : Int)) ∧ W.cell? ⟨g, 15, none⟩ = some (.string r.ent.body) :=
  ⟨h.cell 0 rfl, h.cell 1 rfl, h.cell 2 rfl, h.cell 3 rfl, h.cell 4 rfl, h.cell 5 rfl, h.cell 6 rfl, h.cell 7 rfl, h.cell 8 rfl, h.cell 9 rfl, h.cell 10 rfl, h.cell 11 rfl, h.cell 12 rfl, h.cell 13 rfl, h.cell 14 rfl, h.cell 15 rfl⟩
theorem ec_snoc (es : List En.E) (e : En.E) : ec (es ++ [e]) = ec es ++ ec1 e := by simp [ec]
theorem ec1_one (e : En.E) : ∀ u ∈ ec1 e, u.oneCell' = true := fun u hu => ecs_one [e] u (by simpa [ec] using hu)
structure O1 (W : World) (g : Nat) (k : St.K) (v : Value) (r : Wl.R) (W1 : World) : Prop where
  kr : Rw W1 g (kC k v) 62
  rr : Rw W1 (g + 1) (recC r) 90
  zr : Rw W1 (g + 2) zK 62
  bl : Bl W W1
theorem o1_of (W : World) (k : St.K) (v : Value) (r : Wl.R) : O1 W W.heap.size k v r (((W.alloc (.cells (kC k v) 62)).alloc (.cells (recC r) 90)).alloc (.cells zK 62)) := by
  have e1 : (W.alloc (.cells (kC k v) 62)).heap.size = W.heap.size + 1 := by simp
  have e2 : ((W.alloc (.cells (kC k v) 62)).alloc (.cells (recC r) 90)).heap.size = W.heap.size + 2 := by simp
  refine ⟨((Rw.new W _ _).alloc _).alloc _, ?_, ?_, (((Bl.refl W).alloc _).alloc _).alloc _⟩
  · have := Rw.new (W.alloc (.cells (kC k v) 62)) (recC r) 90
    rw [e1] at this
    exact this.alloc _
  · have := Rw.new ((W.alloc (.cells (kC k v) 62)).alloc (.cells (recC r) 90)) zK 62
    rw [e2] at this
    exact this
theorem O1.bel {W W1 W2 : World} {g : Nat} {k : St.K} {v : Value} {r : Wl.R} (h : O1 W g k v r W1) (hb : Below W1.heap.size W1 W2) : O1 W g k v r W2 := ⟨h.kr.bel hb, h.rr.bel hb, h.zr.bel hb, h.bl.next hb⟩
theorem zK_sizeR : (Tryz.prog.info? 62).map (·.size) = some 11 := by kernel_rfl
theorem recSize9 : (Tryz.prog.info? 90).map (·.size) = some 16 := by kernel_rfl
set_option maxRecDepth 100000 in
set_option maxHeartbeats 8000000 in
theorem rone_any (k : St.K) (A : Option Addr) (c : Nat) (r : Wl.R) (w : World) (hA : Lies w A (ec k.ents)) (hf : St.Fit k) (hk : k.snap.idx + k.ents.length + 1 < 18446744073709551615) (hn : k.ents.length ≤ 1000000) (hr : Wl.Fits r) :
    Calls Tryz.prog 65 #[.agg (kC k (.slice A k.ents.length c)), .agg (recC r)] w (RetOne A k.ents (St.one k r) w) := by
  have HR := Lib.hid (fun W => refRight8_any r W)
  have HA := Lib.hid hA
  have Hf := Lib.hid hf
  clear hA hf
  cases hright : Wl.right r with
  | false =>
    have E : Hid (St.one k r = none) := Lib.hid (by unfold St.one; rw [if_pos hright])
    rw [hright] at HR
    clear hright
    obtain ⟨Y, hY⟩ : ∃ Y, Y = recC r := ⟨_, rfl⟩
    have HYs : Hid ((Tryz.prog.info? 90).map (·.size) = some Y.size) := Lib.hid (by rw [hY]; exact recSize9)
    go_enter Tryz.func65, Tryz.ntmps65
    go_upto_region 1 with (fail)
    refine forget (O1 w w.heap.size k (.slice A k.ents.length c) r) (o1_of w k (.slice A k.ents.length c) r) ?_
    intro W1 H1
    have e1 : (w.alloc (.cells (kC k (.slice A k.ents.length c)) 62)).heap.size = w.heap.size + 1 := by simp
    have e2 : ((w.alloc (.cells (kC k (.slice A k.ents.length c)) 62)).alloc (.cells (recC r) 90)).heap.size = w.heap.size + 2 := by simp
    obtain ⟨g, hg⟩ : ∃ g, g = w.heap.size := ⟨_, rfl⟩
    try rw [e2]
    try rw [e1]
    rw [← hg] at H1 ⊢
    have HI := Lib.hid H1
    have Hg : Hid (w.heap.size ≤ g) := Lib.hid (by rw [hg]; exact Nat.le_refl _)
    have HRr : Hid (Rw W1 (g + 1) Y 90) := Lib.hid (by rw [hY]; exact H1.rr)
    rw [← hY] at HR
    clear H1 hg e1 e2 hY
    go_wp2_with (refine wpList_load_sub rfl 90 _ rfl (g + 1) 0 rfl 90 Y Y (0, 0) _ HRr.out (fun m hm => by rw [Nat.zero_add]) Tryz.underlying90 rfl HYs.out ?_)
    refine (HR.out _).mono ?_
    rintro e w2 ⟨rfl, hb2⟩
    have HI2 := Lib.hid (HI.out.bel hb2)
    clear hb2
    go_wp2_with (first
      | (refine wpList_built rfl 62 _ rfl zK (by kernel_rfl) ?_)
      | (refine wpList_store_sub rfl 62 _ _ rfl (g + 2) 0 rfl 62 zK zK rfl HI2.out.zr (Nat.le_refl 11) zK_sizeR zK_one ?_))
    refine bodyPost_ret (results_ct (P := Tryz.prog) (fn := Tryz.f65) rfl _ _ (g + 2) 62 zK (0, 0) _ rfl (HI2.out.zr.over rfl) Tryz.underlying62 rfl zK_sizeR) rfl ?_
    rw [E.out]
    exact ⟨rfl, (HI2.out.bl.puts (by have := Hg.out; omega) _ _).bel⟩
  | true =>
  rw [hright] at HR
  have Hrt := Lib.hid hright
  clear hright
  obtain ⟨Y, hY⟩ : ∃ Y, Y = recC r := ⟨_, rfl⟩
  have HYs : Hid ((Tryz.prog.info? 90).map (·.size) = some Y.size) := Lib.hid (by rw [hY]; exact recSize9)
  go_enter Tryz.func65, Tryz.ntmps65
  go_upto_region 1 with (fail)
  refine forget (O1 w w.heap.size k (.slice A k.ents.length c) r) (o1_of w k (.slice A k.ents.length c) r) ?_
  intro W1 H1
  have e1 : (w.alloc (.cells (kC k (.slice A k.ents.length c)) 62)).heap.size = w.heap.size + 1 := by simp
  have e2 : ((w.alloc (.cells (kC k (.slice A k.ents.length c)) 62)).alloc (.cells (recC r) 90)).heap.size = w.heap.size + 2 := by simp
  obtain ⟨g, hg⟩ : ∃ g, g = w.heap.size := ⟨_, rfl⟩
  try rw [e2]
  try rw [e1]
  rw [← hg] at H1 ⊢
  have HI := Lib.hid H1
  have Hg : Hid (w.heap.size ≤ g) := Lib.hid (by rw [hg]; exact Nat.le_refl _)
  have HRr : Hid (Rw W1 (g + 1) Y 90) := Lib.hid (by rw [hY]; exact H1.rr)
  rw [← hY] at HR
  clear H1 hg e1 e2 hY
  go_wp2_with (refine wpList_load_sub rfl 90 _ rfl (g + 1) 0 rfl 90 Y Y (0, 0) _ HRr.out (fun m hm => by rw [Nat.zero_add]) Tryz.underlying90 rfl HYs.out ?_)
  refine (HR.out _).mono ?_
  rintro e w2 ⟨rfl, hb2⟩
  have HI2 := Lib.hid (HI.out.bel hb2)
  clear hb2 HRr HR HYs
  obtain ⟨r0, r1, r2, r3, r4, r5, r6, r7, r8, r9, r10, r11, r12, r13, r14, r15⟩ := rec_cells9 HI2.out.rr
  by_cases h2 : r.kind = 2
  · have q1 : ((r.kind : Int) == 2) = true := by simp; omega
    have q2 : ((r.kind : Int) = 2) = True := by simp; omega
    obtain ⟨k', hk'⟩ : ∃ k', k' = St.K.mk r.trm r.vote k.snap k.ents := ⟨_, rfl⟩
    have E : Hid (St.one k r = some k') := Lib.hid (by rw [hk']; exact St.one_state Hrt.out h2)
    have HK := Lib.hid hk'
    clear h2 hk'
    obtain ⟨x0, x1, x2, x3, x4, x5, x6, x7, x8, x9, x10⟩ := rk_cells HI2.out.kr
    have f0 := HI2.out.kr.free 0
    have f1 := HI2.out.kr.free 1
    clear x2 x3 x4 x5 x6 x7 x8 x9 x10
    go_upto_region 6 with (fail)
    refine forget (fun W3 => Rw W3 g (kC k' (.slice A k.ents.length c)) 62 ∧ Rw W3 (g + 2) zK 62 ∧ Bl w W3) ⟨?_, (HI2.out.zr.oput (by omega) _ _).oput (by omega) _ _, (HI2.out.bl.put Hg.out _ _).put Hg.out _ _⟩ ?_
    · have := (HI2.out.kr.put 0 (.int .u64 (r.trm : Int))).put 1 (.int .u8 (r.vote : Int))
      rw [kC_trm, kC_vote] at this
      rw [HK.out]
      exact this
    intro W3 H3
    have HI3 := Lib.hid H3
    have HZZ : Hid ((kC k' (.slice A k.ents.length c)).all (·.oneCell') = true ∧ (Tryz.prog.info? 62).map (·.size) = some (kC k' (.slice A k.ents.length c)).size) := Lib.hid ⟨kC_one _ _ _ _, by kernel_rfl⟩
    clear H3 x0 x1 f0 f1 r0 r1 r2 r3 r4 r5 r6 r7 r8 r9 r10 r11 r12 r13 r14 r15
    go_wp2_with (first
      | (refine wpList_load_sub rfl 62 _ rfl g 0 rfl 62 (kC k' (.slice A k.ents.length c)) (kC k' (.slice A k.ents.length c)) (0, 0) _ HI3.out.1 (fun m hm => by rw [Nat.zero_add]) Tryz.underlying62 rfl HZZ.out.2 ?_)
      | (refine wpList_store_sub rfl 62 _ _ rfl (g + 2) 0 rfl 62 zK (kC k' (.slice A k.ents.length c)) rfl HI3.out.2.1 (Nat.le_refl 11) HZZ.out.2 HZZ.out.1 ?_))
    refine bodyPost_ret (results_ct (P := Tryz.prog) (fn := Tryz.f65) rfl _ _ (g + 2) 62 (kC k' (.slice A k.ents.length c)) (0, 0) _ rfl (HI3.out.2.1.over rfl) Tryz.underlying62 rfl HZZ.out.2) rfl ?_
    rw [E.out]
    have hb3 := (HI3.out.2.2.puts (g := g + 2) (by have := Hg.out; omega) 0 (kC k' (.slice A k.ents.length c)).toList).bel
    have hke : k'.ents = k.ents := by rw [HK.out]
    refine ⟨A, c, by rw [hke]; rfl, ?_, hb3, .inl ⟨rfl, hke⟩⟩
    rw [hke]
    exact HA.out.below hb3
  · have q1 : ((r.kind : Int) == 2) = false := by simp; omega
    have q2 : ((r.kind : Int) = 2) = False := by simp; omega
    have E := Lib.hid (St.one_stp (k := k) Hrt.out h2)
    obtain ⟨m, hm⟩ : ∃ m, m = St.stp k r.ent.idx := ⟨_, rfl⟩
    have hml : m ≤ k.ents.length := by rw [hm]; exact St.stp_le k _
    have HM : Hid (∀ i (hi : i < k.ents.length), k.ents[i].idx < r.ent.idx ↔ i < m) := Lib.hid fun i hi => by rw [hm]; exact St.stp_lt Hf.out _ hi
    rw [← hm] at E
    have hri : r.ent.idx ≤ 18446744073709551615 := by have := hr.ent.idx; unfold Nm.top at this; omega
    have hrt : r.ent.trm ≤ 18446744073709551615 := by have := hr.ent.trm; unfold Nm.top at this; omega
    clear h2 hm
    obtain ⟨x0, x1, x2, x3, x4, x5, x6, x7, x8, x9, x10⟩ := rk_cells HI2.out.kr
    go_upto_region 10 with (fail)
    clear x0 x1 x2 x3 x4 x5 x6 x7 x8 x9
    go_wp2_with fail
    go_loopw [6, 7, 8, 9] (fun v a b i wr => ∃ j, j ≤ m ∧ i = .int .i64 (j : Int) ∧ a = .int .u64 (St.bidx k j : Int) ∧ b = .int .u64 (St.before k j : Int) ∧ wr.ownsRow w2.heap.size 88 13 v (k.ents.take j).length (ec (k.ents.take j)) ∧ Below w2.heap.size w2 wr) (fun _ _ _ i _ => m - (intOf i).toNat)
    case atStart => exact ⟨0, Nat.zero_le _, rfl, rfl, rfl, World.ownsRow_nil _ _ _ _, Below.refl _ _⟩
    case round =>
      obtain ⟨j, hj, rfl, rfl, rfl, ho, hb⟩ := hrel
      have hO1 := HI2.out.bel hb
      have HO1 := Lib.hid hO1
      obtain ⟨y0, y1, y2, y3, y4, y5, y6, y7, y8, y9, y10⟩ := rk_cells hO1.kr
      obtain ⟨s0, s1, s2, s3, s4, s5, s6, s7, s8, s9, s10, s11, s12, s13, s14, s15⟩ := rec_cells9 hO1.rr
      have hbj : St.bidx k j ≤ 18446744073709551614 := by unfold St.bidx; omega
      clear y0 y1 y2 y3 y4 y5 y6 y7 y8 y9 s0 s1 s2 hO1
      by_cases hjm : j < m
      · have hjl : j < k.ents.length := by omega
        obtain ⟨be, oe, rfl, hP⟩ := HA.out.ent j hjl
        have HP0 := Lib.hid hP
        replace hP := hP.bel HO1.out.bl.bel
        have hlt := (HM.out j hjl).2 hjm
        have hbs := St.bidx_succ Hf.out hjl
        have hbf := St.before_succ k hjl
        have hel : (k.ents.take (j + 1)) = k.ents.take j ++ [k.ents[j]] := by rw [List.take_succ_eq_append_getElem hjl]
        obtain ⟨e, he⟩ : ∃ e, e = k.ents[j] := ⟨_, rfl⟩
        rw [← he] at hP hlt hbs hbf hel HP0
        obtain ⟨_, c0, c1, c2, c3, c4, c5, c6, c7, c8, c9, c10, c11, c12⟩ := hP
        have g1 : decide (j < k.ents.length) = true := decide_eq_true hjl
        have g1' : ((j : Int) < (k.ents.length : Int)) = True := by simp; omega
        have g2 : decide (e.idx < r.ent.idx) = true := decide_eq_true hlt
        have g2' : ((e.idx : Int) < (r.ent.idx : Int)) = True := by simp; omega
        have HE := Lib.hid (And.intro hbs (And.intro hbf hel))
        have HO := Lib.hid ho
        have HB := Lib.hid hb
        have hlj : (k.ents.take j).length = j := by rw [List.length_take]; omega
        clear hlt hbs hbf hel he ho hb
        go_wp2_with fail
        go_quiet (fail)
        go_upto_region 13 with (fail)
        refine forget (fun W5 => Below w2.heap.size w2 W5 ∧ W5.ownsRow w2.heap.size 88 13 u6 (k.ents.take j).length (ec (k.ents.take j)) ∧ EntL W5 be (oe + j * 13) e ∧ Rw W5 g (kC k (.slice (some ⟨be, oe, none⟩) k.ents.length c)) 62) ⟨below_drewN HB.out _, HO.out, ⟨by assumption, c0, c1, c2, c3, c4, c5, c6, c7, c8, c9, c10, c11, c12⟩, HO1.out.kr⟩ ?_
        intro W5 H5
        obtain ⟨x0, x1, x2, x3, x4, x5, x6, x7, x8, x9, x10⟩ := rk_cells H5.2.2.2
        obtain ⟨_, c0, c1, c2, c3, c4, c5, c6, c7, c8, c9, c10, c11, c12⟩ := H5.2.2.1
        have HK : Hid (Below w2.heap.size w2 (W5.alloc (.cells (ec1 e).toArray 88)) ∧ (W5.alloc (.cells (ec1 e).toArray 88)).ownsRow w2.heap.size 88 13 u6 j (ec (k.ents.take j)) ∧ w2.heap.size ≤ (W5.alloc (.cells (ec1 e).toArray 88)).heap.size) := Lib.hid ⟨bnew H5.1 _, by have := H5.2.1.alloc (.cells (ec1 e).toArray 88); rwa [hlj] at this, (bnew H5.1 _).size⟩
        have HNw := Lib.hid (news_fl W5 (ec1 e) 88)
        have HE1 := Lib.hid (ec1_one e)
        obtain ⟨i0, hi0, hz0, hz1, hz2⟩ := info_parts infoEn
        have HI0 := Lib.hid (And.intro hi0 (And.intro hz0 (And.intro hz1 hz2)))
        have hj6 : j ≤ 1000000 := by omega
        clear H5 hi0 hz0 hz1 hz2 x0 x1 x2 x3 x4 x5 x6 x7 x8 x9
        go_wp2_with (at_builtin; refine wpList_app_own rfl (.tmp 49) (.tmp 55) 56 rfl w2.heap.size 88 i0 (.agg (entC En.zero)) 13 48 Tryz.underlying56 HI0.out.1 HI0.out.2.1 HI0.out.2.2.1 HI0.out.2.2.2 rfl (by decide) _ j _ rfl HK.out.2.1 ⟨W5.heap.size, 0, none⟩ 1 1 (ec1 e) rfl rfl HNw.out HE1.out (by simp only [maxLen]; omega) (by omega) HK.out.2.2 ?_)
        intro v' w6 ho6 hg6 hn6
        have hb6 : Below w2.heap.size w2 w6 := Below.grown HK.out.1 hg6 HK.out.2.2 (fun q hq => (own_lt HK.out.2.1 hq).2)
        have HF : Hid (w6.ownsRow w2.heap.size 88 13 v' (k.ents.take (j + 1)).length (ec (k.ents.take (j + 1))) ∧ Below w2.heap.size w2 w6) := Lib.hid (by
          rw [HE.out.2.2, ec_snoc, List.length_append, hlj]
          exact ⟨ho6, hb6⟩)
        clear c0 c1 c2 c3 c4 c5 c6 c7 c8 c9 c10 c11 c12 x10
        obtain ⟨x0, x1, x2, x3, x4, x5, x6, x7, x8, x9, x10⟩ := rk_cells (HI2.out.kr.bel hb6)
        obtain ⟨_, c0, c1, c2, c3, c4, c5, c6, c7, c8, c9, c10, c11, c12⟩ := (HP0.out.bel HI2.out.bl.bel).bel hb6
        clear ho6 hg6 hn6 hb6 x0 x1 x2 x3 x4 x5 x6 x7 x8 x9 c2 c3 c4 c5 c6 c7 c8 c9 c10 c11 c12
        go_wp2_with fail
        go_roundw
        case rel => exact ⟨j + 1, by omega, by go_num, by rw [HE.out.1], by rw [HE.out.2.1], HF.out.1, HF.out.2⟩
        case measure => simp [intOf]; omega
      · obtain rfl : j = m := by omega
        have hlj : (k.ents.take j).length = j := by rw [List.length_take]; omega
        rw [hlj] at ho
        have HO := Lib.hid ho
        have HB := Lib.hid hb
        clear ho hb
        obtain ⟨b0, hb0⟩ : ∃ b0, b0 = St.bidx k j := ⟨_, rfl⟩
        obtain ⟨t0, ht0⟩ : ∃ t0, t0 = St.before k j := ⟨_, rfl⟩
        rw [← hb0] at E hbj ⊢
        rw [← ht0] at E ⊢
        clear hb0 ht0
        -- how the loop ends
        by_cases hjl : j < k.ents.length
        · obtain ⟨be, oe, rfl, hP⟩ := HA.out.ent j hjl
          replace hP := hP.bel HO1.out.bl.bel
          have hlt : ¬ k.ents[j].idx < r.ent.idx := fun h => hjm ((HM.out j hjl).1 h)
          obtain ⟨e, he⟩ : ∃ e, e = k.ents[j] := ⟨_, rfl⟩
          rw [← he] at hP hlt
          obtain ⟨_, c0, c1, c2, c3, c4, c5, c6, c7, c8, c9, c10, c11, c12⟩ := hP
          have g1 : decide (j < k.ents.length) = true := decide_eq_true hjl
          have g1' : ((j : Int) < (k.ents.length : Int)) = True := by simp; omega
          have g2 : decide (e.idx < r.ent.idx) = false := decide_eq_false hlt
          have g2' : ((e.idx : Int) < (r.ent.idx : Int)) = False := by simp; omega
          clear hlt he
          go_wp2_with fail
          go_quiet (fail)
          clear c0 c1 c2 c3 c4 c5 c6 c7 c8 c9 c10 c11 c12
          go_upto_region 16 with (fail)
          refine forget (fun W5 => Below w2.heap.size w2 W5 ∧ W5.ownsRow w2.heap.size 88 13 u6 j (ec (k.ents.take j)) ∧ O1 w g k (.slice (some ⟨be, oe, none⟩) k.ents.length c) r W5) ⟨below_drewN HB.out _, HO.out, HO1.out.bel (below_drewN (Below.refl _ _) _)⟩ ?_
          intro W5 H5
          have HI5 := Lib.hid H5
          clear H5 s3 s4 s5 s6 s7 s8 s9 s10 s11 s12 s13 s14 s15 y10
          obtain ⟨s0, s1, s2, s3, s4, s5, s6, s7, s8, s9, s10, s11, s12, s13, s14, s15⟩ := rec_cells9 HI5.out.2.2.rr
          clear s0 s1 s2
          have HIn : Hid True := Lib.hid trivial
          by_cases a1 : r.ent.idx = b0 + 1
          · have p1 : ((r.ent.idx : Int) != (b0 : Int) + 1) = false := by simp; omega
            have p1' : ((r.ent.idx : Int) = (b0 : Int) + 1) = True := by simp; omega
            by_cases a2 : r.ent.trm < t0
            · have p2 : decide (r.ent.trm < t0) = true := decide_eq_true a2
              have p2' : ((r.ent.trm : Int) < (t0 : Int)) = True := by simp; omega
              have E2 : Hid (St.one k r = none) := Lib.hid (by rw [E.out, if_neg (fun q => by omega)])
              clear a1 a2 E
              clear HIn
              go_wp2_with (first
                | (refine wpList_built rfl 62 _ rfl zK (by kernel_rfl) ?_)
                | (refine wpList_store_sub rfl 62 _ _ rfl (g + 2) 0 rfl 62 zK zK rfl HI5.out.2.2.zr (Nat.le_refl 11) zK_sizeR zK_one ?_))
              refine bodyPost_ret (results_ct (P := Tryz.prog) (fn := Tryz.f65) rfl _ _ (g + 2) 62 zK (0, 0) _ rfl (HI5.out.2.2.zr.over rfl) Tryz.underlying62 rfl zK_sizeR) rfl ?_
              rw [E2.out]
              exact ⟨rfl, (HI5.out.2.2.bl.puts (by have := Hg.out; omega) _ _).bel⟩
            · have p2 : decide (r.ent.trm < t0) = false := decide_eq_false a2
              have p2' : ((r.ent.trm : Int) < (t0 : Int)) = False := by simp; omega
              obtain ⟨k', hk'⟩ : ∃ k', k' = St.K.mk k.trm k.vote k.snap (k.ents.take j ++ [r.ent]) := ⟨_, rfl⟩
              have E2 : Hid (St.one k r = some k') := Lib.hid (by rw [E.out, if_pos ⟨a1, by omega⟩, hk'])
              have HK' : Hid (k'.ents = k.ents.take j ++ [r.ent] ∧ k'.ents.length = j + 1) := Lib.hid (by rw [hk']; exact ⟨rfl, by show (k.ents.take j ++ [r.ent]).length = _; rw [List.length_append, hlj, List.length_singleton]⟩)
              have HKc : Hid (∀ v v', (kC k v).setIfInBounds 10 v' = kC k' v') := Lib.hid (by rw [hk']; exact fun v v' => kC_ents k v v' _)
              clear a1 a2 E hk'
              have HK : Hid (Below w2.heap.size w2 (W5.alloc (.cells (ec1 r.ent).toArray 88)) ∧ (W5.alloc (.cells (ec1 r.ent).toArray 88)).ownsRow w2.heap.size 88 13 u6 j (ec (k.ents.take j)) ∧ w2.heap.size ≤ (W5.alloc (.cells (ec1 r.ent).toArray 88)).heap.size) := Lib.hid ⟨bnew HI5.out.1 _, HI5.out.2.1.alloc _, (bnew HI5.out.1 _).size⟩
              have HNw := Lib.hid (news_fl W5 (ec1 r.ent) 88)
              have HE1 := Lib.hid (ec1_one r.ent)
              obtain ⟨i0, hi0, hz0, hz1, hz2⟩ := info_parts infoEn
              have HI0 := Lib.hid (And.intro hi0 (And.intro hz0 (And.intro hz1 hz2)))
              have hj6 : j ≤ 1000000 := by omega
              clear hi0 hz0 hz1 hz2
              go_wp2_with (at_builtin; refine wpList_app_own rfl (.tmp 83) (.tmp 86) 56 rfl w2.heap.size 88 i0 (.agg (entC En.zero)) 13 48 Tryz.underlying56 HI0.out.1 HI0.out.2.1 HI0.out.2.2.1 HI0.out.2.2.2 rfl (by decide) _ j _ rfl HK.out.2.1 ⟨W5.heap.size, 0, none⟩ 1 1 (ec1 r.ent) rfl rfl HNw.out HE1.out (by simp only [maxLen]; omega) (by omega) HK.out.2.2 ?_)
              intro v' w6 ho6 hg6 hn6
              have hb6 : Below w2.heap.size w2 w6 := Below.grown HK.out.1 hg6 HK.out.2.2 (fun q hq => (own_lt HK.out.2.1 hq).2)
              have hO6 := HI2.out.bel hb6
              obtain ⟨A2, c2, rfl, _⟩ := own_slice ho6
              have HF : Hid (w6.ownsRow w2.heap.size 88 13 (.slice A2 (j + 1) c2) (j + 1) (ec k'.ents)) := Lib.hid (by rw [HK'.out.1, ec_snoc]; exact ho6)
              have HG6 := Lib.hid hO6
              have hz6 : g + 2 < w2.heap.size := HI2.out.zr.lt
              clear ho6 hg6 hn6 hb6 s3 s4 s5 s6 s7 s8 s9 s10 s11 s12 s13 s14 s15
              obtain ⟨x0, x1, x2, x3, x4, x5, x6, x7, x8, x9, x10⟩ := rk_cells hO6.kr
              have f10 := hO6.kr.free 10
              clear x0 x1 x2 x3 x4 x5 x6 x7 x8 x9 hO6
              go_upto_region 19 with (fail)
              refine forget (fun W7 => Rw W7 g (kC k' (.slice A2 (j + 1) c2)) 62 ∧ Rw W7 (g + 2) zK 62 ∧ Bl w W7 ∧ W7.ownsRow w2.heap.size 88 13 (.slice A2 (j + 1) c2) (j + 1) (ec k'.ents)) ⟨?_, HG6.out.zr.oput (by omega) _ _, HG6.out.bl.put Hg.out _ _, own_kept HF.out fun q hq => heap_setCell_other w6 ⟨g, 10, none⟩ q _ (by have := (own_lt HF.out hq).2; show q ≠ g; omega)⟩ ?_
              · have := HG6.out.kr.put 10 (.slice A2 (j + 1) c2)
                rw [HKc.out] at this
                exact this
              intro W7 H7
              have HI7 := Lib.hid H7
              have HZZ : Hid ((kC k' (.slice A2 (j + 1) c2)).all (·.oneCell') = true ∧ (Tryz.prog.info? 62).map (·.size) = some (kC k' (.slice A2 (j + 1) c2)).size) := Lib.hid ⟨kC_one _ _ _ _, by kernel_rfl⟩
              clear H7 x10 f10
              go_wp2_with (first
                | (refine wpList_load_sub rfl 62 _ rfl g 0 rfl 62 (kC k' (.slice A2 (j + 1) c2)) (kC k' (.slice A2 (j + 1) c2)) (0, 0) _ HI7.out.1 (fun m hm => by rw [Nat.zero_add]) Tryz.underlying62 rfl HZZ.out.2 ?_)
                | (refine wpList_store_sub rfl 62 _ _ rfl (g + 2) 0 rfl 62 zK (kC k' (.slice A2 (j + 1) c2)) rfl HI7.out.2.1 (Nat.le_refl 11) HZZ.out.2 HZZ.out.1 ?_))
              refine bodyPost_ret (results_ct (P := Tryz.prog) (fn := Tryz.f65) rfl _ _ (g + 2) 62 (kC k' (.slice A2 (j + 1) c2)) (0, 0) _ rfl (HI7.out.2.1.over rfl) Tryz.underlying62 rfl HZZ.out.2) rfl ?_
              rw [E2.out]
              refine ⟨A2, c2, by rw [HK'.out.2]; rfl, ?_, (HI7.out.2.2.1.puts (by have := Hg.out; omega) _ _).bel, .inr fun b off hb => by subst hb; have := (own_lt HI7.out.2.2.2 (b := b) rfl).2; have := HI2.out.bl.le; omega⟩
              exact lies_own13 (own_kept HI7.out.2.2.2 fun q hq => setCells_other (by have := (own_lt HI7.out.2.2.2 hq).2; omega) _ _ _)
          · have p1 : ((r.ent.idx : Int) != (b0 : Int) + 1) = true := by simp; omega
            have p1' : ((r.ent.idx : Int) = (b0 : Int) + 1) = False := by simp; omega
            have E2 : Hid (St.one k r = none) := Lib.hid (by rw [E.out, if_neg (fun q => a1 q.1)])
            clear a1 E
            clear HIn
            go_wp2_with (first
              | (refine wpList_built rfl 62 _ rfl zK (by kernel_rfl) ?_)
              | (refine wpList_store_sub rfl 62 _ _ rfl (g + 2) 0 rfl 62 zK zK rfl HI5.out.2.2.zr (Nat.le_refl 11) zK_sizeR zK_one ?_))
            refine bodyPost_ret (results_ct (P := Tryz.prog) (fn := Tryz.f65) rfl _ _ (g + 2) 62 zK (0, 0) _ rfl (HI5.out.2.2.zr.over rfl) Tryz.underlying62 rfl zK_sizeR) rfl ?_
            rw [E2.out]
            exact ⟨rfl, (HI5.out.2.2.bl.puts (by have := Hg.out; omega) _ _).bel⟩
        · have g1 : decide (j < k.ents.length) = false := decide_eq_false hjl
          have g1' : ((j : Int) < (k.ents.length : Int)) = False := by simp; omega
          go_wp2_with fail
          go_quiet (fail)
          go_upto_region 16 with (fail)
          refine forget (fun W5 => Below w2.heap.size w2 W5 ∧ W5.ownsRow w2.heap.size 88 13 u6 j (ec (k.ents.take j)) ∧ O1 w g k (.slice A k.ents.length c) r W5) ⟨below_drewN HB.out _, HO.out, HO1.out.bel (below_drewN (Below.refl _ _) _)⟩ ?_
          intro W5 H5
          have HI5 := Lib.hid H5
          clear H5 s3 s4 s5 s6 s7 s8 s9 s10 s11 s12 s13 s14 s15 y10
          obtain ⟨s0, s1, s2, s3, s4, s5, s6, s7, s8, s9, s10, s11, s12, s13, s14, s15⟩ := rec_cells9 HI5.out.2.2.rr
          clear s0 s1 s2
          have HIn : Hid True := Lib.hid trivial
          by_cases a1 : r.ent.idx = b0 + 1
          · have p1 : ((r.ent.idx : Int) != (b0 : Int) + 1) = false := by simp; omega
            have p1' : ((r.ent.idx : Int) = (b0 : Int) + 1) = True := by simp; omega
            by_cases a2 : r.ent.trm < t0
            · have p2 : decide (r.ent.trm < t0) = true := decide_eq_true a2
              have p2' : ((r.ent.trm : Int) < (t0 : Int)) = True := by simp; omega
              have E2 : Hid (St.one k r = none) := Lib.hid (by rw [E.out, if_neg (fun q => by omega)])
              clear a1 a2 E
              clear HIn
              go_wp2_with (first
                | (refine wpList_built rfl 62 _ rfl zK (by kernel_rfl) ?_)
                | (refine wpList_store_sub rfl 62 _ _ rfl (g + 2) 0 rfl 62 zK zK rfl HI5.out.2.2.zr (Nat.le_refl 11) zK_sizeR zK_one ?_))
              refine bodyPost_ret (results_ct (P := Tryz.prog) (fn := Tryz.f65) rfl _ _ (g + 2) 62 zK (0, 0) _ rfl (HI5.out.2.2.zr.over rfl) Tryz.underlying62 rfl zK_sizeR) rfl ?_
              rw [E2.out]
              exact ⟨rfl, (HI5.out.2.2.bl.puts (by have := Hg.out; omega) _ _).bel⟩
            · have p2 : decide (r.ent.trm < t0) = false := decide_eq_false a2
              have p2' : ((r.ent.trm : Int) < (t0 : Int)) = False := by simp; omega
              obtain ⟨k', hk'⟩ : ∃ k', k' = St.K.mk k.trm k.vote k.snap (k.ents.take j ++ [r.ent]) := ⟨_, rfl⟩
              have E2 : Hid (St.one k r = some k') := Lib.hid (by rw [E.out, if_pos ⟨a1, by omega⟩, hk'])
              have HK' : Hid (k'.ents = k.ents.take j ++ [r.ent] ∧ k'.ents.length = j + 1) := Lib.hid (by rw [hk']; exact ⟨rfl, by show (k.ents.take j ++ [r.ent]).length = _; rw [List.length_append, hlj, List.length_singleton]⟩)
              have HKc : Hid (∀ v v', (kC k v).setIfInBounds 10 v' = kC k' v') := Lib.hid (by rw [hk']; exact fun v v' => kC_ents k v v' _)
              clear a1 a2 E hk'
              have HK : Hid (Below w2.heap.size w2 (W5.alloc (.cells (ec1 r.ent).toArray 88)) ∧ (W5.alloc (.cells (ec1 r.ent).toArray 88)).ownsRow w2.heap.size 88 13 u6 j (ec (k.ents.take j)) ∧ w2.heap.size ≤ (W5.alloc (.cells (ec1 r.ent).toArray 88)).heap.size) := Lib.hid ⟨bnew HI5.out.1 _, HI5.out.2.1.alloc _, (bnew HI5.out.1 _).size⟩
              have HNw := Lib.hid (news_fl W5 (ec1 r.ent) 88)
              have HE1 := Lib.hid (ec1_one r.ent)
              obtain ⟨i0, hi0, hz0, hz1, hz2⟩ := info_parts infoEn
              have HI0 := Lib.hid (And.intro hi0 (And.intro hz0 (And.intro hz1 hz2)))
              have hj6 : j ≤ 1000000 := by omega
              clear hi0 hz0 hz1 hz2
              go_wp2_with (at_builtin; refine wpList_app_own rfl (.tmp 83) (.tmp 86) 56 rfl w2.heap.size 88 i0 (.agg (entC En.zero)) 13 48 Tryz.underlying56 HI0.out.1 HI0.out.2.1 HI0.out.2.2.1 HI0.out.2.2.2 rfl (by decide) _ j _ rfl HK.out.2.1 ⟨W5.heap.size, 0, none⟩ 1 1 (ec1 r.ent) rfl rfl HNw.out HE1.out (by simp only [maxLen]; omega) (by omega) HK.out.2.2 ?_)
              intro v' w6 ho6 hg6 hn6
              have hb6 : Below w2.heap.size w2 w6 := Below.grown HK.out.1 hg6 HK.out.2.2 (fun q hq => (own_lt HK.out.2.1 hq).2)
              have hO6 := HI2.out.bel hb6
              obtain ⟨A2, c2, rfl, _⟩ := own_slice ho6
              have HF : Hid (w6.ownsRow w2.heap.size 88 13 (.slice A2 (j + 1) c2) (j + 1) (ec k'.ents)) := Lib.hid (by rw [HK'.out.1, ec_snoc]; exact ho6)
              have HG6 := Lib.hid hO6
              have hz6 : g + 2 < w2.heap.size := HI2.out.zr.lt
              clear ho6 hg6 hn6 hb6 s3 s4 s5 s6 s7 s8 s9 s10 s11 s12 s13 s14 s15
              obtain ⟨x0, x1, x2, x3, x4, x5, x6, x7, x8, x9, x10⟩ := rk_cells hO6.kr
              have f10 := hO6.kr.free 10
              clear x0 x1 x2 x3 x4 x5 x6 x7 x8 x9 hO6
              go_upto_region 19 with (fail)
              refine forget (fun W7 => Rw W7 g (kC k' (.slice A2 (j + 1) c2)) 62 ∧ Rw W7 (g + 2) zK 62 ∧ Bl w W7 ∧ W7.ownsRow w2.heap.size 88 13 (.slice A2 (j + 1) c2) (j + 1) (ec k'.ents)) ⟨?_, HG6.out.zr.oput (by omega) _ _, HG6.out.bl.put Hg.out _ _, own_kept HF.out fun q hq => heap_setCell_other w6 ⟨g, 10, none⟩ q _ (by have := (own_lt HF.out hq).2; show q ≠ g; omega)⟩ ?_
              · have := HG6.out.kr.put 10 (.slice A2 (j + 1) c2)
                rw [HKc.out] at this
                exact this
              intro W7 H7
              have HI7 := Lib.hid H7
              have HZZ : Hid ((kC k' (.slice A2 (j + 1) c2)).all (·.oneCell') = true ∧ (Tryz.prog.info? 62).map (·.size) = some (kC k' (.slice A2 (j + 1) c2)).size) := Lib.hid ⟨kC_one _ _ _ _, by kernel_rfl⟩
              clear H7 x10 f10
              go_wp2_with (first
                | (refine wpList_load_sub rfl 62 _ rfl g 0 rfl 62 (kC k' (.slice A2 (j + 1) c2)) (kC k' (.slice A2 (j + 1) c2)) (0, 0) _ HI7.out.1 (fun m hm => by rw [Nat.zero_add]) Tryz.underlying62 rfl HZZ.out.2 ?_)
                | (refine wpList_store_sub rfl 62 _ _ rfl (g + 2) 0 rfl 62 zK (kC k' (.slice A2 (j + 1) c2)) rfl HI7.out.2.1 (Nat.le_refl 11) HZZ.out.2 HZZ.out.1 ?_))
              refine bodyPost_ret (results_ct (P := Tryz.prog) (fn := Tryz.f65) rfl _ _ (g + 2) 62 (kC k' (.slice A2 (j + 1) c2)) (0, 0) _ rfl (HI7.out.2.1.over rfl) Tryz.underlying62 rfl HZZ.out.2) rfl ?_
              rw [E2.out]
              refine ⟨A2, c2, by rw [HK'.out.2]; rfl, ?_, (HI7.out.2.2.1.puts (by have := Hg.out; omega) _ _).bel, .inr fun b off hb => by subst hb; have := (own_lt HI7.out.2.2.2 (b := b) rfl).2; have := HI2.out.bl.le; omega⟩
              exact lies_own13 (own_kept HI7.out.2.2.2 fun q hq => setCells_other (by have := (own_lt HI7.out.2.2.2 hq).2; omega) _ _ _)
          · have p1 : ((r.ent.idx : Int) != (b0 : Int) + 1) = true := by simp; omega
            have p1' : ((r.ent.idx : Int) = (b0 : Int) + 1) = False := by simp; omega
            have E2 : Hid (St.one k r = none) := Lib.hid (by rw [E.out, if_neg (fun q => a1 q.1)])
            clear a1 E
            clear HIn
            go_wp2_with (first
              | (refine wpList_built rfl 62 _ rfl zK (by kernel_rfl) ?_)
              | (refine wpList_store_sub rfl 62 _ _ rfl (g + 2) 0 rfl 62 zK zK rfl HI5.out.2.2.zr (Nat.le_refl 11) zK_sizeR zK_one ?_))
            refine bodyPost_ret (results_ct (P := Tryz.prog) (fn := Tryz.f65) rfl _ _ (g + 2) 62 zK (0, 0) _ rfl (HI5.out.2.2.zr.over rfl) Tryz.underlying62 rfl zK_sizeR) rfl ?_
            rw [E2.out]
            exact ⟨rfl, (HI5.out.2.2.bl.puts (by have := Hg.out; omega) _ _).bel⟩
end Go.Proofs.YtjhbpcecdhdnoaaGreatDoor
