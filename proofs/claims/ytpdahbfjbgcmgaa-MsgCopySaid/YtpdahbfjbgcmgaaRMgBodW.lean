/-
  MsgBodies walked. WRITTEN BY wip/tools/gen_mgbod.py.
-/
import Derived.Test.YtpdahbfjbgcmgaaRMgBodH
import Derived.Test.YtpdahbfjbgcmgaaRMgOpen
import Derived.Deep.DeepCutAuto
import Derived.Deep.CutBlock
import Derived.Lib.QuietBelow
set_option linter.unusedSimpArgs false
set_option linter.unusedVariables false
namespace Go.Proofs.Ytpdahbfjbgcmgaa
open Go.RowKit
/-- A copy under hand: the message lies in block g, its copy in gn, the copy's entries in q. -/
structure BdS (w W : World) (g gn q : Nat) (X Y : Array Value) (es : List En.E) : Prop where
  b : Below w.heap.size w W
  ln : w.heap.size ≤ gn
  lq : w.heap.size ≤ q
  n1 : g ≠ gn
  n2 : g ≠ q
  n3 : gn ≠ q
  r : W.heap[g]? = some (.cells X 63 (0, 0))
  y : W.heap[gn]? = some (.cells Y 63 (0, 0))
  e : W.heap[q]? = some (.cells (ec es).toArray 65 (0, 0))
theorem BdS.grow {w W W' : World} {g gn q : Nat} {X Y : Array Value} {es : List En.E} (h : BdS w W g gn q X Y es) (k : Below W.heap.size W W') : BdS w W' g gn q X Y es :=
  ⟨bnext h.b k, h.ln, h.lq, h.n1, h.n2, h.n3, (k.block _ (Array.getElem?_eq_some_iff.1 h.r).1).trans h.r, (k.block _ (Array.getElem?_eq_some_iff.1 h.y).1).trans h.y, (k.block _ (Array.getElem?_eq_some_iff.1 h.e).1).trans h.e⟩
theorem BdS.put {w W : World} {g gn q : Nat} {X Y Z : Array Value} {es : List En.E} (h : BdS w W g gn q X Y es) (i : Nat) (v : Value) (hZ : Y.setIfInBounds i v = Z) : BdS w (W.setCell ⟨gn, i, none⟩ v) g gn q X Z es :=
  ⟨h.b.setCell (p := ⟨gn, i, none⟩) h.ln v, h.ln, h.lq, h.n1, h.n2, h.n3, (Below.heap_setCell _ _ _ _ (by simp; exact h.n1)).trans h.r, by rw [← hZ]; exact heap_setCell_same W gn i Y _ v h.y, (Below.heap_setCell _ _ _ _ (by simp; exact h.n3.symm)).trans h.e⟩
theorem BdS.ent {w W : World} {g gn q : Nat} {X Y : Array Value} {es fs : List En.E} (h : BdS w W g gn q X Y es) (i : Nat) (v : Value) (hZ : (ec es).toArray.setIfInBounds i v = (ec fs).toArray) : BdS w (W.setCell ⟨q, i, none⟩ v) g gn q X Y fs :=
  ⟨h.b.setCell (p := ⟨q, i, none⟩) h.lq v, h.ln, h.lq, h.n1, h.n2, h.n3, (Below.heap_setCell _ _ _ _ (by simp; exact h.n2)).trans h.r, (Below.heap_setCell _ _ _ _ (by simp; exact h.n3)).trans h.y, by rw [← hZ]; exact heap_setCell_same W q i _ _ v h.e⟩
theorem BdS.kind {w W : World} {g gn q : Nat} {X Y : Array Value} {es : List En.E} (h : BdS w W g gn q X Y es) (k : Nat) (hk : k < es.length) (j : Nat) (hj : j < 13) : W.cell? ⟨q, k * 13 + j, none⟩ = (ec1 es[k])[j]? := by
  have hc := cell_of_row W q (k * 13 + j) _ _ _ h.e
  rw [List.getElem?_toArray, Nat.mul_comm k 13, ec_at es k hk j hj] at hc
  rw [Nat.mul_comm k 13]; exact hc
set_option maxRecDepth 100000 in
set_option maxHeartbeats 16000000 in
theorem msgBodies_walk (w : World) (m : Mg.M) (A : Option Addr) (cap : Nat) (gv : GivenM w m A cap) (one : ByteArray) (h1 : one.size ≤ maxLen) (other : ByteArray) (h2 : other.size ≤ maxLen) :
    Calls Try.prog 14 #[.agg (msgC m A cap), .string one, .string other] w fun r w' => r = .returned (.bool true) ∧ Below w.heap.size w w' := by
  have HG := Lib.hid (fun W (hb : Below w.heap.size w W) => great_any5 m A cap W (gv.lies.below hb) gv.body gv.len)
  have HAw := Lib.hid mAwake_any
  have F := msgF m A cap
  obtain ⟨X, hX⟩ : ∃ X, X = msgC m A cap := ⟨_, rfl⟩
  rw [← hX] at F ⊢
  obtain ⟨hx, _, x0, x1, x2, x3, x4, x5, x6, x7, x8, x9, x10, x11, x12⟩ := F
  have HX := Lib.hid hX
  unfold msgC at HG
  clear hX
  rcases hgr : Mg.great m with _ | _
  case true =>
    rw [hgr] at HG
    clear hgr gv h1 h2
    go_enter Try.func14, Try.ntmps14
    go_wp2_with fail
    refine (HG.out _ (bnew (Below.refl _ _) _)).mono ?_
    rintro r w1 ⟨rfl, hb1⟩
    have HB1 := Lib.hid (bnext (bnew (Below.refl _ _) _) hb1)
    clear hb1
    go_wp2_with fail
    refine (HAw.out _).mono ?_
    rintro r w2 ⟨rfl, hb2⟩
    go_wp2_with fail
    go_ret
    exact ⟨rfl, bnext HB1.out hb2⟩
  rw [hgr] at HG
  by_cases hl1 : 3000 < one.size
  case pos =>
    have d1 : decide ((3000 : Int) < (one.size : Int)) = true := lt_t hl1
    clear hgr gv h1 h2 hl1
    go_enter Try.func14, Try.ntmps14
    go_wp2_with fail
    refine (HG.out _ (bnew (Below.refl _ _) _)).mono ?_
    rintro r w1 ⟨rfl, hb1⟩
    have HB1 := Lib.hid (bnext (bnew (Below.refl _ _) _) hb1)
    clear hb1
    go_wp2_with fail
    refine (HAw.out _).mono ?_
    rintro r w2 ⟨rfl, hb2⟩
    go_wp2_with fail
    go_ret
    exact ⟨rfl, bnext HB1.out hb2⟩
  have d1 : decide ((3000 : Int) < (one.size : Int)) = false := lt_f hl1
  by_cases hl2 : 3000 < other.size
  case pos =>
    have d2 : decide ((3000 : Int) < (other.size : Int)) = true := lt_t hl2
    clear hgr gv h1 h2 hl1 hl2
    go_enter Try.func14, Try.ntmps14
    go_wp2_with fail
    refine (HG.out _ (bnew (Below.refl _ _) _)).mono ?_
    rintro r w1 ⟨rfl, hb1⟩
    have HB1 := Lib.hid (bnext (bnew (Below.refl _ _) _) hb1)
    clear hb1
    go_wp2_with fail
    refine (HAw.out _).mono ?_
    rintro r w2 ⟨rfl, hb2⟩
    go_wp2_with fail
    go_ret
    exact ⟨rfl, bnext HB1.out hb2⟩
  have d2 : decide ((3000 : Int) < (other.size : Int)) = false := lt_f hl2
  have OK : OkM m := ⟨gv.fits, Mg.small_of hgr⟩
  have hn40 := OK.small.len
  have hbig := OK.big
  have hbz := OK.body
  have HCp : Hid (∀ W, Below w.heap.size w W → Calls Try.prog 48 #[.agg (msgC m A cap)] W fun e w' => ∃ q, e = .returned (.agg (msgC m (some ⟨q, 0, none⟩) m.ents.length)) ∧ W.heap.size ≤ q ∧ w'.heap[q]? = some (.cells (ec m.ents).toArray 65 (0, 0)) ∧ Below W.heap.size W w') := Lib.hid (fun W hb => copy_any5 m A cap W (gv.lies.below hb) (by omega) (by omega) (fun e he => by have := Mg.big_mem _ _ he; omega))
  have HW : Hid (∀ W, Below w.heap.size w W → Calls Try.prog 37 #[.agg (msgC m A cap)] W fun r w' => r = .returned (.string (wrB m)) ∧ Below W.heap.size W w') := Lib.hid (fun W hb => mWrite_any m OK.fits (by omega) (by omega) (by omega) A cap W (gv.lies.below hb))
  have HRi : Hid (∀ W, Below w.heap.size w W → Calls Try.prog 38 #[.agg (msgC m A cap)] W fun r w' => r = .returned (.bool (Mg.may m)) ∧ Below W.heap.size W w') := Lib.hid (fun W hb => mRight_any m A cap W (gv.lies.below hb))
  have hbl := big_fB other (by omega) m.ents
  have HW2 : Hid (∀ (W : World) (B : Option Addr) (cb : Nat), Lies W B (ec (bodM m one other).ents) → Calls Try.prog 37 #[.agg (msgC (bodM m one other) B cb)] W fun r w' => r = .returned (.string (wrB (bodM m one other))) ∧ Below W.heap.size W w') := Lib.hid (fun W B cb hl => mWrite_any (bodM m one other) (bodM_fits OK.fits one other) (by show one.size ≤ _; omega) (by show Mg.big (m.ents.map (fB other)) ≤ _; omega) (by show (m.ents.map (fB other)).length ≤ _; rw [List.length_map]; omega) B cb W hl)
  have HR2 : Hid (∀ (W : World) (B : Option Addr) (cb : Nat), Lies W B (ec (bodM m one other).ents) → Calls Try.prog 38 #[.agg (msgC (bodM m one other) B cb)] W fun r w' => r = .returned (.bool (Mg.may m)) ∧ Below W.heap.size W w') := Lib.hid (fun W B cb hl => by
    have := mRight_any (bodM m one other) B cb W hl
    rw [bodM_may] at this
    exact this)
  obtain ⟨mC, hmC⟩ : ∃ mC : Nat → Array Value, mC = fun q => msgC m (some ⟨q, 0, none⟩) m.ents.length := ⟨_, rfl⟩
  replace HCp : Hid (∀ W, Below w.heap.size w W → Calls Try.prog 48 #[.agg (msgC m A cap)] W fun e w' => ∃ q, e = .returned (.agg (mC q)) ∧ W.heap.size ≤ q ∧ w'.heap[q]? = some (.cells (ec m.ents).toArray 65 (0, 0)) ∧ Below W.heap.size W w') := Lib.hid (by rw [hmC]; exact HCp.out)
  have HmC : Hid (∀ q, mC q = msgC m (some ⟨q, 0, none⟩) m.ents.length) := Lib.hid (fun q => by rw [hmC])
  unfold msgC at HCp HW HRi
  have e1 := wrB_empty m
  have e2 := wrB_empty (bodM m one other)
  rw [bodM_may] at e2
  obtain ⟨t1, ht1⟩ : ∃ t, t = wrB m := ⟨_, rfl⟩
  obtain ⟨t2, ht2⟩ : ∃ t, t = wrB (bodM m one other) := ⟨_, rfl⟩
  obtain ⟨n, hn⟩ : ∃ n, n = bodM m one other := ⟨_, rfl⟩
  obtain ⟨b, hb⟩ : ∃ b, b = Mg.may m := ⟨_, rfl⟩
  rw [← ht1] at HW e1
  rw [← ht2] at HW2 e2
  rw [← hn] at HW2 HR2
  have Hn := Lib.hid hn
  unfold msgC at HW2 HR2
  rw [← hb] at HRi HR2 e1 e2
  have HN := Lib.hid hn40
  have HE := Lib.hid (And.intro e1 e2)
  clear gv OK hgr h1 h2 hl1 hl2 ht1 ht2 hb hbig hbz hbl e1 e2 hn40 hn hmC
  go_enter Try.func14, Try.ntmps14
  go_wp2_with fail
  refine (HG.out _ (bnew (Below.refl _ _) _)).mono ?_
  rintro r w1 ⟨rfl, hb1⟩
  have HB1 := Lib.hid (And.intro (bnext (bnew (Below.refl _ _) _) hb1) ((hb1.block _ (by simp)).trans (heap_alloc_new w _)))
  clear hb1 HG x0 x1 x2 x3 x4 x5 x6 x7 x8 x9 x10 x11 x12
  go_upto_region 3 with (fail)
  refine forget (fun W => Below w.heap.size w W ∧ W.heap[w.heap.size]? = some (.cells (msgC m A cap) 63 (0, 0))) (by have h := HB1.out; rw [HX.out] at h; exact h) ?_
  clear HB1 w1
  rintro W1 ⟨hb1, hr1⟩
  obtain ⟨g, hg⟩ : ∃ g, g = w.heap.size := ⟨_, rfl⟩
  rw [← hg] at hr1 ⊢
  have HM1 := Lib.hid (And.intro hb1 (And.intro hr1 hg))
  have e0 := (msgAt hr1).c0
  have e1 := (msgAt hr1).c1
  have e2 := (msgAt hr1).c2
  have e3 := (msgAt hr1).c3
  have e4 := (msgAt hr1).c4
  have e5 := (msgAt hr1).c5
  have e6 := (msgAt hr1).c6
  have e7 := (msgAt hr1).c7
  have e8 := (msgAt hr1).c8
  have e9 := (msgAt hr1).c9
  have e10 := (msgAt hr1).c10
  have e11 := (msgAt hr1).c11
  have e12 := (msgAt hr1).c12
  clear hb1 hr1 hg d1 d2
  go_wp2_with fail
  refine (HCp.out _ HM1.out.1).mono ?_
  rintro r W2 ⟨q, rfl, hq, hrq, hb2⟩
  have FP := msgF m (some ⟨q, 0, none⟩) m.ents.length
  rw [← HmC.out q] at FP
  obtain ⟨P, hP⟩ : ∃ P, P = mC q := ⟨_, rfl⟩
  rw [← hP] at FP ⊢
  have hst := storeMsg P FP.size FP.one
  have hps := FP.size
  have HP : Hid (P = msgC m (some ⟨q, 0, none⟩) m.ents.length) := Lib.hid (by rw [hP, HmC.out q])
  have hS4 : BdS w (W2.alloc (.cells P 63)) g W2.heap.size q (msgC m A cap) P (partE (fB other) m.ents 0) := by
    obtain ⟨q1, q2, q3⟩ := HM1.out
    have hlt := (Array.getElem?_eq_some_iff.1 q2).1
    have hlq := (Array.getElem?_eq_some_iff.1 hrq).1
    have := q1.size
    have := hb2.size
    exact ⟨bnew (bnext q1 hb2) _, by omega, by omega, by omega, by omega, by omega, (Below.heap_alloc _ _ _ (by omega)).trans ((hb2.block _ hlt).trans q2), heap_alloc_new W2 _, by rw [partE_zero]; exact (Below.heap_alloc _ _ _ hlq).trans hrq⟩
  have HS4 := Lib.hid hS4
  clear hP FP hq hrq hb2 HCp hS4
  clear e0 e1 e2 e3 e4 e5 e6 e7 e8 e9 e10 e11 e12
  
  go_upto_region 4 with (fail)
  refine forget (fun W => BdS w W g W2.heap.size q (msgC m A cap) (msgC m (some ⟨q, 0, none⟩) m.ents.length) (partE (fB other) m.ents 0)) (by rw [← HP.out]; exact HS4.out) ?_
  intro W3 H3
  obtain ⟨gn, hgn⟩ : ∃ gn, gn = W2.heap.size := ⟨_, rfl⟩
  rw [← hgn] at H3 ⊢
  have HH3 := Lib.hid H3
  have k12 := (msgAt H3.y).c12
  have z12 := (msgAt H3.y).fz 12
  clear H3 hst hps HS4 HP hgn
  go_upto_region 5 with (fail)
  refine forget (fun W => BdS w W g gn q (msgC m A cap) (msgC ⟨m.kind, m.frm, m.tto, m.trm, m.idx, m.ltm, m.com, m.rnd, m.ok, m.mem, m.sec, m.ents, one⟩ (some ⟨q, 0, none⟩) m.ents.length) (partE (fB other) m.ents 0)) (HH3.out.put 12 _ rfl) ?_
  intro W4 H4
  have HH4 := Lib.hid H4
  clear k12 z12 HH3 H4
  go_wp2_with fail
  go_loopw [8] (fun i wr => ∃ k : Nat, k ≤ m.ents.length ∧ i = .int .i64 (k : Int) ∧ BdS w wr g gn q (msgC m A cap) (msgC ⟨m.kind, m.frm, m.tto, m.trm, m.idx, m.ltm, m.com, m.rnd, m.ok, m.mem, m.sec, m.ents, one⟩ (some ⟨q, 0, none⟩) m.ents.length) (partE (fB other) m.ents k)) (fun i _ => m.ents.length - (intOf i).toNat)
  case atStart => exact ⟨0, Nat.zero_le _, rfl, HH4.out⟩
  case round =>
    obtain ⟨k, hk, rfl, hS⟩ := hrel
    have HS := Lib.hid hS
    have hn40 := HN.out
    have c11 := (msgAt hS.y).c11
    clear hS
    by_cases hlt : k < m.ents.length
    · have hlp : k < (partE (fB other) m.ents k).length := by rw [partE_length]; exact hlt
      have hc2 := HS.out.kind k hlp 2 (by omega)
      have hc12 := HS.out.kind k hlp 12 (by omega)
      have hz12 := frozen_of_row wr q (k * 13 + 12) _ _ HS.out.e
      have hst := partE_set (fB other) m.ents k hlt
      have hslf := partE_self (fB other) m.ents k hlt
      have hat := partE_at (fB other) m.ents k hlt
      rw [hat] at hc2 hc12
      obtain ⟨e, he⟩ : ∃ e, e = m.ents[k] := ⟨_, rfl⟩
      rw [← he] at hc2 hc12 hst hslf hat
      replace hc2 : wr.cell? ⟨q, k * 13 + 2, none⟩ = some (.int .u8 (e.kind : Int)) := hc2
      replace hc12 : wr.cell? ⟨q, k * 13 + 12, none⟩ = some (.string e.body) := hc12
      by_cases h3 : e.kind = 3
      · have d3 : ((e.kind : Int) == 3) = true := by simp [h3]
        have d3' : ((e.kind : Int) = 3) = True := by simp [h3]
        have hZ : (ec (partE (fB other) m.ents k)).toArray.setIfInBounds (k * 13 + 12) (.string other) = (ec (partE (fB other) m.ents (k + 1))).toArray := by
          rw [← hst]
          refine ec_cell _ k 12 hlp (by omega) _ _ (fun i hi hne => ?_) ?_
          · rw [hat]
            unfold fB
            rw [if_pos h3]
            have : i = 0 ∨ i = 1 ∨ i = 2 ∨ i = 3 ∨ i = 4 ∨ i = 5 ∨ i = 6 ∨ i = 7 ∨ i = 8 ∨ i = 9 ∨ i = 10 ∨ i = 11 := by omega
            rcases this with rfl | rfl | rfl | rfl | rfl | rfl | rfl | rfl | rfl | rfl | rfl | rfl <;> rfl
          · unfold fB
            rw [if_pos h3]; rfl
        have HZ := Lib.hid (HS.out.ent _ _ hZ)
        clear h3 hZ hst hslf hat he
        go_wp2_with fail
        go_roundw
        case rel => exact ⟨k + 1, by omega, by go_num, HZ.out⟩
        case measure => simp [intOf]; omega
      · have d3 : ((e.kind : Int) == 3) = false := by simp; omega
        have d3' : ((e.kind : Int) = 3) = False := by simp; omega
        have HZ : Hid (BdS w wr g gn q (msgC m A cap) (msgC ⟨m.kind, m.frm, m.tto, m.trm, m.idx, m.ltm, m.com, m.rnd, m.ok, m.mem, m.sec, m.ents, one⟩ (some ⟨q, 0, none⟩) m.ents.length) (partE (fB other) m.ents (k + 1))) := Lib.hid (by
          rw [hslf (by unfold fB; rw [if_neg h3])]
          exact HS.out)
        clear h3 hst hslf hat he
        go_wp2_with fail
        go_roundw
        case rel => exact ⟨k + 1, by omega, by go_num, HZ.out⟩
        case measure => simp [intOf]; omega
    · obtain rfl : k = m.ents.length := by omega
      have hS := HS.out
      rw [partE_end] at hS
      have hYm : msgC ⟨m.kind, m.frm, m.tto, m.trm, m.idx, m.ltm, m.com, m.rnd, m.ok, m.mem, m.sec, m.ents, one⟩ (some ⟨q, 0, none⟩) m.ents.length = msgC (bodM m one other) (some ⟨q, 0, none⟩) m.ents.length := by
        unfold bodM msgC
        simp only [List.length_map]
      rw [hYm, ← Hn.out] at hS
      have hen : m.ents.map (fB other) = n.ents := by rw [Hn.out]; rfl
      rw [hen] at hS
      have HF := Lib.hid hS
      clear hS hYm HS hen
      go_upto_region 10 with (fail)
      refine forget (fun W => BdS w W g gn q (msgC m A cap) (msgC n (some ⟨q, 0, none⟩) m.ents.length) n.ents) HF.out ?_
      clear c11
      intro W5 H5
      have HH5 := Lib.hid H5
      obtain ⟨E1, E2⟩ := HE.out
      have hbb : (b == b) = true := by cases b <;> rfl
      obtain ⟨a0, a1, a2, a3, a4, a5, a6, a7, a8, a9, a10, a11, a12, _⟩ := msgAt H5.r
      obtain ⟨b0, b1, b2, b3, b4, b5, b6, b7, b8, b9, b10, b11, b12, _⟩ := msgAt H5.y
      have k0 := fun d os => cell_regrown a0 d os
      have l0 := fun d os => cell_regrown b0 d os
      have k1 := fun d os => cell_regrown a1 d os
      have l1 := fun d os => cell_regrown b1 d os
      have k2 := fun d os => cell_regrown a2 d os
      have l2 := fun d os => cell_regrown b2 d os
      have k3 := fun d os => cell_regrown a3 d os
      have l3 := fun d os => cell_regrown b3 d os
      have k4 := fun d os => cell_regrown a4 d os
      have l4 := fun d os => cell_regrown b4 d os
      have k5 := fun d os => cell_regrown a5 d os
      have l5 := fun d os => cell_regrown b5 d os
      have k6 := fun d os => cell_regrown a6 d os
      have l6 := fun d os => cell_regrown b6 d os
      have k7 := fun d os => cell_regrown a7 d os
      have l7 := fun d os => cell_regrown b7 d os
      have k8 := fun d os => cell_regrown a8 d os
      have l8 := fun d os => cell_regrown b8 d os
      have k9 := fun d os => cell_regrown a9 d os
      have l9 := fun d os => cell_regrown b9 d os
      have k10 := fun d os => cell_regrown a10 d os
      have l10 := fun d os => cell_regrown b10 d os
      have k11 := fun d os => cell_regrown a11 d os
      have l11 := fun d os => cell_regrown b11 d os
      have k12 := fun d os => cell_regrown a12 d os
      have l12 := fun d os => cell_regrown b12 d os
      clear H5 a0 b0 a1 b1 a2 b2 a3 b3 a4 b4 a5 b5 a6 b6 a7 b7 a8 b8 a9 b9 a10 b10 a11 b11 a12 b12
      refine wp_region_quiet_below (by kernel_rfl) (by kernel_rfl) ?_
      repeat (go_big_quiet_step (fail))
      go_big_quiet_step ((go_at_call 38; exact Calls.regrown_of (HR2.out _ _ _ ((lies_row HH5.out.e).below (below_regrown _ _ _)))))
      repeat (go_big_quiet_step (fail))
      go_big_quiet_step ((go_at_call 38; exact Calls.regrown_of (HRi.out _ (bnext HH5.out.b (below_regrown _ _ _)))))
      repeat (go_big_quiet_step (fail))
      go_big_quiet_step ((go_at_call 37; exact Calls.regrown_of (HW2.out _ _ _ ((lies_row HH5.out.e).below (below_regrown _ _ _)))))
      repeat (go_big_quiet_step (fail))
      go_big_quiet_step ((go_at_call 37; exact Calls.regrown_of (HW.out _ (bnext HH5.out.b (below_regrown _ _ _)))))
      repeat (go_big_quiet_step (fail))
      go_big_quiet_step ((go_at_call 42; exact Calls.regrown_of (HAw.out _)))
      repeat (go_big_quiet_step (fail))
      refine wpQuiet_nil ?_
      intro _ hw'
      obtain ⟨pq, hw''⟩ := hw'
      subst hw''
      have hb1 := below_regrown W5 pq.d pq.os
      go_wp2_with fail
      go_ret
      exact ⟨rfl, bnext HH5.out.b hb1⟩
end Go.Proofs.Ytpdahbfjbgcmgaa
