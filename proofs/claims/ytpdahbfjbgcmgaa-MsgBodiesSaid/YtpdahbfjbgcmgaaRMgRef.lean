/-
  wapentakeref05.Same walked. WRITTEN BY wip/tools/gen_mgsame.py.
  wapentakeref05.Right walked. WRITTEN BY wip/tools/gen_mgrefr.py.
-/
import Derived.Test.YtpdahbfjbgcmgaaRMgSame
import Derived.Test.YtpdahbfjbgcmgaaRMgA
import Derived.Test.YtpdahbfjbgcmgaaREnRef
import Derived.BigQuiet
set_option linter.unusedSimpArgs false
set_option linter.unusedVariables false
namespace Go.Proofs.Ytpdahbfjbgcmgaa
open Go.RowKit
set_option maxRecDepth 100000 in
set_option maxHeartbeats 16000000 in
theorem refSame_any5 (a b : Mg.M) (A B : Option Addr) (ca cb : Nat) (w : World) (hA : Lies w A (ec a.ents)) (hB : Lies w B (ec b.ents)) (hn : a.ents.length ≤ 1000000) (hm : b.ents.length ≤ 1000000) :
    Calls Try.prog 46 #[.agg (msgC a A ca), .agg (msgC b B cb)] w fun e w' => e = .returned (.bool (decide (a = b))) ∧ Below w.heap.size w w' := by
  have HA := Lib.hid hA
  have HB := Lib.hid hB
  have FX := msgF a A ca
  have FY := msgF b B cb
  generalize msgC a A ca = X at FX ⊢
  generalize msgC b B cb = Y at FY ⊢
  obtain ⟨hx, _, x0, x1, x2, x3, x4, x5, x6, x7, x8, x9, x10, x11, x12⟩ := FX
  obtain ⟨hy, _, y0, y1, y2, y3, y4, y5, y6, y7, y8, y9, y10, y11, y12⟩ := FY
  clear hA hB
  by_cases hl : a.ents.length = b.ents.length
  case neg =>
    have l1 := eqi_f hl
    have l2 := eqp_f hl
    have E : Hid (decide (a = b) = false) := Lib.hid (msg_ne (fun e => hl (by rw [e])))
    clear hl
    go_enter Try.func46, Try.ntmps46
    go_wp2_with fail
    go_ret
    exact ⟨by rw [E.out]; rfl, bnew (bnew (Below.refl _ _) _) _⟩
  have l1 := eqi_t hl
  have l2 := eqp_t hl
  have Hl := Lib.hid hl
  clear hl
  go_enter Try.func46, Try.ntmps46
  go_wp2_with fail
  clear l1 l2
  have hrX : ((w.alloc (.cells X 63)).alloc (.cells Y 63)).heap[w.heap.size]? = some (.cells X 63 (0, 0)) := (Below.heap_alloc _ _ _ (by simp)).trans (heap_alloc_new w _)
  have hrY : ((w.alloc (.cells X 63)).alloc (.cells Y 63)).heap[w.heap.size + 1]? = some (.cells Y 63 (0, 0)) := by
    have := heap_alloc_new (w.alloc (.cells X 63)) (.cells Y 63)
    rw [World.size_alloc] at this
    exact this
  have hbw : Below w.heap.size w ((w.alloc (.cells X 63)).alloc (.cells Y 63)) := bnew (bnew (Below.refl _ _) _) _
  generalize (w.alloc (.cells X 63)).alloc (.cells Y 63) = W1 at *
  have xc0 := cell_of_row W1 w.heap.size 0 X _ _ hrX
  rw [Array.getElem?_eq_getElem (by omega), x0] at xc0
  have xc1 := cell_of_row W1 w.heap.size 1 X _ _ hrX
  rw [Array.getElem?_eq_getElem (by omega), x1] at xc1
  have xc2 := cell_of_row W1 w.heap.size 2 X _ _ hrX
  rw [Array.getElem?_eq_getElem (by omega), x2] at xc2
  have xc3 := cell_of_row W1 w.heap.size 3 X _ _ hrX
  rw [Array.getElem?_eq_getElem (by omega), x3] at xc3
  have xc4 := cell_of_row W1 w.heap.size 4 X _ _ hrX
  rw [Array.getElem?_eq_getElem (by omega), x4] at xc4
  have xc5 := cell_of_row W1 w.heap.size 5 X _ _ hrX
  rw [Array.getElem?_eq_getElem (by omega), x5] at xc5
  have xc6 := cell_of_row W1 w.heap.size 6 X _ _ hrX
  rw [Array.getElem?_eq_getElem (by omega), x6] at xc6
  have xc7 := cell_of_row W1 w.heap.size 7 X _ _ hrX
  rw [Array.getElem?_eq_getElem (by omega), x7] at xc7
  have xc8 := cell_of_row W1 w.heap.size 8 X _ _ hrX
  rw [Array.getElem?_eq_getElem (by omega), x8] at xc8
  have xc9 := cell_of_row W1 w.heap.size 9 X _ _ hrX
  rw [Array.getElem?_eq_getElem (by omega), x9] at xc9
  have xc10 := cell_of_row W1 w.heap.size 10 X _ _ hrX
  rw [Array.getElem?_eq_getElem (by omega), x10] at xc10
  have xc11 := cell_of_row W1 w.heap.size 11 X _ _ hrX
  rw [Array.getElem?_eq_getElem (by omega), x11] at xc11
  have xc12 := cell_of_row W1 w.heap.size 12 X _ _ hrX
  rw [Array.getElem?_eq_getElem (by omega), x12] at xc12
  have yc0 := cell_of_row W1 (w.heap.size + 1) 0 Y _ _ hrY
  rw [Array.getElem?_eq_getElem (by omega), y0] at yc0
  have yc1 := cell_of_row W1 (w.heap.size + 1) 1 Y _ _ hrY
  rw [Array.getElem?_eq_getElem (by omega), y1] at yc1
  have yc2 := cell_of_row W1 (w.heap.size + 1) 2 Y _ _ hrY
  rw [Array.getElem?_eq_getElem (by omega), y2] at yc2
  have yc3 := cell_of_row W1 (w.heap.size + 1) 3 Y _ _ hrY
  rw [Array.getElem?_eq_getElem (by omega), y3] at yc3
  have yc4 := cell_of_row W1 (w.heap.size + 1) 4 Y _ _ hrY
  rw [Array.getElem?_eq_getElem (by omega), y4] at yc4
  have yc5 := cell_of_row W1 (w.heap.size + 1) 5 Y _ _ hrY
  rw [Array.getElem?_eq_getElem (by omega), y5] at yc5
  have yc6 := cell_of_row W1 (w.heap.size + 1) 6 Y _ _ hrY
  rw [Array.getElem?_eq_getElem (by omega), y6] at yc6
  have yc7 := cell_of_row W1 (w.heap.size + 1) 7 Y _ _ hrY
  rw [Array.getElem?_eq_getElem (by omega), y7] at yc7
  have yc8 := cell_of_row W1 (w.heap.size + 1) 8 Y _ _ hrY
  rw [Array.getElem?_eq_getElem (by omega), y8] at yc8
  have yc9 := cell_of_row W1 (w.heap.size + 1) 9 Y _ _ hrY
  rw [Array.getElem?_eq_getElem (by omega), y9] at yc9
  have yc10 := cell_of_row W1 (w.heap.size + 1) 10 Y _ _ hrY
  rw [Array.getElem?_eq_getElem (by omega), y10] at yc10
  have yc11 := cell_of_row W1 (w.heap.size + 1) 11 Y _ _ hrY
  rw [Array.getElem?_eq_getElem (by omega), y11] at yc11
  have yc12 := cell_of_row W1 (w.heap.size + 1) 12 Y _ _ hrY
  rw [Array.getElem?_eq_getElem (by omega), y12] at yc12
  have HX := Lib.hid (And.intro hrX (And.intro hrY hbw))
  clear hrX hrY hbw x0 x1 x2 x3 x4 x5 x6 x7 x8 x9 x10 x11 x12 y0 y1 y2 y3 y4 y5 y6 y7 y8 y9 y10 y11 y12
  have HXc := Lib.hid (And.intro xc0 (And.intro xc1 (And.intro xc2 (And.intro xc3 (And.intro xc4 (And.intro xc5 (And.intro xc6 (And.intro xc7 (And.intro xc8 (And.intro xc9 (And.intro xc10 xc12)))))))))))
  have HYc := Lib.hid (And.intro yc0 (And.intro yc1 (And.intro yc2 (And.intro yc3 (And.intro yc4 (And.intro yc5 (And.intro yc6 (And.intro yc7 (And.intro yc8 (And.intro yc9 (And.intro yc10 yc12)))))))))))
  clear xc0 xc1 xc2 xc3 xc4 xc5 xc6 xc7 xc8 xc9 xc10 xc12 yc0 yc1 yc2 yc3 yc4 yc5 yc6 yc7 yc8 yc9 yc10 yc12
  have HN := Lib.hid (And.intro hn hm)
  go_loopw [5] (fun i wr => ∃ k : Nat, k ≤ a.ents.length ∧ i = .int .i64 (k : Int) ∧ (∀ j, j < k → a.ents[j]? = b.ents[j]?) ∧ Below W1.heap.size W1 wr) (fun i _ => a.ents.length - (intOf i).toNat)
  case atStart => exact ⟨0, Nat.zero_le _, rfl, fun j hj => absurd hj (by omega), Below.refl _ _⟩
  case round =>
    obtain ⟨k, hk, rfl, hall, hdr⟩ := hrel
    have Hall := Lib.hid hall
    have Hdr := Lib.hid hdr
    have xc11' : wr.cell? ⟨w.heap.size, 11, none⟩ = some (.slice A a.ents.length ca) := later hdr xc11
    have yc11' : wr.cell? ⟨w.heap.size + 1, 11, none⟩ = some (.slice B b.ents.length cb) := later hdr yc11
    clear hall hdr
    by_cases hlt : k < a.ents.length
    · have hlt2 : k < b.ents.length := by rw [← Hl.out]; exact hlt
      obtain ⟨ba, oa, rfl, hP⟩ := HA.out.ent k hlt
      obtain ⟨bb, ob, rfl, hQ⟩ := HB.out.ent k hlt2
      replace hP := (hP.bel HX.out.2.2).bel Hdr.out
      replace hQ := (hQ.bel HX.out.2.2).bel Hdr.out
      obtain ⟨p, hp⟩ : ∃ p, p = a.ents[k] := ⟨_, rfl⟩
      obtain ⟨q, hq⟩ : ∃ q, q = b.ents[k] := ⟨_, rfl⟩
      have hgp : a.ents[k]? = some p := by rw [hp, List.getElem?_eq_getElem]
      have hgq : b.ents[k]? = some q := by rw [hq, List.getElem?_eq_getElem]
      rw [← hp] at hP
      rw [← hq] at hQ
      have HG := Lib.hid (And.intro hgp hgq)
      obtain ⟨_, r0, r1, r2, r3, r4, r5, r6, r7, r8, r9, r10, r11, r12⟩ := hP
      obtain ⟨_, s0, s1, s2, s3, s4, s5, s6, s7, s8, s9, s10, s11, s12⟩ := hQ
      clear hp hq hgp hgq
      have hne := ent_neq p q
      unfold entC at hne
      cases hs : decide (p = q)
      · rw [hs] at hne
        have Hfin : Hid (decide (a = b) = false) := Lib.hid (msg_ne (fun e => by
          rw [decide_eq_false_iff_not] at hs
          apply hs
          have h1 := HG.out.1
          rw [e, HG.out.2] at h1
          injection h1 with h1; exact h1.symm))
        clear hs
        go_wp2
        go_quiet (fail)
        go_wp2
        go_ret
        exact ⟨by rw [Hfin.out]; rfl, bnext HX.out.2.2 (below_drewN Hdr.out _)⟩
      · rw [hs] at hne
        have Hs : Hid (p = q) := Lib.hid (of_decide_eq_true hs)
        clear hs
        go_wp2
        go_quiet (fail)
        go_wp2
        go_roundw
        case rel => exact ⟨k + 1, by omega, by go_num, fun j hj => (by
          by_cases e : j = k
          · subst e; rw [HG.out.1, HG.out.2, Hs.out]
          · exact Hall.out j (by omega)), below_drewN Hdr.out _⟩
        case measure => simp [intOf]; omega
    · obtain rfl : k = a.ents.length := by omega
      have Hents : Hid (a.ents = b.ents) := Lib.hid (by
        apply List.ext_getElem?
        intro j
        by_cases hj : j < a.ents.length
        · exact Hall.out j hj
        · rw [List.getElem?_eq_none (by omega), List.getElem?_eq_none (by rw [← Hl.out]; omega)])
      obtain ⟨u0, u1, u2, u3, u4, u5, u6, u7, u8, u9, u10, u12⟩ := HXc.out
      obtain ⟨v0, v1, v2, v3, v4, v5, v6, v7, v8, v9, v10, v12⟩ := HYc.out
      replace u0 := later Hdr.out u0
      replace v0 := later Hdr.out v0
      replace u1 := later Hdr.out u1
      replace v1 := later Hdr.out v1
      replace u2 := later Hdr.out u2
      replace v2 := later Hdr.out v2
      replace u3 := later Hdr.out u3
      replace v3 := later Hdr.out v3
      replace u4 := later Hdr.out u4
      replace v4 := later Hdr.out v4
      replace u5 := later Hdr.out u5
      replace v5 := later Hdr.out v5
      replace u6 := later Hdr.out u6
      replace v6 := later Hdr.out v6
      replace u7 := later Hdr.out u7
      replace v7 := later Hdr.out v7
      replace u8 := later Hdr.out u8
      replace v8 := later Hdr.out v8
      replace u9 := later Hdr.out u9
      replace v9 := later Hdr.out v9
      replace u10 := later Hdr.out u10
      replace v10 := later Hdr.out v10
      replace u12 := later Hdr.out u12
      replace v12 := later Hdr.out v12
      have l3 := Hl.out
      have l4 := HN.out
      by_cases h0 : a.kind = b.kind
      case neg =>
        have E : Hid (decide (a = b) = false) := Lib.hid (msg_ne (fun e => h0 (by rw [e])))
        have b0 := eqq_f h0
        have d0 := eqp_f h0
        clear h0
        go_wp2_with fail
        go_ret
        exact ⟨by rw [E.out]; rfl, bnext HX.out.2.2 Hdr.out⟩
      by_cases h1 : a.frm = b.frm
      case neg =>
        have E : Hid (decide (a = b) = false) := Lib.hid (msg_ne (fun e => h1 (by rw [e])))
        have b0 := eqq_t h0
        have d0 := eqp_t h0
        have b1 := eqq_f h1
        have d1 := eqp_f h1
        clear h0 h1
        go_wp2_with fail
        go_ret
        exact ⟨by rw [E.out]; rfl, bnext HX.out.2.2 Hdr.out⟩
      by_cases h2 : a.tto = b.tto
      case neg =>
        have E : Hid (decide (a = b) = false) := Lib.hid (msg_ne (fun e => h2 (by rw [e])))
        have b0 := eqq_t h0
        have d0 := eqp_t h0
        have b1 := eqq_t h1
        have d1 := eqp_t h1
        have b2 := eqq_f h2
        have d2 := eqp_f h2
        clear h0 h1 h2
        go_wp2_with fail
        go_ret
        exact ⟨by rw [E.out]; rfl, bnext HX.out.2.2 Hdr.out⟩
      by_cases h3 : a.trm = b.trm
      case neg =>
        have E : Hid (decide (a = b) = false) := Lib.hid (msg_ne (fun e => h3 (by rw [e])))
        have b0 := eqq_t h0
        have d0 := eqp_t h0
        have b1 := eqq_t h1
        have d1 := eqp_t h1
        have b2 := eqq_t h2
        have d2 := eqp_t h2
        have b3 := eqq_f h3
        have d3 := eqp_f h3
        clear h0 h1 h2 h3
        go_wp2_with fail
        go_ret
        exact ⟨by rw [E.out]; rfl, bnext HX.out.2.2 Hdr.out⟩
      by_cases h4 : a.idx = b.idx
      case neg =>
        have E : Hid (decide (a = b) = false) := Lib.hid (msg_ne (fun e => h4 (by rw [e])))
        have b0 := eqq_t h0
        have d0 := eqp_t h0
        have b1 := eqq_t h1
        have d1 := eqp_t h1
        have b2 := eqq_t h2
        have d2 := eqp_t h2
        have b3 := eqq_t h3
        have d3 := eqp_t h3
        have b4 := eqq_f h4
        have d4 := eqp_f h4
        clear h0 h1 h2 h3 h4
        go_wp2_with fail
        go_ret
        exact ⟨by rw [E.out]; rfl, bnext HX.out.2.2 Hdr.out⟩
      by_cases h5 : a.ltm = b.ltm
      case neg =>
        have E : Hid (decide (a = b) = false) := Lib.hid (msg_ne (fun e => h5 (by rw [e])))
        have b0 := eqq_t h0
        have d0 := eqp_t h0
        have b1 := eqq_t h1
        have d1 := eqp_t h1
        have b2 := eqq_t h2
        have d2 := eqp_t h2
        have b3 := eqq_t h3
        have d3 := eqp_t h3
        have b4 := eqq_t h4
        have d4 := eqp_t h4
        have b5 := eqq_f h5
        have d5 := eqp_f h5
        clear h0 h1 h2 h3 h4 h5
        go_wp2_with fail
        go_ret
        exact ⟨by rw [E.out]; rfl, bnext HX.out.2.2 Hdr.out⟩
      by_cases h6 : a.com = b.com
      case neg =>
        have E : Hid (decide (a = b) = false) := Lib.hid (msg_ne (fun e => h6 (by rw [e])))
        have b0 := eqq_t h0
        have d0 := eqp_t h0
        have b1 := eqq_t h1
        have d1 := eqp_t h1
        have b2 := eqq_t h2
        have d2 := eqp_t h2
        have b3 := eqq_t h3
        have d3 := eqp_t h3
        have b4 := eqq_t h4
        have d4 := eqp_t h4
        have b5 := eqq_t h5
        have d5 := eqp_t h5
        have b6 := eqq_f h6
        have d6 := eqp_f h6
        clear h0 h1 h2 h3 h4 h5 h6
        go_wp2_with fail
        go_ret
        exact ⟨by rw [E.out]; rfl, bnext HX.out.2.2 Hdr.out⟩
      by_cases h7 : a.rnd = b.rnd
      case neg =>
        have E : Hid (decide (a = b) = false) := Lib.hid (msg_ne (fun e => h7 (by rw [e])))
        have b0 := eqq_t h0
        have d0 := eqp_t h0
        have b1 := eqq_t h1
        have d1 := eqp_t h1
        have b2 := eqq_t h2
        have d2 := eqp_t h2
        have b3 := eqq_t h3
        have d3 := eqp_t h3
        have b4 := eqq_t h4
        have d4 := eqp_t h4
        have b5 := eqq_t h5
        have d5 := eqp_t h5
        have b6 := eqq_t h6
        have d6 := eqp_t h6
        have b7 := eqq_f h7
        have d7 := eqp_f h7
        clear h0 h1 h2 h3 h4 h5 h6 h7
        go_wp2_with fail
        go_ret
        exact ⟨by rw [E.out]; rfl, bnext HX.out.2.2 Hdr.out⟩
      by_cases h8 : a.ok = b.ok
      case neg =>
        have E : Hid (decide (a = b) = false) := Lib.hid (msg_ne (fun e => h8 (by rw [e])))
        have b0 := eqq_t h0
        have d0 := eqp_t h0
        have b1 := eqq_t h1
        have d1 := eqp_t h1
        have b2 := eqq_t h2
        have d2 := eqp_t h2
        have b3 := eqq_t h3
        have d3 := eqp_t h3
        have b4 := eqq_t h4
        have d4 := eqp_t h4
        have b5 := eqq_t h5
        have d5 := eqp_t h5
        have b6 := eqq_t h6
        have d6 := eqp_t h6
        have b7 := eqq_t h7
        have d7 := eqp_t h7
        have b8 := neb h8
        clear h0 h1 h2 h3 h4 h5 h6 h7 h8
        go_wp2_with fail
        go_ret
        exact ⟨by rw [E.out]; rfl, bnext HX.out.2.2 Hdr.out⟩
      by_cases h9 : a.mem = b.mem
      case neg =>
        have E : Hid (decide (a = b) = false) := Lib.hid (msg_ne (fun e => h9 (by rw [e])))
        have b0 := eqq_t h0
        have d0 := eqp_t h0
        have b1 := eqq_t h1
        have d1 := eqp_t h1
        have b2 := eqq_t h2
        have d2 := eqp_t h2
        have b3 := eqq_t h3
        have d3 := eqp_t h3
        have b4 := eqq_t h4
        have d4 := eqp_t h4
        have b5 := eqq_t h5
        have d5 := eqp_t h5
        have b6 := eqq_t h6
        have d6 := eqp_t h6
        have b7 := eqq_t h7
        have d7 := eqp_t h7
        have b8 := eqb h8
        have b9 := eqq_f h9
        have d9 := eqp_f h9
        clear h0 h1 h2 h3 h4 h5 h6 h7 h8 h9
        go_wp2_with fail
        go_ret
        exact ⟨by rw [E.out]; rfl, bnext HX.out.2.2 Hdr.out⟩
      by_cases h10 : a.sec = b.sec
      case neg =>
        have E : Hid (decide (a = b) = false) := Lib.hid (msg_ne (fun e => h10 (by rw [e])))
        have b0 := eqq_t h0
        have d0 := eqp_t h0
        have b1 := eqq_t h1
        have d1 := eqp_t h1
        have b2 := eqq_t h2
        have d2 := eqp_t h2
        have b3 := eqq_t h3
        have d3 := eqp_t h3
        have b4 := eqq_t h4
        have d4 := eqp_t h4
        have b5 := eqq_t h5
        have d5 := eqp_t h5
        have b6 := eqq_t h6
        have d6 := eqp_t h6
        have b7 := eqq_t h7
        have d7 := eqp_t h7
        have b8 := eqb h8
        have b9 := eqq_t h9
        have d9 := eqp_t h9
        have b10 := eqq_f h10
        have d10 := eqp_f h10
        clear h0 h1 h2 h3 h4 h5 h6 h7 h8 h9 h10
        go_wp2_with fail
        go_ret
        exact ⟨by rw [E.out]; rfl, bnext HX.out.2.2 Hdr.out⟩
      have E : Hid (decide (a = b) = (a.body.toList == b.body.toList)) := Lib.hid (by
        have hen := Hents.out
        rw [bytes_eq, Bool.eq_iff_iff, decide_eq_true_iff, decide_eq_true_iff]
        constructor
        · intro h; rw [h]
        · intro g2
          clear HX HXc HYc HA HB HN Hl Hall Hdr Hents u0 u1 u2 u3 u4 u5 u6 u7 u8 u9 u10 u12 v0 v1 v2 v3 v4 v5 v6 v7 v8 v9 v10 v12 xc11 yc11 xc11' yc11' hk hn hm hlt l3 l4
          cases a; cases b
          simp only [] at *
          simp_all)
      have b0 := eqq_t h0
      have d0 := eqp_t h0
      have b1 := eqq_t h1
      have d1 := eqp_t h1
      have b2 := eqq_t h2
      have d2 := eqp_t h2
      have b3 := eqq_t h3
      have d3 := eqp_t h3
      have b4 := eqq_t h4
      have d4 := eqp_t h4
      have b5 := eqq_t h5
      have d5 := eqp_t h5
      have b6 := eqq_t h6
      have d6 := eqp_t h6
      have b7 := eqq_t h7
      have d7 := eqp_t h7
      have b8 := eqb h8
      have b9 := eqq_t h9
      have d9 := eqp_t h9
      have b10 := eqq_t h10
      have d10 := eqp_t h10
      clear h0 h1 h2 h3 h4 h5 h6 h7 h8 h9 h10
      go_wp2_with fail
      go_ret
      exact ⟨by rw [E.out]; rfl, bnext HX.out.2.2 Hdr.out⟩
end Go.Proofs.Ytpdahbfjbgcmgaa
namespace Go.Proofs.Ytpdahbfjbgcmgaa
open Go.RowKit
set_option maxRecDepth 100000 in
set_option maxHeartbeats 8000000 in
theorem mRefRight_any (m : Mg.M) (A : Option Addr) (cap : Nat) (w : World) (hA : Lies w A (ec m.ents)) : Calls Try.prog 44 #[.agg (msgC m A cap)] w (RetTr (Mg.may m) w) := by
  unfold RetTr
  have HA := Lib.hid hA
  have Hm : Hid (Mg.may m = (decide (1 ≤ m.kind) && (decide (m.kind ≤ 7) && (Mg.node m.frm && (Mg.node m.tto && (decide (m.mem ≤ 31) && (decide (m.sec ≤ 4) && Mg.sent m.ents))))))) := Lib.hid rfl
  have F := msgF m A cap
  obtain ⟨X, hX⟩ : ∃ X, X = msgC m A cap := ⟨_, rfl⟩
  rw [← hX] at F ⊢
  have HX := Lib.hid hX
  obtain ⟨hx, _, x0, x1, x2, x3, x4, x5, x6, x7, x8, x9, x10, x11, x12⟩ := F
  clear hA hX
  by_cases g0 : m.kind < 1
  case pos =>
    have d0a : decide (m.kind < 1) = true := by simp; omega
    have d0b : decide ((m.kind : Int) < 1) = true := by simp; omega
    have d0c : ((m.kind : Int) < 1) = True := by simp; omega
    have E : Hid (Mg.may m = false) := Lib.hid (by
      rw [Hm.out]
      simp only [Mg.node, Mg.sent, Bool.and_eq_false_iff, decide_eq_false_iff_not]
      omega)
    clear Hm g0
    go_enter Try.func44, Try.ntmps44
    go_wp2_with fail
    go_ret
    exact ⟨by rw [E.out]; rfl, bnew (Below.refl _ _) _⟩
  have d0a : decide (m.kind < 1) = false := by simp; omega
  have d0b : decide ((m.kind : Int) < 1) = false := by simp; omega
  have d0c : ((m.kind : Int) < 1) = False := by simp; omega
  by_cases g1 : 7 < m.kind
  case pos =>
    have d1a : decide (7 < m.kind) = true := by simp; omega
    have d1b : decide ((7 : Int) < (m.kind : Int)) = true := by simp; omega
    have d1c : ((7 : Int) < (m.kind : Int)) = True := by simp; omega
    have E : Hid (Mg.may m = false) := Lib.hid (by
      rw [Hm.out]
      simp only [Mg.node, Mg.sent, Bool.and_eq_false_iff, decide_eq_false_iff_not]
      omega)
    clear Hm g0 g1
    go_enter Try.func44, Try.ntmps44
    go_wp2_with fail
    go_ret
    exact ⟨by rw [E.out]; rfl, bnew (Below.refl _ _) _⟩
  have d1a : decide (7 < m.kind) = false := by simp; omega
  have d1b : decide ((7 : Int) < (m.kind : Int)) = false := by simp; omega
  have d1c : ((7 : Int) < (m.kind : Int)) = False := by simp; omega
  by_cases g2 : m.frm < 1
  case pos =>
    have d2a : decide (m.frm < 1) = true := by simp; omega
    have d2b : decide ((m.frm : Int) < 1) = true := by simp; omega
    have d2c : ((m.frm : Int) < 1) = True := by simp; omega
    have E : Hid (Mg.may m = false) := Lib.hid (by
      rw [Hm.out]
      simp only [Mg.node, Mg.sent, Bool.and_eq_false_iff, decide_eq_false_iff_not]
      omega)
    clear Hm g0 g1 g2
    go_enter Try.func44, Try.ntmps44
    go_wp2_with fail
    go_ret
    exact ⟨by rw [E.out]; rfl, bnew (Below.refl _ _) _⟩
  have d2a : decide (m.frm < 1) = false := by simp; omega
  have d2b : decide ((m.frm : Int) < 1) = false := by simp; omega
  have d2c : ((m.frm : Int) < 1) = False := by simp; omega
  by_cases g3 : 5 < m.frm
  case pos =>
    have d3a : decide (5 < m.frm) = true := by simp; omega
    have d3b : decide ((5 : Int) < (m.frm : Int)) = true := by simp; omega
    have d3c : ((5 : Int) < (m.frm : Int)) = True := by simp; omega
    have E : Hid (Mg.may m = false) := Lib.hid (by
      rw [Hm.out]
      simp only [Mg.node, Mg.sent, Bool.and_eq_false_iff, decide_eq_false_iff_not]
      omega)
    clear Hm g0 g1 g2 g3
    go_enter Try.func44, Try.ntmps44
    go_wp2_with fail
    go_ret
    exact ⟨by rw [E.out]; rfl, bnew (Below.refl _ _) _⟩
  have d3a : decide (5 < m.frm) = false := by simp; omega
  have d3b : decide ((5 : Int) < (m.frm : Int)) = false := by simp; omega
  have d3c : ((5 : Int) < (m.frm : Int)) = False := by simp; omega
  by_cases g4 : m.tto < 1
  case pos =>
    have d4a : decide (m.tto < 1) = true := by simp; omega
    have d4b : decide ((m.tto : Int) < 1) = true := by simp; omega
    have d4c : ((m.tto : Int) < 1) = True := by simp; omega
    have E : Hid (Mg.may m = false) := Lib.hid (by
      rw [Hm.out]
      simp only [Mg.node, Mg.sent, Bool.and_eq_false_iff, decide_eq_false_iff_not]
      omega)
    clear Hm g0 g1 g2 g3 g4
    go_enter Try.func44, Try.ntmps44
    go_wp2_with fail
    go_ret
    exact ⟨by rw [E.out]; rfl, bnew (Below.refl _ _) _⟩
  have d4a : decide (m.tto < 1) = false := by simp; omega
  have d4b : decide ((m.tto : Int) < 1) = false := by simp; omega
  have d4c : ((m.tto : Int) < 1) = False := by simp; omega
  by_cases g5 : 5 < m.tto
  case pos =>
    have d5a : decide (5 < m.tto) = true := by simp; omega
    have d5b : decide ((5 : Int) < (m.tto : Int)) = true := by simp; omega
    have d5c : ((5 : Int) < (m.tto : Int)) = True := by simp; omega
    have E : Hid (Mg.may m = false) := Lib.hid (by
      rw [Hm.out]
      simp only [Mg.node, Mg.sent, Bool.and_eq_false_iff, decide_eq_false_iff_not]
      omega)
    clear Hm g0 g1 g2 g3 g4 g5
    go_enter Try.func44, Try.ntmps44
    go_wp2_with fail
    go_ret
    exact ⟨by rw [E.out]; rfl, bnew (Below.refl _ _) _⟩
  have d5a : decide (5 < m.tto) = false := by simp; omega
  have d5b : decide ((5 : Int) < (m.tto : Int)) = false := by simp; omega
  have d5c : ((5 : Int) < (m.tto : Int)) = False := by simp; omega
  by_cases g6 : 31 < m.mem
  case pos =>
    have d6a : decide (31 < m.mem) = true := by simp; omega
    have d6b : decide ((31 : Int) < (m.mem : Int)) = true := by simp; omega
    have d6c : ((31 : Int) < (m.mem : Int)) = True := by simp; omega
    have E : Hid (Mg.may m = false) := Lib.hid (by
      rw [Hm.out]
      simp only [Mg.node, Mg.sent, Bool.and_eq_false_iff, decide_eq_false_iff_not]
      omega)
    clear Hm g0 g1 g2 g3 g4 g5 g6
    go_enter Try.func44, Try.ntmps44
    go_wp2_with fail
    go_ret
    exact ⟨by rw [E.out]; rfl, bnew (Below.refl _ _) _⟩
  have d6a : decide (31 < m.mem) = false := by simp; omega
  have d6b : decide ((31 : Int) < (m.mem : Int)) = false := by simp; omega
  have d6c : ((31 : Int) < (m.mem : Int)) = False := by simp; omega
  by_cases g7 : 4 < m.sec
  case pos =>
    have d7a : decide (4 < m.sec) = true := by simp; omega
    have d7b : decide ((4 : Int) < (m.sec : Int)) = true := by simp; omega
    have d7c : ((4 : Int) < (m.sec : Int)) = True := by simp; omega
    have E : Hid (Mg.may m = false) := Lib.hid (by
      rw [Hm.out]
      simp only [Mg.node, Mg.sent, Bool.and_eq_false_iff, decide_eq_false_iff_not]
      omega)
    clear Hm g0 g1 g2 g3 g4 g5 g6 g7
    go_enter Try.func44, Try.ntmps44
    go_wp2_with fail
    go_ret
    exact ⟨by rw [E.out]; rfl, bnew (Below.refl _ _) _⟩
  have d7a : decide (4 < m.sec) = false := by simp; omega
  have d7b : decide ((4 : Int) < (m.sec : Int)) = false := by simp; omega
  have d7c : ((4 : Int) < (m.sec : Int)) = False := by simp; omega
  by_cases g8 : 8 < m.ents.length
  case pos =>
    have d8a : decide (8 < m.ents.length) = true := by simp; omega
    have d8b : decide ((8 : Int) < (m.ents.length : Int)) = true := by simp; omega
    have d8c : ((8 : Int) < (m.ents.length : Int)) = True := by simp; omega
    have E : Hid (Mg.may m = false) := Lib.hid (by
      rw [Hm.out]
      simp only [Mg.node, Mg.sent, Bool.and_eq_false_iff, decide_eq_false_iff_not]
      omega)
    clear Hm g0 g1 g2 g3 g4 g5 g6 g7 g8
    go_enter Try.func44, Try.ntmps44
    go_wp2_with fail
    go_ret
    exact ⟨by rw [E.out]; rfl, bnew (Below.refl _ _) _⟩
  have d8a : decide (8 < m.ents.length) = false := by simp; omega
  have d8b : decide ((8 : Int) < (m.ents.length : Int)) = false := by simp; omega
  have d8c : ((8 : Int) < (m.ents.length : Int)) = False := by simp; omega
  have Hs : Hid (Mg.may m = m.ents.all En.may) := Lib.hid (by
    rw [Hm.out]
    simp only [Mg.node, Mg.sent]
    rw [decide_eq_true (show 1 ≤ m.kind by omega), decide_eq_true (show m.kind ≤ 7 by omega), decide_eq_true (show 1 ≤ m.frm by omega), decide_eq_true (show m.frm ≤ 5 by omega), decide_eq_true (show 1 ≤ m.tto by omega), decide_eq_true (show m.tto ≤ 5 by omega), decide_eq_true (show m.mem ≤ 31 by omega), decide_eq_true (show m.sec ≤ 4 by omega), decide_eq_true (show m.ents.length ≤ 8 by omega)]
    rfl)
  have HL : Hid (m.ents.length ≤ 8) := Lib.hid (by omega)
  clear Hm g0 g1 g2 g3 g4 g5 g6 g7 g8
  go_enter Try.func44, Try.ntmps44
  go_wp2_with fail
  clear d0a d0b d0c d1a d1b d1c d2a d2b d2c d3a d3b d3c d4a d4b d4c d5a d5b d5c d6a d6b d6c d7a d7b d7c d8a d8b d8c
  have hrow : (w.alloc (.cells X 63)).heap[w.heap.size]? = some (.cells X 63 (0, 0)) := heap_alloc_new w _
  have hbw : Below w.heap.size w (w.alloc (.cells X 63)) := bnew (Below.refl _ _) _
  generalize w.alloc (.cells X 63) = W1 at *
  have Hrow := Lib.hid (And.intro hbw hrow)
  clear hrow hbw x0 x1 x2 x3 x4 x5 x6 x7 x8 x9 x10 x11 x12
  go_loopw [3] (fun i wr => ∃ k : Nat, k ≤ m.ents.length ∧ i = .int .i64 (k : Int) ∧ (m.ents.take k).all En.may = true ∧ Below W1.heap.size W1 wr) (fun i _ => m.ents.length - (intOf i).toNat)
  case atStart => exact ⟨0, Nat.zero_le _, rfl, by simp, Below.refl _ _⟩
  case round =>
    obtain ⟨k, hk, rfl, hall, hb⟩ := hrel
    have Hall := Lib.hid hall
    have Hb := Lib.hid hb
    have hle := HL.out
    have hrw : wr.heap[w.heap.size]? = some (.cells (msgC m A cap) 63 (0, 0)) := by
      rw [← HX.out]
      exact (hb.block _ (Array.getElem?_eq_some_iff.1 Hrow.out.2).1).trans Hrow.out.2
    have c11 := (msgAt hrw).c11
    clear hall hb hrw
    by_cases hlt : k < m.ents.length
    · obtain ⟨b, off, rfl, hE⟩ := HA.out.ent k hlt
      have hE := (hE.bel Hrow.out.1).bel Hb.out
      obtain ⟨e, he⟩ : ∃ e, e = m.ents[k] := ⟨_, rfl⟩
      have hst := all_take m.ents k hlt
      rw [← he] at hE hst
      have Hmem : Hid (e ∈ m.ents) := Lib.hid (by rw [he]; exact List.getElem_mem hlt)
      have Hst := Lib.hid hst
      have HR := Lib.hid (fun W => refRight_any e W)
      unfold RetTr entC at HR
      obtain ⟨_, q0, q1, q2, q3, q4, q5, q6, q7, q8, q9, q10, q11, q12⟩ := hE
      clear hst he
      cases hm : En.may e
      · rw [hm] at HR
        have E : Hid (m.ents.all En.may = false) := Lib.hid (List.all_eq_false.2 ⟨e, Hmem.out, by rw [hm]; simp⟩)
        clear hm
        go_wp2_with fail
        refine (HR.out _).mono ?_
        rintro r w1 ⟨rfl, hb1⟩
        go_wp2_with fail
        go_ret
        exact ⟨by rw [Hs.out, E.out]; rfl, bnext Hrow.out.1 (bnext Hb.out hb1)⟩
      · rw [hm] at HR Hst
        have Hm := Lib.hid hm
        clear hm
        go_wp2_with fail
        refine (HR.out _).mono ?_
        rintro r w1 ⟨rfl, hb1⟩
        go_wp2_with fail
        go_roundw
        case rel => exact ⟨k + 1, by omega, by go_num, by rw [Hst.out, Hall.out]; rfl, bnext Hb.out hb1⟩
        case measure => simp [intOf]; omega
    · obtain rfl : k = m.ents.length := by omega
      go_wp2_with fail
      go_ret
      have := Hall.out
      rw [List.take_length] at this
      exact ⟨by rw [Hs.out, this]; rfl, bnext Hrow.out.1 Hb.out⟩
end Go.Proofs.Ytpdahbfjbgcmgaa
