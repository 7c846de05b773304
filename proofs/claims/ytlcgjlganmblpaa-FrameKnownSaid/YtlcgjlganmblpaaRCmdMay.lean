/-
  wapentakeref03.May and Write walked.
-/
import Derived.Test.YtlcgjlganmblpaaRCmdBytes5
import Derived.Test.YtlcgjlganmblpaaRSame
import Derived.Deep.WholeRow
import Derived.Deep.Cut
set_option linter.unusedSimpArgs false
set_option linter.unusedVariables false
namespace Go.Proofs.Ytlcgjlganmblpaa
open Go.RowKit
theorem storeCmd (X : Array Value) (hs : X.size = 12) (ho : X.all (·.oneCell') = true) (W : World) : (storeCells ⟨W.heap.size, 0, none⟩ X.toList 0).run Try.prog (W.alloc (.cells #[.int .u8 0, .int .u64 0, .int .u64 0, .string ⟨#[]⟩, .string ⟨#[]⟩, .string ⟨#[]⟩, .string ⟨#[]⟩, .string ⟨#[]⟩, .int .u8 0, .int .u64 0, .int .u64 0, .slice none 0 0] 30)) = .ok () (W.alloc (.cells X 30)) :=
  run_storeCells_new (P := Try.prog) W 30 _ X (by rw [hs]; exact sizeCmd) (by rw [hs]; rfl) ho
set_option maxRecDepth 100000 in
set_option maxHeartbeats 4000000 in
theorem may_any (c : Cm.Cmd) (hf : Cm.Fits c) (A : Option Addr) (cap : Nat) (w : World) (hA : Lies w A (pc c.parts)) (hn : c.parts.length ≤ 1000000) (hlen : (Cm.bytes c).length ≤ 50000000) :
    Calls Try.prog 38 #[.agg (cmdC c A cap)] w fun e w' => e = .returned (.bool (Cm.may c)) ∧ Below w.heap.size w w' := by
  have hB : ∀ W, Below w.heap.size w W → Calls Try.prog 64 #[.agg (cmdC c A cap)] W (RetBy c W) := fun W hb => bytes_any c hf A cap W (hA.below hb) hn hlen
  have HB := Lib.hid hB
  have FX := cmdF c A cap
  have hX : ∃ X, X = cmdC c A cap := ⟨_, rfl⟩
  obtain ⟨X, hX⟩ := hX
  rw [← hX] at FX HB ⊢
  have HX := Lib.hid hX
  obtain ⟨hx, hx1, x0, _, _, _, _, _, _, _, _, _, _, x11⟩ := FX
  clear hX hB
  have hsz : (Try.prog.info? 30).map (·.size) = some X.size := by rw [hx]; exact sizeCmd
  have Hsz := Lib.hid hsz
  clear hsz
  go_enter Try.func38, Try.ntmps38
  go_wp2_with (first | (refine wpList_load_row rfl 30 _ rfl w.heap.size rfl 30 X (0, 0) _ (heap_alloc_new w _) Try.underlying30 rfl Hsz.out ?_))
  refine (HB.out _ (bnew (Below.refl _ _) _)).mono ?_
  rintro e w1 ⟨B, cb, rfl, hLB, hb1⟩
  have FP := cmdF (Cm.plain c) B cb
  obtain ⟨P, hP⟩ : ∃ P, P = cmdC (Cm.plain c) B cb := ⟨_, rfl⟩
  rw [← hP] at FP ⊢
  have HP := Lib.hid hP
  have hst := storeCmd P FP.size FP.one
  have hps := FP.size
  clear hP FP
  have HLB := Lib.hid hLB
  have Hb1 := Lib.hid hb1
  have HA := Lib.hid hA
  clear hLB hb1 hA
  go_upto_region 2 with (fail)
  refine forget (fun W => Below w.heap.size w W ∧ w.heap.size < w1.heap.size ∧ w1.heap.size < W.heap.size ∧ W.heap[w.heap.size]? = some (.cells X 30 (0, 0)) ∧ W.heap[w1.heap.size]? = some (.cells P 30 (0, 0)) ∧ Lies W B (pc (Cm.plain c).parts)) ?_ ?_
  · have h1 := Hb1.out
    have hs1 := h1.size
    simp only [World.size_alloc] at hs1
    have hbT : Below w.heap.size w w1 := bnext (bnew (Below.refl _ _) _) h1
    exact ⟨bnew hbT _, by omega, by simp, (Below.heap_alloc _ _ _ (by omega)).trans ((h1.block _ (by simp)).trans (heap_alloc_new w _)), heap_alloc_new w1 _, HLB.out.below (bnew (Below.refl _ _) _)⟩
  rintro W2 ⟨hb2, hg1, hg2, hx2, hp2, hl2⟩
  generalize w1.heap.size = g at *
  have c0 := cell_of_row W2 w.heap.size 0 X _ _ hx2
  rw [Array.getElem?_eq_getElem (by omega), x0] at c0
  have hfalse : ∀ {b : Bool}, Cm.may c = b → b = Cm.may c := fun h => h.symm
  by_cases h0 : c.op < 1
  · have hm : Cm.may c = false := by unfold Cm.may; rw [decide_eq_false (by omega)]; rfl
    have Hm := Lib.hid hm
    have d0 : decide ((c.op : Int) < 1) = true := by simp; omega
    have Hb := Lib.hid hb2
    clear hm h0 hb2 hx2 hp2 hl2 hst
    go_wp2
    go_ret
    exact ⟨by rw [Hm.out]; rfl, Hb.out⟩
  have d0 : decide ((c.op : Int) < 1) = false := by simp; omega
  by_cases h1 : 11 < c.op
  · have hm : Cm.may c = false := by unfold Cm.may; rw [decide_eq_false (by omega)]; rfl
    have Hm := Lib.hid hm
    have d1 : decide ((11 : Int) < (c.op : Int)) = true := by simp; omega
    have Hb := Lib.hid hb2
    clear hm h0 h1 hb2 hx2 hp2 hl2 hst
    go_wp2
    go_ret
    exact ⟨by rw [Hm.out]; rfl, Hb.out⟩
  have d1 : decide ((11 : Int) < (c.op : Int)) = false := by simp; omega
  have HS := Lib.hid (same_any c (Cm.plain c) A B cap cb W2 (HA.out.below hb2) hl2 hn)
  have Hx2 := Lib.hid hx2
  have Hb2 := Lib.hid hb2
  rw [HX.out] at hx2
  rw [HP.out] at hp2
  obtain ⟨q0, q1, q2, q3, q4, q5, q6, q7, q8, q9, q10, q11, _⟩ := cmdAt hx2
  obtain ⟨y0, y1, y2, y3, y4, y5, y6, y7, y8, y9, y10, y11, _⟩ := cmdAt hp2
  clear hx2 hp2 hb2 hl2 hst c0
  cases hsm : Cm.same c (Cm.plain c)
  case false =>
    have hm : Cm.may c = false := by unfold Cm.may; rw [hsm]; simp
    have Hm := Lib.hid hm
    rw [hsm] at HS
    clear hm h0 h1 hsm
    go_wp2_with (go_at_call 40; refine HS.out.mono ?_; rintro e w3 ⟨rfl, hb3⟩)
    go_ret
    exact ⟨by rw [Hm.out]; rfl, bnext Hb2.out hb3⟩
  rw [hsm] at HS
  have Hsm := Lib.hid hsm
  clear hsm
  by_cases h5 : c.op = 5
  · have hop5 : ((c.op : Int) == 5) = true := by rw [beq_iff_eq]; omega
    by_cases hl1 : 1 ≤ c.parts.length ∧ c.parts.length ≤ 4
    · have H5 : Hid ((c.op != 5 || decide (1 ≤ c.parts.length ∧ c.parts.length ≤ 4)) = true) := Lib.hid (by rw [decide_eq_true hl1]; simp)
      have e1 : decide ((c.parts.length : Int) < 1) = false := by simp; omega
      have e2 : decide ((4 : Int) < (c.parts.length : Int)) = false := by simp; omega
      have H51 := Lib.hid h5
      clear h5
      go_wp2_with (go_at_call 40; refine HS.out.mono ?_; rintro e w3 ⟨rfl, hb3⟩; have c0 := later hb3 q0; have c11 := later hb3 q11)
      clear q0 q1 q2 q3 q4 q5 q6 q7 q8 q9 q10 q11 y0 y1 y2 y3 y4 y5 y6 y7 y8 y9 y10 y11 c0 c11 hop5 e1 e2
      go_loopw [5, 6] (fun i _ wr => ∃ k : Nat, k ≤ c.parts.length ∧ i = .int .i64 (k : Int) ∧ (∀ j, j < k → ∀ p, c.parts[j]? = some p → Cm.okPart p = true) ∧ Below w.heap.size w wr ∧ wr.heap[w.heap.size]? = some (.cells X 30 (0, 0)) ∧ w.heap.size < wr.heap.size) (fun i _ _ => c.parts.length - (intOf i).toNat)
      case atStart => exact ⟨0, Nat.zero_le _, rfl, fun j hj => absurd hj (by omega), bnext Hb2.out hb3, (hb3.block _ (by omega)).trans Hx2.out, Nat.lt_of_lt_of_le (by omega) hb3.size⟩
      case round =>
        clear hb3
        obtain ⟨k, hk, rfl, hall, hb, hbx, hsz⟩ := hrel
        have c11 := cell_of_row wr w.heap.size 11 X _ _ hbx
        rw [Array.getElem?_eq_getElem (by omega), x11] at c11
        have Hb := Lib.hid hb
        have Hbx := Lib.hid hbx
        have Hall := Lib.hid hall
        clear hbx hall
        by_cases hlt : k < c.parts.length
        · obtain ⟨ba, oa, rfl, hba, p0, p1, p2⟩ := HA.out.part k hlt
          obtain ⟨p, hp⟩ : ∃ p, p = c.parts[k] := ⟨_, rfl⟩
          have hgp : c.parts[k]? = some p := by rw [hp, List.getElem?_eq_getElem]
          rw [← hp] at p0 p1 p2
          have r0 : wr.cell? ⟨ba, oa + k * 3, none⟩ = _ := (hb.cell (p := ⟨ba, oa + k * 3, none⟩) hba).trans p0
          have r1 : wr.cell? ⟨ba, oa + k * 3 + 1, none⟩ = _ := (hb.cell (p := ⟨ba, oa + k * 3 + 1, none⟩) hba).trans p1
          have r2 : wr.cell? ⟨ba, oa + k * 3 + 2, none⟩ = _ := (hb.cell (p := ⟨ba, oa + k * 3 + 2, none⟩) hba).trans p2
          have Hgp := Lib.hid hgp
          clear hp hgp p0 p1 p2 hb
          have hno : Cm.okPart p = false → Cm.may c = false := fun h => by
            have : c.parts.all Cm.okPart = false := by
              rw [List.all_eq_false]
              exact ⟨p, List.mem_of_getElem? Hgp.out, by rw [h]; simp⟩
            unfold Cm.may; rw [this]; simp
          have Hno := Lib.hid hno
          have hyes : Cm.okPart p = true → ∀ j, j < k + 1 → ∀ q, c.parts[j]? = some q → Cm.okPart q = true := fun h j hj q hq => by
            by_cases e : j = k
            · subst e; rw [Hgp.out] at hq; injection hq with hq; rw [← hq]; exact h
            · exact Hall.out j (by omega) q hq
          have Hyes := Lib.hid hyes
          clear hno hyes
          by_cases h2 : p.op = 2
          · have hok := Hyes.out (by unfold Cm.okPart; rw [h2]; rfl)
            have Hok := Lib.hid hok
            have ht : (p.op : Int) = 2 := by omega
            clear h2 hok
            go_wp2
            go_roundw
            case rel => exact ⟨k + 1, by omega, by go_num, Hok.out, bnew Hb.out _, (Below.heap_alloc _ _ _ hsz).trans Hbx.out, by simp; omega⟩
            case measure => simp [intOf]; omega
          · by_cases h3 : p.op = 3
            · have ht : (p.op : Int) = 3 := by omega
              by_cases hv : p.val = Cm.e0
              · have hok := Hyes.out (by unfold Cm.okPart; rw [h3, (Cm.eqS_iff _ _).2 hv]; rfl)
                have Hok := Lib.hid hok
                have hne : p.val.toList.isEmpty = true := by rw [hv, ByteArray.toList_eq]; rfl
                clear h2 h3 hok hv
                go_wp2
                go_roundw
                case rel => exact ⟨k + 1, by omega, by go_num, Hok.out, bnew Hb.out _, (Below.heap_alloc _ _ _ hsz).trans Hbx.out, by simp; omega⟩
                case measure => simp [intOf]; omega
              · have hfin := Hno.out (by
                  unfold Cm.okPart; rw [h3]
                  have : Cm.eqS p.val Cm.e0 = false := by rw [Bool.eq_false_iff]; intro e; exact hv ((Cm.eqS_iff _ _).1 e)
                  rw [this]; rfl)
                have Hfin := Lib.hid hfin
                have hne : p.val.toList.isEmpty = false := by
                  rw [ByteArray.toList_eq, List.isEmpty_eq_false_iff]; intro e
                  exact hv (ByteArray.ext (Array.toList_inj.1 (by rw [e]; rfl)))
                clear h2 h3 hfin hv
                go_wp2
                go_ret
                exact ⟨by rw [Hfin.out]; rfl, bnew Hb.out _⟩
            · have hfin := Hno.out (by
                unfold Cm.okPart
                have e2 : (p.op == 2) = false := by rw [beq_eq_false_iff_ne]; exact h2
                have e3 : (p.op == 3) = false := by rw [beq_eq_false_iff_ne]; exact h3
                rw [e2, e3]; rfl)
              have Hfin := Lib.hid hfin
              have t2 : ((p.op : Int) == 2) = false := by rw [beq_eq_false_iff_ne]; omega
              have t3 : ((p.op : Int) == 3) = false := by rw [beq_eq_false_iff_ne]; omega
              have t4 : ((p.op : Int) = 2) = False := by simp; omega
              have t5 : ((p.op : Int) = 3) = False := by simp; omega
              have t6 : ((p.op : Int) != 2) = true := by rw [bne_iff_ne]; omega
              have t7 : ((p.op : Int) != 3) = true := by rw [bne_iff_ne]; omega
              clear h2 h3 hfin
              go_wp2
              go_ret
              exact ⟨by rw [Hfin.out]; rfl, bnew Hb.out _⟩
        · obtain rfl : k = c.parts.length := by omega
          have hfin : Cm.may c = true := by
            unfold Cm.may
            rw [decide_eq_true (by omega), Hsm.out, H5.out]
            have : c.parts.all Cm.okPart = true := by
              rw [List.all_eq_true]
              intro p hp
              obtain ⟨j, hj, e⟩ := List.mem_iff_getElem.1 hp
              exact Hall.out j hj p (by rw [List.getElem?_eq_getElem hj, e])
            rw [this]; rfl
          have Hfin := Lib.hid hfin
          clear hfin
          go_wp2
          go_ret
          exact ⟨by rw [Hfin.out]; rfl, Hb.out⟩

    · have hm : Cm.may c = false := by
        unfold Cm.may
        rw [decide_eq_false hl1, h5]; simp
      have Hm := Lib.hid hm
      clear hm
      by_cases hl2 : c.parts.length < 1
      · have e1 : decide ((c.parts.length : Int) < 1) = true := by simp; omega
        clear hl1 h5
        go_wp2_with (go_at_call 40; refine HS.out.mono ?_; rintro e w3 ⟨rfl, hb3⟩; have c0 := later hb3 q0; have c11 := later hb3 q11)
        go_ret
        exact ⟨by rw [Hm.out]; rfl, bnext Hb2.out hb3⟩
      · have e1 : decide ((c.parts.length : Int) < 1) = false := by simp; omega
        have e2 : decide ((4 : Int) < (c.parts.length : Int)) = true := by simp; omega
        clear hl1 h5
        go_wp2_with (go_at_call 40; refine HS.out.mono ?_; rintro e w3 ⟨rfl, hb3⟩; have c0 := later hb3 q0; have c11 := later hb3 q11)
        go_ret
        exact ⟨by rw [Hm.out]; rfl, bnext Hb2.out hb3⟩
  · have H5 : Hid ((c.op != 5 || decide (1 ≤ c.parts.length ∧ c.parts.length ≤ 4)) = true) := Lib.hid (by
      have : (c.op != 5) = true := by rw [bne_iff_ne]; exact h5
      rw [this]; rfl)
    have e5 : ((c.op : Int) == 5) = false := by rw [beq_eq_false_iff_ne]; omega
    have H51 := Lib.hid h5
    clear h5
    go_wp2_with (go_at_call 40; refine HS.out.mono ?_; rintro e w3 ⟨rfl, hb3⟩; have c0 := later hb3 q0; have c11 := later hb3 q11)
    clear q0 q1 q2 q3 q4 q5 q6 q7 q8 q9 q10 q11 y0 y1 y2 y3 y4 y5 y6 y7 y8 y9 y10 y11 c0 c11 e5
    go_loopw [5, 6] (fun i _ wr => ∃ k : Nat, k ≤ c.parts.length ∧ i = .int .i64 (k : Int) ∧ (∀ j, j < k → ∀ p, c.parts[j]? = some p → Cm.okPart p = true) ∧ Below w.heap.size w wr ∧ wr.heap[w.heap.size]? = some (.cells X 30 (0, 0)) ∧ w.heap.size < wr.heap.size) (fun i _ _ => c.parts.length - (intOf i).toNat)
    case atStart => exact ⟨0, Nat.zero_le _, rfl, fun j hj => absurd hj (by omega), bnext Hb2.out hb3, (hb3.block _ (by omega)).trans Hx2.out, Nat.lt_of_lt_of_le (by omega) hb3.size⟩
    case round =>
      clear hb3
      obtain ⟨k, hk, rfl, hall, hb, hbx, hsz⟩ := hrel
      have c11 := cell_of_row wr w.heap.size 11 X _ _ hbx
      rw [Array.getElem?_eq_getElem (by omega), x11] at c11
      have Hb := Lib.hid hb
      have Hbx := Lib.hid hbx
      have Hall := Lib.hid hall
      clear hbx hall
      by_cases hlt : k < c.parts.length
      · obtain ⟨ba, oa, rfl, hba, p0, p1, p2⟩ := HA.out.part k hlt
        obtain ⟨p, hp⟩ : ∃ p, p = c.parts[k] := ⟨_, rfl⟩
        have hgp : c.parts[k]? = some p := by rw [hp, List.getElem?_eq_getElem]
        rw [← hp] at p0 p1 p2
        have r0 : wr.cell? ⟨ba, oa + k * 3, none⟩ = _ := (hb.cell (p := ⟨ba, oa + k * 3, none⟩) hba).trans p0
        have r1 : wr.cell? ⟨ba, oa + k * 3 + 1, none⟩ = _ := (hb.cell (p := ⟨ba, oa + k * 3 + 1, none⟩) hba).trans p1
        have r2 : wr.cell? ⟨ba, oa + k * 3 + 2, none⟩ = _ := (hb.cell (p := ⟨ba, oa + k * 3 + 2, none⟩) hba).trans p2
        have Hgp := Lib.hid hgp
        clear hp hgp p0 p1 p2 hb
        have hno : Cm.okPart p = false → Cm.may c = false := fun h => by
          have : c.parts.all Cm.okPart = false := by
            rw [List.all_eq_false]
            exact ⟨p, List.mem_of_getElem? Hgp.out, by rw [h]; simp⟩
          unfold Cm.may; rw [this]; simp
        have Hno := Lib.hid hno
        have hyes : Cm.okPart p = true → ∀ j, j < k + 1 → ∀ q, c.parts[j]? = some q → Cm.okPart q = true := fun h j hj q hq => by
          by_cases e : j = k
          · subst e; rw [Hgp.out] at hq; injection hq with hq; rw [← hq]; exact h
          · exact Hall.out j (by omega) q hq
        have Hyes := Lib.hid hyes
        clear hno hyes
        by_cases h2 : p.op = 2
        · have hok := Hyes.out (by unfold Cm.okPart; rw [h2]; rfl)
          have Hok := Lib.hid hok
          have ht : (p.op : Int) = 2 := by omega
          clear h2 hok
          go_wp2
          go_roundw
          case rel => exact ⟨k + 1, by omega, by go_num, Hok.out, bnew Hb.out _, (Below.heap_alloc _ _ _ hsz).trans Hbx.out, by simp; omega⟩
          case measure => simp [intOf]; omega
        · by_cases h3 : p.op = 3
          · have ht : (p.op : Int) = 3 := by omega
            by_cases hv : p.val = Cm.e0
            · have hok := Hyes.out (by unfold Cm.okPart; rw [h3, (Cm.eqS_iff _ _).2 hv]; rfl)
              have Hok := Lib.hid hok
              have hne : p.val.toList.isEmpty = true := by rw [hv, ByteArray.toList_eq]; rfl
              clear h2 h3 hok hv
              go_wp2
              go_roundw
              case rel => exact ⟨k + 1, by omega, by go_num, Hok.out, bnew Hb.out _, (Below.heap_alloc _ _ _ hsz).trans Hbx.out, by simp; omega⟩
              case measure => simp [intOf]; omega
            · have hfin := Hno.out (by
                unfold Cm.okPart; rw [h3]
                have : Cm.eqS p.val Cm.e0 = false := by rw [Bool.eq_false_iff]; intro e; exact hv ((Cm.eqS_iff _ _).1 e)
                rw [this]; rfl)
              have Hfin := Lib.hid hfin
              have hne : p.val.toList.isEmpty = false := by
                rw [ByteArray.toList_eq, List.isEmpty_eq_false_iff]; intro e
                exact hv (ByteArray.ext (Array.toList_inj.1 (by rw [e]; rfl)))
              clear h2 h3 hfin hv
              go_wp2
              go_ret
              exact ⟨by rw [Hfin.out]; rfl, bnew Hb.out _⟩
          · have hfin := Hno.out (by
              unfold Cm.okPart
              have e2 : (p.op == 2) = false := by rw [beq_eq_false_iff_ne]; exact h2
              have e3 : (p.op == 3) = false := by rw [beq_eq_false_iff_ne]; exact h3
              rw [e2, e3]; rfl)
            have Hfin := Lib.hid hfin
            have t2 : ((p.op : Int) == 2) = false := by rw [beq_eq_false_iff_ne]; omega
            have t3 : ((p.op : Int) == 3) = false := by rw [beq_eq_false_iff_ne]; omega
            have t4 : ((p.op : Int) = 2) = False := by simp; omega
            have t5 : ((p.op : Int) = 3) = False := by simp; omega
            have t6 : ((p.op : Int) != 2) = true := by rw [bne_iff_ne]; omega
            have t7 : ((p.op : Int) != 3) = true := by rw [bne_iff_ne]; omega
            clear h2 h3 hfin
            go_wp2
            go_ret
            exact ⟨by rw [Hfin.out]; rfl, bnew Hb.out _⟩
      · obtain rfl : k = c.parts.length := by omega
        have hfin : Cm.may c = true := by
          unfold Cm.may
          rw [decide_eq_true (by omega), Hsm.out, H5.out]
          have : c.parts.all Cm.okPart = true := by
            rw [List.all_eq_true]
            intro p hp
            obtain ⟨j, hj, e⟩ := List.mem_iff_getElem.1 hp
            exact Hall.out j hj p (by rw [List.getElem?_eq_getElem hj, e])
          rw [this]; rfl
        have Hfin := Lib.hid hfin
        clear hfin
        go_wp2
        go_ret
        exact ⟨by rw [Hfin.out]; rfl, Hb.out⟩

set_option maxRecDepth 100000 in
set_option maxHeartbeats 4000000 in
theorem write_any (c : Cm.Cmd) (hf : Cm.Fits c) (A : Option Addr) (cap : Nat) (w : World) (hA : Lies w A (pc c.parts)) (hn : c.parts.length ≤ 1000000) (hlen : (Cm.bytes c).length ≤ 50000000) :
    Calls Try.prog 39 #[.agg (cmdC c A cap)] w (RetS (Cm.write c) w) := by
  have hB : ∀ W, Below w.heap.size w W → Calls Try.prog 64 #[.agg (cmdC c A cap)] W (RetBy c W) := fun W hb => bytes_any c hf A cap W (hA.below hb) hn hlen
  have hM : ∀ W, Below w.heap.size w W → Calls Try.prog 38 #[.agg (cmdC c A cap)] W fun e w' => e = .returned (.bool (Cm.may c)) ∧ Below W.heap.size W w' := fun W hb => may_any c hf A cap W (hA.below hb) hn hlen
  have FX := cmdF c A cap
  generalize cmdC c A cap = X at FX hB hM ⊢
  have HB := Lib.hid hB
  have HM := Lib.hid hM
  have hx := FX.size
  have hsz : (Try.prog.info? 30).map (·.size) = some X.size := by rw [hx]; exact sizeCmd
  have Hsz := Lib.hid hsz
  clear hsz hB hM FX hA
  have hm1 := HM.out (w.alloc (.cells X 30)) (bnew (Below.refl _ _) _)
  cases hm : Cm.may c
  · rw [hm] at hm1
    have Hw : Hid (Cm.write c = []) := Lib.hid (by unfold Cm.write; rw [hm]; rfl)
    have HM1 := Lib.hid hm1
    clear hm1 hm
    go_enter Try.func39, Try.ntmps39
    go_wp2_with (first | (go_at_call 38; refine HM1.out.mono ?_; rintro e w1 ⟨rfl, hb1⟩) | (refine wpList_load_row rfl 30 _ rfl w.heap.size rfl 30 X (0, 0) _ (heap_alloc_new w _) Try.underlying30 rfl Hsz.out ?_))
    go_ret
    exact ⟨by rw [Hw.out]; rfl, bnext (bnew (Below.refl _ _) _) hb1⟩
  · rw [hm] at hm1
    have Hw : Hid (Cm.write c = Cm.bytes c) := Lib.hid (by unfold Cm.write; rw [hm]; rfl)
    have HM1 := Lib.hid hm1
    clear hm1 hm
    go_enter Try.func39, Try.ntmps39
    go_wp2_with (first | (go_at_call 38; refine HM1.out.mono ?_; rintro e w1 ⟨rfl, hb1⟩; have hx1 := (hb1.block w.heap.size (by simp)).trans (heap_alloc_new w (.cells X 30))) | (refine wpList_load_row rfl 30 _ rfl w.heap.size rfl 30 X (0, 0) _ (heap_alloc_new w _) Try.underlying30 rfl Hsz.out ?_) | (refine wpList_load_row rfl 30 _ rfl w.heap.size rfl 30 X (0, 0) _ hx1 Try.underlying30 rfl Hsz.out ?_))
    refine (HB.out _ (bnext (bnew (Below.refl _ _) _) hb1)).mono ?_
    rintro e w2 ⟨B, cb, rfl, hLB, hb2⟩
    have FP := cmdF (Cm.plain c) B cb
    generalize cmdC (Cm.plain c) B cb = P at FP ⊢
    have hst := storeCmd P FP.size FP.one
    have hps := FP.size
    have Hb := Lib.hid (bnext (bnext (bnew (Below.refl _ _) _) hb1) hb2)
    clear hLB hb2 hb1 FP hx1
    go_wp2
    go_ret
    exact ⟨by rw [Hw.out]; rfl, bnew Hb.out _⟩
end Go.Proofs.Ytlcgjlganmblpaa
