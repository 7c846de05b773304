/-
  MsgKnown walked.
-/
import Derived.Test.YtpdahbfjbgcmgaaRMgBackH
import Derived.Test.YtpdahbfjbgcmgaaROpen
import Derived.Laws.MakeOwn
import Derived.Deep.DeepCutAuto
import Derived.Deep.CutBlock
set_option linter.unusedSimpArgs false
set_option linter.unusedVariables false
namespace Go.Proofs.Ytpdahbfjbgcmgaa
open Go.RowKit
def kV : Mg.M := ⟨1, 1, 2, 3, 4, 2, 0, 0, false, 0, 0, [], Cm.e0⟩
def kz (k f t : Nat) : Mg.M := ⟨k, f, t, 0, 0, 0, 0, 0, false, 0, 0, [], Cm.e0⟩
def kE : En.E := ⟨1, 1, 1, 0, Og.Tk.zero, Cm.e0⟩
def es9 : List En.E := [kE, kE, kE, kE, kE, kE, kE, kE, kE]
/-- A message of small numbers and texts. -/
def smallM (m : Mg.M) : Bool := decide (m.kind < 256) && decide (m.frm < 256) && decide (m.tto < 256) && decide (m.trm ≤ 1000) && decide (m.idx ≤ 1000) && decide (m.ltm ≤ 1000) && decide (m.com ≤ 1000) && decide (m.rnd ≤ 1000) && decide (m.mem < 256) && decide (m.sec < 256) && decide (m.body.size ≤ 1000) && decide (Mg.big m.ents ≤ 1000) && decide (m.ents.length ≤ 100) && m.ents.all fun e => decide (e.idx ≤ 1000) && decide (e.trm ≤ 1000) && decide (e.kind < 256) && decide (e.slot < 256)
theorem smallM_ok {m : Mg.M} (h : smallM m = true) : Mg.Fits m ∧ m.body.size ≤ 1000000 ∧ Mg.big m.ents ≤ 1000000 ∧ m.ents.length ≤ 1000000 := by
  unfold smallM at h
  simp only [Bool.and_eq_true, decide_eq_true_eq, List.all_eq_true] at h
  obtain ⟨⟨⟨⟨⟨⟨⟨⟨⟨⟨⟨⟨⟨h1, h2⟩, h3⟩, h4⟩, h5⟩, h6⟩, h7⟩, h8⟩, h9⟩, h10⟩, h11⟩, h12⟩, h13⟩, h14⟩ := h
  refine ⟨⟨h1, h2, h3, top_pos5 h4, top_pos5 h5, top_pos5 h6, top_pos5 h7, top_pos5 h8, h9, h10, fun e he => ?_⟩, by omega, by omega, by omega⟩
  obtain ⟨⟨⟨a, b⟩, c⟩, d⟩ := h14 e he
  exact ⟨top_pos5 a, top_pos5 b, c, d⟩
/-- The messages that may not be: with where their entries lie. -/
def badM (gA gB : Nat) : List (Mg.M × Option Addr × Nat) :=
  [(Mg.zero, none, 0), (kz 2 1 6, none, 0), (kz 2 0 1, none, 0), (kz 8 1 2, none, 0), ({ kz 5 1 2 with sec := 5 }, none, 0), ({ kz 5 1 2 with mem := 32 }, none, 0), ({ kz 3 1 2 with ents := [En.zero] }, some ⟨gA, 0, none⟩, 1), ({ kz 3 1 2 with ents := es9 }, some ⟨gB, 0, none⟩, 9)]
theorem bad6 : Mg.may { kz 3 1 2 with ents := [En.zero] } = false ∧ smallM { kz 3 1 2 with ents := [En.zero] } = true := by decide +kernel
theorem bad7 : Mg.may { kz 3 1 2 with ents := es9 } = false ∧ smallM { kz 3 1 2 with ents := es9 } = true := by decide +kernel
theorem badM_ok (gA gB : Nat) (W : World) (hA : Lies W (some ⟨gA, 0, none⟩) (ec [En.zero])) (hB : Lies W (some ⟨gB, 0, none⟩) (ec es9)) : ∀ x ∈ badM gA gB, Mg.may x.1 = false ∧ smallM x.1 = true ∧ Lies W x.2.1 (ec x.1.ents) := by
  intro x hx
  simp only [badM, List.mem_cons, List.not_mem_nil, or_false] at hx
  rcases hx with rfl | rfl | rfl | rfl | rfl | rfl | rfl | rfl
  · exact ⟨by decide +kernel, by decide +kernel, .inl rfl⟩
  · exact ⟨by decide +kernel, by decide +kernel, .inl rfl⟩
  · exact ⟨by decide +kernel, by decide +kernel, .inl rfl⟩
  · exact ⟨by decide +kernel, by decide +kernel, .inl rfl⟩
  · exact ⟨by decide +kernel, by decide +kernel, .inl rfl⟩
  · exact ⟨by decide +kernel, by decide +kernel, .inl rfl⟩
  · exact ⟨bad6.1, bad6.2, hA⟩
  · exact ⟨bad7.1, bad7.2, hB⟩
def mcs (l : List (Mg.M × Option Addr × Nat)) : List Value := (l.map fun x => (msgC x.1 x.2.1 x.2.2).toList).flatten
theorem mcs_at : ∀ (l : List (Mg.M × Option Addr × Nat)) (i : Nat) (h : i < l.length) (j : Nat), j < 13 → (mcs l)[13 * i + j]? = (msgC l[i].1 l[i].2.1 l[i].2.2)[j]?
  | x :: l, 0, _, j, hj => by
    show ((msgC x.1 x.2.1 x.2.2).toList ++ mcs l)[13 * 0 + j]? = _
    have hl : (msgC x.1 x.2.1 x.2.2).toList.length = 13 := rfl
    rw [List.getElem?_append_left (by omega)]
    simp
  | x :: l, i + 1, h, j, hj => by
    have k := mcs_at l i (by simpa using h) j hj
    show ((msgC x.1 x.2.1 x.2.2).toList ++ mcs l)[13 * (i + 1) + j]? = _
    have hl : (msgC x.1 x.2.1 x.2.2).toList.length = 13 := rfl
    rw [List.getElem?_append_right (by omega), hl]
    have e2 : 13 * (i + 1) + j - 13 = 13 * i + j := by omega
    rw [e2, k]; rfl
theorem mc_cell {W : World} {gL gA gB : Nat} (hr : W.heap[gL]? = some (.cells (mcs (badM gA gB)).toArray 63 (0, 0))) (k : Nat) (hk : k < (badM gA gB).length) (j : Nat) (hj : j < 13) :
    W.cell? ⟨gL, k * 13 + j, none⟩ = (msgC (badM gA gB)[k].1 (badM gA gB)[k].2.1 (badM gA gB)[k].2.2)[j]? := by
  have hc := cell_of_row W gL (k * 13 + j) _ _ _ hr
  rw [List.getElem?_toArray, Nat.mul_comm k 13, mcs_at _ k hk j hj] at hc
  rw [Nat.mul_comm k 13]; exact hc
theorem kV_write : Mg.write kV = [1, 1, 2, 3, 4, 2, 0, 0, 0, 0, 0, 0, 0] := by decide +kernel
theorem kvW (W : World) : Calls Try.prog 37 #[.agg #[.int .u8 1, .int .u8 1, .int .u8 2, .int .u64 3, .int .u64 4, .int .u64 2, .int .u64 0, .int .u64 0, .bool false, .int .u8 0, .int .u8 0, .slice none 0 0, .string ⟨#[]⟩]] W fun e w' => e = .returned (.string ⟨#[1, 1, 2, 3, 4, 2, 0, 0, 0, 0, 0, 0, 0]⟩) ∧ Below W.heap.size W w' := by
  have hk := smallM_ok (m := kV) (by decide +kernel)
  have := mWrite_any kV hk.1 hk.2.1 hk.2.2.1 hk.2.2.2 none 0 W (.inl rfl)
  unfold RetS at this
  rw [kV_write] at this
  exact this
set_option maxRecDepth 100000 in
set_option maxHeartbeats 16000000 in
theorem msgKnown_walk (w : World) : Calls Try.prog 10 #[] w fun r w' => r = .returned (.bool true) ∧ Below w.heap.size w w' := by
  have HAw := Lib.hid mAwake_any
  have HV := Lib.hid kvW
  obtain ⟨i0, hi, hz0, hz1, hz2⟩ := info_parts Try.infoEnt
  have hmk : ∀ W : World, (Instr.makeSlice 61 (.int .i64 1) (.int .i64 1)).run Try.prog W = .ok (.slice (some ⟨W.heap.size, 0, none⟩) 1 1) (W.alloc (.cells (ec [En.zero]).toArray 65)) := fun W => by
    have := run_make (P := Try.prog) W 61 65 i0 _ Try.underlying61 hi hz0 .i64 .i64 (1 : Int) (1 : Int) (by omega) (by omega) (by rw [hz2]; omega) (by omega)
    rw [hz1] at this
    have hm := made_ec 1
    simp only [Int.toNat_one, Value.cells] at this
    rw [this, hm]; rfl
  clear hi hz0 hz1 hz2
  go_enter Try.func10, Try.ntmps10
  go_wp2_with fail
  refine (HV.out _).mono ?_
  rintro r w1 ⟨rfl, hb1⟩
  have HB1 := Lib.hid hb1
  clear hb1
  go_upto_region 3 with (fail)
  go_cut [28, 29, 30] (fun a b c W => ∃ gL gA gB : Nat, a = .slice (some ⟨gL, 0, none⟩) 8 8 ∧ b = .int .i64 8 ∧ c = .int .i64 0 ∧ Below w.heap.size w W ∧ W.heap[gL]? = some (.cells (mcs (badM gA gB)).toArray 63 (0, 0)) ∧ W.heap[gA]? = some (.cells (ec [En.zero]).toArray 65 (0, 0)) ∧ W.heap[gB]? = some (.cells (ec es9).toArray 65 (0, 0)))
  case first =>
    have hrows : ∀ E M : Obj, Below w.heap.size w (((w1.alloc (.cells (ec [En.zero]).toArray 65)).alloc E).alloc M) ∧ (((w1.alloc (.cells (ec [En.zero]).toArray 65)).alloc E).alloc M).heap[w1.heap.size + 1 + 1]? = some M ∧ (((w1.alloc (.cells (ec [En.zero]).toArray 65)).alloc E).alloc M).heap[w1.heap.size]? = some (.cells (ec [En.zero]).toArray 65 (0, 0)) ∧ (((w1.alloc (.cells (ec [En.zero]).toArray 65)).alloc E).alloc M).heap[w1.heap.size + 1]? = some E := fun E M => by
      refine ⟨bnew (bnew (bnew HB1.out _) _) _, ?_, ?_, ?_⟩
      · have := heap_alloc_new ((w1.alloc (.cells (ec [En.zero]).toArray 65)).alloc E) M
        rw [World.size_alloc, World.size_alloc] at this
        exact this
      · exact (Below.heap_alloc _ _ _ (by simp; omega)).trans ((Below.heap_alloc _ _ _ (by simp)).trans (heap_alloc_new w1 _))
      · have := heap_alloc_new (w1.alloc (.cells (ec [En.zero]).toArray 65)) E
        rw [World.size_alloc] at this
        exact (Below.heap_alloc _ _ _ (by simp)).trans this
    have HRows := Lib.hid hrows
    clear hrows
    go_wp2_with fail
    go_meet
    case rel =>
      obtain ⟨r1, r2, r3, r4⟩ := HRows.out (.cells (ec es9).toArray 65) (.cells (mcs (badM w1.heap.size (w1.heap.size + 1))).toArray 63)
      exact ⟨w1.heap.size + 1 + 1, w1.heap.size, w1.heap.size + 1, rfl, rfl, rfl, r1, r2, r3, r4⟩
  case rest =>
    obtain ⟨gL, gA, gB, rfl, rfl, rfl, h1, h2, h3, h4⟩ := hcut
    have HS := Lib.hid (And.intro h1 (And.intro h2 (And.intro h3 h4)))
    have hlen : (badM gA gB).length = 8 := rfl
    obtain ⟨L, hL⟩ : ∃ L, L = badM gA gB := ⟨_, rfl⟩
    rw [← hL] at hlen
    have HL := Lib.hid (And.intro hL hlen)
    clear h1 h2 h3 h4 hmk hL hlen
    go_wp2_with fail
    go_loopw [30] (fun i wr => ∃ k : Nat, k ≤ 8 ∧ i = .int .i64 (k : Int) ∧ Below wc.heap.size wc wr) (fun i _ => 8 - (intOf i).toNat)
    case atStart => exact ⟨0, by omega, rfl, Below.refl _ _⟩
    case round =>
      obtain ⟨k, hk, rfl, hb⟩ := hrel
      have Hb := Lib.hid hb
      by_cases hlt : k < 8
      · have hrL : wr.heap[gL]? = some (.cells (mcs L).toArray 63 (0, 0)) := by
          rw [HL.out.1]
          exact (hb.block _ (Array.getElem?_eq_some_iff.1 HS.out.2.1).1).trans HS.out.2.1
        have hkL : k < L.length := by rw [HL.out.2]; exact hlt
        have hx := badM_ok gA gB wc (lies_row HS.out.2.2.1) (lies_row HS.out.2.2.2) L[k] (by rw [← HL.out.1]; exact List.getElem_mem hkL)
        have hc : ∀ j, j < 13 → wr.cell? ⟨gL, k * 13 + j, none⟩ = (msgC L[k].1 L[k].2.1 L[k].2.2)[j]? := fun j hj => by
          have hrL' := hrL
          obtain ⟨hL1, hL2⟩ := HL.out
          subst hL1
          exact mc_cell hrL' k hkL j hj
        obtain ⟨x, hxx⟩ : ∃ x, x = L[k] := ⟨_, rfl⟩
        rw [← hxx] at hx hc
        obtain ⟨m, A, cap⟩ := x
        obtain ⟨q1, q2, q3⟩ := hx
        have hok := smallM_ok q2
        simp only [] at q1 q2 q3 hc hok
        have HR : Hid (∀ W, Below wc.heap.size wc W → Calls Try.prog 38 #[.agg (msgC m A cap)] W fun e w' => e = .returned (.bool false) ∧ Below W.heap.size W w') := Lib.hid (fun W hb => by
          have := mRight_any m A cap W (q3.below hb)
          unfold RetTr at this
          rw [q1] at this
          exact this)
        have HW : Hid (∀ W, Below wc.heap.size wc W → Calls Try.prog 37 #[.agg (msgC m A cap)] W fun e w' => e = .returned (.string ⟨#[]⟩) ∧ Below W.heap.size W w') := Lib.hid (fun W hb => by
          have := mWrite_any m hok.1 hok.2.1 hok.2.2.1 hok.2.2.2 A cap W (q3.below hb)
          unfold RetS Mg.write at this
          rw [q1] at this
          exact this)
        unfold msgC at HR HW
        have hst := storeMsg (msgC m A cap) rfl (msgF m A cap).one
        unfold msgC at hst
        have c0 : wr.cell? ⟨gL, k * 13, none⟩ = _ := hc 0 (by decide)
        have c1 := hc 1 (by decide)
        have c2 := hc 2 (by decide)
        have c3 := hc 3 (by decide)
        have c4 := hc 4 (by decide)
        have c5 := hc 5 (by decide)
        have c6 := hc 6 (by decide)
        have c7 := hc 7 (by decide)
        have c8 := hc 8 (by decide)
        have c9 := hc 9 (by decide)
        have c10 := hc 10 (by decide)
        have c11 := hc 11 (by decide)
        have c12 := hc 12 (by decide)
        replace c0 : wr.cell? ⟨gL, k * 13, none⟩ = some (.int .u8 (m.kind : Int)) := c0
        replace c1 : wr.cell? ⟨gL, k * 13 + 1, none⟩ = some (.int .u8 (m.frm : Int)) := c1
        replace c2 : wr.cell? ⟨gL, k * 13 + 2, none⟩ = some (.int .u8 (m.tto : Int)) := c2
        replace c3 : wr.cell? ⟨gL, k * 13 + 3, none⟩ = some (.int .u64 (m.trm : Int)) := c3
        replace c4 : wr.cell? ⟨gL, k * 13 + 4, none⟩ = some (.int .u64 (m.idx : Int)) := c4
        replace c5 : wr.cell? ⟨gL, k * 13 + 5, none⟩ = some (.int .u64 (m.ltm : Int)) := c5
        replace c6 : wr.cell? ⟨gL, k * 13 + 6, none⟩ = some (.int .u64 (m.com : Int)) := c6
        replace c7 : wr.cell? ⟨gL, k * 13 + 7, none⟩ = some (.int .u64 (m.rnd : Int)) := c7
        replace c8 : wr.cell? ⟨gL, k * 13 + 8, none⟩ = some (.bool m.ok) := c8
        replace c9 : wr.cell? ⟨gL, k * 13 + 9, none⟩ = some (.int .u8 (m.mem : Int)) := c9
        replace c10 : wr.cell? ⟨gL, k * 13 + 10, none⟩ = some (.int .u8 (m.sec : Int)) := c10
        replace c11 : wr.cell? ⟨gL, k * 13 + 11, none⟩ = some (.slice A m.ents.length cap) := c11
        replace c12 : wr.cell? ⟨gL, k * 13 + 12, none⟩ = some (.string m.body) := c12
        have hrn : ∀ w1, Below (wr.alloc (.cells (msgC m A cap) 63)).heap.size (wr.alloc (.cells (msgC m A cap) 63)) w1 → w1.heap[wr.heap.size]? = some (.cells (msgC m A cap) 63 (0, 0)) := fun w1 hb => (hb.block _ (by simp)).trans (heap_alloc_new wr _)
        have HRn := Lib.hid hrn
        clear hb hc hxx hrL hkL q1 q2 q3 hok hrn
        go_wp2_with fail
        refine (HR.out _ (bnew Hb.out _)).mono ?_
        rintro r w5 ⟨rfl, hb5⟩
        have hr5 := HRn.out w5 hb5
        have HB5 := Lib.hid (bnext (bnew Hb.out _) hb5)
        obtain ⟨f0, f1, f2, f3, f4, f5, f6, f7, f8, f9, f10, f11, f12, _⟩ := msgAt hr5
        clear hb5 hr5 c0 c1 c2 c3 c4 c5 c6 c7 c8 c9 c10 c11 c12
        go_wp2_with fail
        refine (HW.out _ HB5.out).mono ?_
        rintro r w6 ⟨rfl, hb6⟩
        have HB6 := Lib.hid (bnext HB5.out hb6)
        clear hb6
        go_wp2_with fail
        go_roundw
        case rel => exact ⟨k + 1, by omega, by go_num, HB6.out⟩
        case measure => simp [intOf]; omega
      · obtain rfl : k = 8 := by omega
        have HB := Lib.hid (bnext HS.out.1 hb)
        clear hb Hb HS HL
        go_upto_region 9 with (fail)
        have hrd := mRead_any ⟨#[]⟩ wr (by decide)
        rw [show Mg.read (⟨#[]⟩ : ByteArray).data.toList = none from rfl] at hrd
        have Hrd := Lib.hid hrd
        clear hrd HV
        go_wp2_with fail
        refine Hrd.out.mono ?_
        rintro r w7 ⟨rfl, hb7⟩
        have HB7 := Lib.hid (bnext HB.out hb7)
        have FP := msgF Mg.zero none 0
        obtain ⟨P, hP⟩ : ∃ P, P = msgC Mg.zero none 0 := ⟨_, rfl⟩
        rw [← hP] at FP ⊢
        have hst := storeMsg P FP.size FP.one
        have hps := FP.size
        clear hP FP hb7 HB
        go_upto_region 10 with (fail)
        refine forget (fun W => Below w.heap.size w W) (bnew HB7.out _) ?_
        clear hst hps HB7
        intro W9 hb9
        have HB9 := Lib.hid hb9
        have hst : ∀ (g : Nat) (W : World), (storeCells ⟨W.heap.size, 0, none⟩ (#[.int .u8 0, .int .u8 0, .int .u8 0, .int .u64 0, .int .u64 0, .int .u64 0, .int .u64 0, .int .u64 0, .bool false, .int .u8 0, .int .u8 0, .slice (some ⟨g, 0, none⟩) 0 0, .string ⟨#[]⟩] : Array Value).toList 0).run Try.prog (W.alloc (.cells #[.int .u8 0, .int .u8 0, .int .u8 0, .int .u64 0, .int .u64 0, .int .u64 0, .int .u64 0, .int .u64 0, .bool false, .int .u8 0, .int .u8 0, .slice none 0 0, .string ⟨#[]⟩] 63)) = .ok () (W.alloc (.cells #[.int .u8 0, .int .u8 0, .int .u8 0, .int .u64 0, .int .u64 0, .int .u64 0, .int .u64 0, .int .u64 0, .bool false, .int .u8 0, .int .u8 0, .slice (some ⟨g, 0, none⟩) 0 0, .string ⟨#[]⟩] 63)) := fun g W => storeMsg (msgC Mg.zero (some ⟨g, 0, none⟩) 0) rfl (msgF Mg.zero (some ⟨g, 0, none⟩) 0).one W
        clear hb9
        go_upto_region 11 with (fail)
        refine forget (fun W => Below w.heap.size w W ∧ W.heap[W9.heap.size + 1]? = some (.cells (msgC Mg.zero (some ⟨W9.heap.size, 0, none⟩) 0) 63 (0, 0))) ⟨bnew (bnew HB9.out _) _, by
          have := heap_alloc_new (W9.alloc (.cells #[] 65)) (.cells (msgC Mg.zero (some ⟨W9.heap.size, 0, none⟩) 0) 63)
          rw [World.size_alloc] at this
          exact this⟩ ?_
        rintro W10 ⟨hb10, hr10⟩
        obtain ⟨g, hg⟩ : ∃ g, g = W9.heap.size := ⟨_, rfl⟩
        rw [← hg] at hr10 ⊢
        obtain ⟨f0, f1, f2, f3, f4, f5, f6, f7, f8, f9, f10, f11, f12, _⟩ := msgAt hr10
        replace f0 : W10.cell? ⟨g + 1, 0, none⟩ = some (.int .u8 0) := f0
        replace f1 : W10.cell? ⟨g + 1, 1, none⟩ = some (.int .u8 0) := f1
        replace f2 : W10.cell? ⟨g + 1, 2, none⟩ = some (.int .u8 0) := f2
        replace f3 : W10.cell? ⟨g + 1, 3, none⟩ = some (.int .u64 0) := f3
        replace f4 : W10.cell? ⟨g + 1, 4, none⟩ = some (.int .u64 0) := f4
        replace f5 : W10.cell? ⟨g + 1, 5, none⟩ = some (.int .u64 0) := f5
        replace f6 : W10.cell? ⟨g + 1, 6, none⟩ = some (.int .u64 0) := f6
        replace f7 : W10.cell? ⟨g + 1, 7, none⟩ = some (.int .u64 0) := f7
        replace f8 : W10.cell? ⟨g + 1, 8, none⟩ = some (.bool false) := f8
        replace f9 : W10.cell? ⟨g + 1, 9, none⟩ = some (.int .u8 0) := f9
        replace f10 : W10.cell? ⟨g + 1, 10, none⟩ = some (.int .u8 0) := f10
        replace f11 : W10.cell? ⟨g + 1, 11, none⟩ = some (.slice (some ⟨g, 0, none⟩) 0 0) := f11
        replace f12 : W10.cell? ⟨g + 1, 12, none⟩ = some (.string ⟨#[]⟩) := f12
        have hS0 : ∀ W, Calls Try.prog 40 #[.agg #[.int .u8 0, .int .u8 0, .int .u8 0, .int .u64 0, .int .u64 0, .int .u64 0, .int .u64 0, .int .u64 0, .bool false, .int .u8 0, .int .u8 0, .slice (some ⟨g, 0, none⟩) 0 0, .string ⟨#[]⟩], .agg #[.int .u8 0, .int .u8 0, .int .u8 0, .int .u64 0, .int .u64 0, .int .u64 0, .int .u64 0, .int .u64 0, .bool false, .int .u8 0, .int .u8 0, .slice none 0 0, .string ⟨#[]⟩]] W fun r w' => r = .returned (.bool true) ∧ Below W.heap.size W w' := fun W => by
          have := same_any5 Mg.zero Mg.zero (some ⟨g, 0, none⟩) none 0 0 W (.inl rfl) (.inl rfl) (by decide) (by decide)
          rw [decide_eq_true rfl] at this
          exact this
        have hS1 : ∀ (W : World) (q : Nat), Lies W (some ⟨q, 0, none⟩) (ec someM.ents) → Calls Try.prog 40 #[.agg (msgC someM (some ⟨q, 0, none⟩) 1), .agg #[.int .u8 0, .int .u8 0, .int .u8 0, .int .u64 0, .int .u64 0, .int .u64 0, .int .u64 0, .int .u64 0, .bool false, .int .u8 0, .int .u8 0, .slice none 0 0, .string ⟨#[]⟩]] W fun r w' => r = .returned (.bool false) ∧ Below W.heap.size W w' := fun W q hl => by
          have := same_any5 someM Mg.zero (some ⟨q, 0, none⟩) none 1 0 W hl (.inl rfl) (by decide) (by decide)
          rw [decide_eq_false (fun e => absurd (congrArg Mg.M.kind e) (by decide))] at this
          exact this
        have HS0 := Lib.hid hS0
        have HS1 := Lib.hid hS1
        have HSo := Lib.hid someM_any
        have HB10 := Lib.hid hb10
        clear hb10 hr10 hS0 hS1 hst hg HB9
        go_wp2_with fail
        refine (HS0.out _).mono ?_
        rintro r w11 ⟨rfl, hb11⟩
        have HB11 := Lib.hid (bnext HB10.out hb11)
        clear hb11 f0 f1 f2 f3 f4 f5 f6 f7 f8 f9 f10 f11 f12
        go_wp2_with fail
        refine (HSo.out _).mono ?_
        rintro r w12 ⟨q, rfl, hl12, hb12⟩
        have HB12 := Lib.hid (bnext HB11.out hb12)
        have HC12 := Lib.hid (HS1.out w12 q hl12)
        clear hb12 hl12
        go_wp2_with fail
        refine HC12.out.mono ?_
        rintro r w13 ⟨rfl, hb13⟩
        have HB13 := Lib.hid (bnext HB12.out hb13)
        clear hb13
        go_wp2_with fail
        refine (HAw.out _).mono ?_
        rintro r w14 ⟨rfl, hb14⟩
        go_wp2_with fail
        go_ret
        exact ⟨rfl, bnext HB13.out hb14⟩
end Go.Proofs.Ytpdahbfjbgcmgaa
