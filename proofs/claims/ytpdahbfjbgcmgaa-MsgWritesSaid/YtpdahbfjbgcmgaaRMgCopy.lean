/-
  msg.Copy walked.
-/
import Derived.Test.YtpdahbfjbgcmgaaRMgRd
import Derived.Laws.Cells
import Derived.Deep.DeepCutAuto
import Derived.Deep.CutBlock
set_option linter.unusedSimpArgs false
set_option linter.unusedVariables false
namespace Go.Proofs.Ytpdahbfjbgcmgaa
open Go.RowKit
/-- Entries copied into a row of the same length. -/
theorem copyE (W : World) (q n : Nat) (es fs : List En.E) (A : Option Addr) (cap : Nat) (hn : n = es.length) (hm : fs.length = es.length) (hr : W.heap[q]? = some (.cells (ec fs).toArray 65 (0, 0))) (hA : Lies W A (ec es)) :
    (Builtin.copy_ #[61, 61] 3 #[.slice (some ⟨q, 0, none⟩) n n, .slice A n cap]).run Try.prog W = .ok (.int .i64 (n : Int)) (W.setRow q (ec es).toArray) := by
  obtain ⟨i, hq, _, hi, _⟩ := info_parts Try.infoEnt
  subst hn
  have hu : Try.prog.underlying 61 = some (.slice 65) := Try.underlying61
  by_cases he : es = []
  · subst he
    have hf : fs = [] := by simpa using hm
    subst hf
    have hs := setRow_self W q (ec []).toArray 65 (0, 0) hr
    rw [hs]
    have hl := run_loadCells_list (P := Try.prog) W
    cases A with
    | none => simp [Builtin.copy_, run_underlying hu, Builtin.lenOf, Builtin.firstCells, sizeOf, typeInfo, hq, storeCells, goInt]
    | some a =>
      have hl := run_loadCells_list (P := Try.prog) W a [] (fun j v h => by simp at h)
      simp only [List.length_nil] at hl
      simp [Builtin.copy_, run_underlying hu, Builtin.lenOf, Builtin.firstCells, sizeOf, typeInfo, hq, storeCells, goInt, hl]
  · rcases hA with hA | ⟨b, off, rfl, _, hc⟩
    · exfalso
      have := ec_length es
      rw [hA] at this
      apply he
      exact List.eq_nil_of_length_eq_zero (by simp at this; omega)
    · have hl := run_loadCells_list (P := Try.prog) W ⟨b, off, none⟩ (ec es) (fun j v h => by
        have e : (⟨b, off, none⟩ : Addr).add j = ⟨b, off + j, none⟩ := by unfold Addr.add; split <;> simp_all
        rw [e]; exact hc j v h)
      have hst := run_storeCells_at Try.prog q 0 65 (ec es) 0 (ec fs).toArray W hr (by have := ec_length fs; have := ec_length es; simp; omega) (ec_one es)
      have hfl : (ec fs).length ≤ 0 + 0 + (ec es).length := by rw [ec_length, ec_length]; omega
      rw [show (ec fs).toArray.toList = ec fs from rfl, List.drop_of_length_le hfl] at hst
      rw [show (ec fs).take (0 + 0) ++ ec es ++ [] = ec es by simp] at hst
      rw [ec_length, Nat.mul_comm] at hl
      simp [Builtin.copy_, run_underlying hu, Builtin.lenOf, Builtin.firstCells, sizeOf, typeInfo, hq, hi, hl, hst, goInt]
/-- A copy under way: the message lies in block g1, the result's row, zero, in g2, the entries in q. -/
structure CpS (w W : World) (g1 g2 q : Nat) (X : Array Value) (es : List En.E) : Prop where
  b : Below w.heap.size w W
  l1 : w.heap.size ≤ g1
  l2 : w.heap.size ≤ g2
  lq : w.heap.size ≤ q
  n1 : g1 ≠ g2
  n2 : g1 ≠ q
  n3 : g2 ≠ q
  z : W.heap[g2]? = some (.cells (msgC Mg.zero none 0) 63 (0, 0))
  r : W.heap[g1]? = some (.cells X 63 (0, 0))
  e : W.heap[q]? = some (.cells (ec es).toArray 65 (0, 0))
theorem CpS.grow {w W W' : World} {g1 g2 q : Nat} {X : Array Value} {es : List En.E} (h : CpS w W g1 g2 q X es) (k : Below W.heap.size W W') : CpS w W' g1 g2 q X es :=
  ⟨bnext h.b k, h.l1, h.l2, h.lq, h.n1, h.n2, h.n3, (k.block _ (Array.getElem?_eq_some_iff.1 h.z).1).trans h.z, (k.block _ (Array.getElem?_eq_some_iff.1 h.r).1).trans h.r, (k.block _ (Array.getElem?_eq_some_iff.1 h.e).1).trans h.e⟩
theorem CpS.put {w W : World} {g1 g2 q : Nat} {X Y : Array Value} {es : List En.E} (h : CpS w W g1 g2 q X es) (i : Nat) (v : Value) (hY : X.setIfInBounds i v = Y) : CpS w (W.setCell ⟨g1, i, none⟩ v) g1 g2 q Y es :=
  ⟨h.b.setCell (p := ⟨g1, i, none⟩) h.l1 v, h.l1, h.l2, h.lq, h.n1, h.n2, h.n3, (Below.heap_setCell _ _ _ _ (by simp; exact h.n1.symm)).trans h.z, by rw [← hY]; exact heap_setCell_same W g1 i X _ v h.r, (Below.heap_setCell _ _ _ _ (by simp; exact h.n2.symm)).trans h.e⟩
theorem ec_body (es : List En.E) (k : Nat) (hk : k < es.length) : (ec es)[k * 13 + 12]? = some (.string es[k].body) := by
  have := ec_at es k hk 12 (by omega)
  rw [Nat.mul_comm] at this
  exact this
theorem CpS.same {w W : World} {g1 g2 q : Nat} {X : Array Value} {es : List En.E} (h : CpS w W g1 g2 q X es) (k : Nat) (hk : k < es.length) : CpS w (W.setCell ⟨q, k * 13 + 12, none⟩ (.string es[k].body)) g1 g2 q X es := by
  refine ⟨h.b.setCell (p := ⟨q, _, none⟩) h.lq _, h.l1, h.l2, h.lq, h.n1, h.n2, h.n3, (Below.heap_setCell _ _ _ _ (by simp; exact h.n3)).trans h.z, (Below.heap_setCell _ _ _ _ (by simp; exact h.n2)).trans h.r, ?_⟩
  rw [heap_setCell_same W q _ _ _ _ h.e]
  congr 2
  have h1 := ec_body es k hk
  apply Array.ext_getElem?
  intro i
  rw [Array.getElem?_setIfInBounds]
  split
  · rename_i hi
    subst hi
    split
    · rw [List.getElem?_toArray, h1]
    · rename_i hn
      exfalso
      apply hn
      have := (List.getElem?_eq_some_iff.1 h1).1
      simpa using this
  · rfl
set_option maxRecDepth 100000 in
set_option maxHeartbeats 8000000 in
theorem copy_any5 (m : Mg.M) (A : Option Addr) (cap : Nat) (w : World) (hA : Lies w A (ec m.ents)) (hn : m.ents.length ≤ 1000000) (hz : m.body.size ≤ 100000000) (hes : ∀ e ∈ m.ents, e.body.size ≤ 100000000) :
    Calls Try.prog 48 #[.agg (msgC m A cap)] w fun e w' => ∃ q, e = .returned (.agg (msgC m (some ⟨q, 0, none⟩) m.ents.length)) ∧ w.heap.size ≤ q ∧ w'.heap[q]? = some (.cells (ec m.ents).toArray 65 (0, 0)) ∧ Below w.heap.size w w' := by
  have HA := Lib.hid hA
  have HCl := Lib.hid (fun s h W => stringsClone_any s W h)
  obtain ⟨i0, hi, hz0, hz1, hz2⟩ := info_parts Try.infoEnt
  have hmk : ∀ W : World, (Instr.makeSlice 61 (.int .i64 (m.ents.length : Int)) (.int .i64 (m.ents.length : Int))).run Try.prog W = .ok (.slice (some ⟨W.heap.size, 0, none⟩) m.ents.length m.ents.length) (W.alloc (.cells (ec (List.replicate m.ents.length En.zero)).toArray 65)) := fun W => by
    have := run_make (P := Try.prog) W 61 65 i0 _ Try.underlying61 hi hz0 .i64 .i64 (m.ents.length : Int) (m.ents.length : Int) (by omega) (by omega) (by rw [hz2]; omega) (by omega)
    rw [hz1] at this
    simp only [Int.toNat_natCast, Value.cells] at this
    rw [this, ← made_ec]
  have Hn := Lib.hid hn
  have Hz := Lib.hid hz
  have Hes := Lib.hid hes
  have FX := msgF m A cap
  obtain ⟨X, hX⟩ : ∃ X, X = msgC m A cap := ⟨_, rfl⟩
  rw [← hX] at FX ⊢
  have HX := Lib.hid hX
  obtain ⟨hx, _, x0, x1, x2, x3, x4, x5, x6, x7, x8, x9, x10, x11, x12⟩ := FX
  clear hA hi hz0 hz1 hz2 hX hz hes
  go_enter Try.func48, Try.ntmps48
  go_upto_region 2 with (fail)
  refine forget (fun W => CpS w W w.heap.size (w.heap.size + 1) (w.heap.size + 1 + 1) X (List.replicate m.ents.length En.zero)) ?_ ?_
  · refine ⟨bnew (bnew (bnew (Below.refl _ _) _) _) _, by omega, by omega, by omega, by omega, by omega, by omega, ?_, ?_, ?_⟩
    · have := heap_alloc_new (w.alloc (.cells X 63)) (.cells (msgC Mg.zero none 0) 63)
      rw [World.size_alloc] at this
      exact (Below.heap_alloc _ _ _ (by simp)).trans this
    · exact (Below.heap_alloc _ _ _ (by simp; omega)).trans ((Below.heap_alloc _ _ _ (by simp)).trans (heap_alloc_new w _))
    · have := heap_alloc_new ((w.alloc (.cells X 63)).alloc (.cells (msgC Mg.zero none 0) 63)) (.cells (ec (List.replicate m.ents.length En.zero)).toArray 65)
      rw [World.size_alloc, World.size_alloc] at this
      exact this
  intro W1 H1
  obtain ⟨q, hq⟩ : ∃ q, q = w.heap.size + 1 + 1 := ⟨_, rfl⟩
  obtain ⟨g2, hg2⟩ : ∃ g, g = w.heap.size + 1 := ⟨_, rfl⟩
  obtain ⟨g1, hg1⟩ : ∃ g, g = w.heap.size := ⟨_, rfl⟩
  rw [← hq, ← hg2, ← hg1] at H1 ⊢
  clear hq hg2 hg1 x0 x1 x2 x3 x4 x5 x6 x7 x8 x9 x10 x11 x12 hmk
  have hcp := copyE W1 q m.ents.length m.ents _ A cap rfl (by rw [List.length_replicate]) H1.e (HA.out.below H1.b)
  have hr2 := setRow_heap W1 q _ (ec m.ents).toArray 65 (0, 0) H1.e
  have c11 : W1.cell? ⟨g1, 11, none⟩ = some (.slice A m.ents.length cap) := by
    have h := cell_of_row W1 g1 11 _ _ _ H1.r
    rw [HX.out] at h; exact h
  have H2 : Hid (CpS w (W1.setRow q (ec m.ents).toArray) g1 g2 q X m.ents) := Lib.hid
    ⟨⟨H1.b.os, H1.b.tape, H1.b.output, by simpa using H1.b.size, fun k hk => (setRow_other _ _ _ _ (by have := H1.lq; omega)).trans (H1.b.block k hk)⟩, H1.l1, H1.l2, H1.lq, H1.n1, H1.n2, H1.n3, (setRow_other _ _ _ _ H1.n3).trans H1.z, (setRow_other _ _ _ _ H1.n2).trans H1.r, hr2⟩
  clear hr2 H1
  go_wp2_with fail
  obtain ⟨W2, hW2⟩ : ∃ W2, W2 = W1.setRow q (ec m.ents).toArray := ⟨_, rfl⟩
  rw [← hW2] at H2 ⊢
  clear hW2 hcp c11
  go_loopw [15] (fun i wr => ∃ k : Nat, k ≤ m.ents.length ∧ i = .int .i64 (k : Int) ∧ CpS w wr g1 g2 q X m.ents) (fun i _ => m.ents.length - (intOf i).toNat)
  case atStart => exact ⟨0, Nat.zero_le _, rfl, H2.out⟩
  case round =>
    obtain ⟨k, hk, rfl, hS⟩ := hrel
    have HS := Lib.hid hS
    clear hS
    by_cases hlt : k < m.ents.length
    · have hcl := HCl.out m.ents[k].body (by have := Hes.out _ (List.getElem_mem hlt); omega) wr
      have hc := cell_of_row wr q (k * 13 + 12) _ _ _ HS.out.e
      rw [List.getElem?_toArray, ec_body m.ents k hlt] at hc
      have HSm : Hid (∀ W, CpS w W g1 g2 q X m.ents → CpS w (W.setCell ⟨q, k * 13 + 12, none⟩ (.string m.ents[k].body)) g1 g2 q X m.ents) := Lib.hid (fun W h => h.same k hlt)
      have HF : Hid (∀ W, CpS w W g1 g2 q X m.ents → W.cell? ⟨q, k * 13 + 12, none⟩ = some (.string m.ents[k].body) ∧ W.frozen? ⟨q, k * 13 + 12, none⟩ = false) := Lib.hid (fun W h => by
        have hc := cell_of_row W q (k * 13 + 12) _ _ _ h.e
        rw [List.getElem?_toArray, ec_body m.ents k hlt] at hc
        exact ⟨hc, frozen_of_row W q _ _ _ h.e⟩)
      obtain ⟨s, hs⟩ : ∃ s, s = m.ents[k].body := ⟨_, rfl⟩
      rw [← hs] at hcl hc HSm HF
      have HC := Lib.hid hcl
      clear hcl hs
      go_wp2_with fail
      refine HC.out.mono ?_
      rintro r w3 ⟨rfl, hb3⟩
      have H3 := Lib.hid (HS.out.grow hb3)
      obtain ⟨d1, d2⟩ := HF.out w3 H3.out
      clear hb3
      go_wp2_with fail
      go_roundw
      case rel => exact ⟨k + 1, by omega, by go_num, HSm.out w3 H3.out⟩
      case measure => simp [intOf]; omega
    · obtain rfl : k = m.ents.length := by omega
      have hrow := HS.out.r
      rw [HX.out] at hrow
      have c11 := (msgAt hrow).c11
      have z11 := (msgAt hrow).fz 11
      have Hbd := Lib.hid (Hz.out)
      clear hrow
      go_upto_region 9 with (fail)
      refine forget (fun W => CpS w W g1 g2 q (msgC m (some ⟨q, 0, none⟩) m.ents.length) m.ents) (HS.out.put 11 _ (by rw [HX.out]; rfl)) ?_
      intro W4 H4
      have HH4 := Lib.hid H4
      have hcl := HCl.out m.body (by have := Hz.out; omega) W4
      have HC := Lib.hid hcl
      have c12 := (msgAt H4.r).c12
      clear c11 z11 H4 hcl
      go_wp2_with fail
      refine HC.out.mono ?_
      rintro r W5 ⟨rfl, hb5⟩
      have H5 := Lib.hid (HH4.out.grow hb5)
      have d12 := (msgAt H5.out.r).c12
      have z12 := (msgAt H5.out.r).fz 12
      clear hb5 c12
      go_upto_region 10 with (fail)
      refine forget (fun W => CpS w W g1 g2 q (msgC m (some ⟨q, 0, none⟩) m.ents.length) m.ents) (H5.out.put 12 _ rfl) ?_
      intro W6 H6
      have HH6 := Lib.hid H6
      obtain ⟨e0, e1, e2, e3, e4, e5, e6, e7, e8, e9, e10, e11, e12, _⟩ := msgAt H6.r
      obtain ⟨p0, p1, p2, p3, p4, p5, p6, p7, p8, p9, p10, p11, p12, pz⟩ := msgAt H6.z
      have y0 := pz 0
      have y1 := pz 1
      have y2 := pz 2
      have y3 := pz 3
      have y4 := pz 4
      have y5 := pz 5
      have y6 := pz 6
      have y7 := pz 7
      have y8 := pz 8
      have y9 := pz 9
      have y10 := pz 10
      have y11 := pz 11
      have y12 := pz 12
      clear pz H6 d12 z12
      go_wp2_with fail
      refine bodyPost_ret (results_cell_row (P := Try.prog) (fn := Try.f48) rfl _ _ g2 63 (msgC m (some ⟨q, 0, none⟩) m.ents.length) (0, 0) _ rfl (msgPut (m := m) (A := some ⟨q, 0, none⟩) (cap := m.ents.length) HH6.out.z) Try.underlying63 rfl sizeMsg) rfl ?_
      exact ⟨q, rfl, HH6.out.lq, (msgOther (m := m) (A := some ⟨q, 0, none⟩) (cap := m.ents.length) HH6.out.n3.symm).trans HH6.out.e, msgBelow (m := m) (A := some ⟨q, 0, none⟩) (cap := m.ents.length) HH6.out.b HH6.out.l2⟩
end Go.Proofs.Ytpdahbfjbgcmgaa
