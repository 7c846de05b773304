/-
  EntryKnown walked. WRITTEN BY wip/tools/gen_enknown.py.
-/
import Derived.Test.YtkghldobefgjeaaREnBackH
set_option linter.unusedSimpArgs false
set_option linter.unusedVariables false
namespace Go.Proofs.Ytkghldobefgjeaa
open Go.RowKit
set_option linter.unusedVariables false
/-- Entries as cells. -/
def ec (es : List En.E) : List Value := (es.map fun e => (entC e).toList).flatten
theorem ec_at : ∀ (es : List En.E) (i : Nat) (h : i < es.length) (j : Nat), j < 13 → (ec es)[i * 13 + j]? = (entC es[i])[j]?
  | e :: es, 0, _, j, hj => by
    have h0 : (entC e).toList.length = 13 := rfl
    show ((entC e).toList ++ ec es)[0 * 13 + j]? = _
    rw [List.getElem?_append_left (by omega), Nat.zero_mul, Nat.zero_add, Array.getElem?_toList]
    rfl
  | e :: es, i + 1, h, j, hj => by
    have h0 : (entC e).toList.length = 13 := rfl
    have := ec_at es i (by simpa using h) j hj
    show ((entC e).toList ++ ec es)[(i + 1) * 13 + j]? = _
    rw [List.getElem?_append_right (by omega), h0, show (i + 1) * 13 + j - 13 = i * 13 + j by omega, this]
    rfl
def bads : List En.E := [En.zero, ⟨0, 1, 1, 0, Og.Tk.zero, Cm.e0⟩, ⟨1, 0, 1, 0, Og.Tk.zero, Cm.e0⟩, ⟨1, 1, 6, 0, Og.Tk.zero, Cm.e0⟩, ⟨1, 1, 2, 0, Og.Tk.zero, ⟨#[32]⟩⟩, ⟨1, 1, 2, 0, Og.Tk.zero, Cm.e0⟩, ⟨1, 1, 5, 1, Og.Tk.zero, Cm.e0⟩, ⟨1, 1, 3, 4, Og.Tk.zero, Cm.e0⟩, ⟨1, 1, 4, 0, ⟨1, 0, 0, 0, 0, 0, 0, 0⟩, Cm.e0⟩, ⟨1, 1, 1, 0, Og.Tk.zero, ⟨#[120]⟩⟩]
theorem bads_may : ∀ e ∈ bads, En.may e = false := by
  have h : bads.all (fun e => !En.may e) = true := by decide +kernel
  intro e he
  have := List.all_eq_true.1 h e he
  simpa using this
theorem bads_fit : ∀ e ∈ bads, En.Fits e ∧ e.body.size ≤ 1000000 := by
  have h : bads.all (fun e => decide (e.idx ≤ 1000) && decide (e.trm ≤ 1000) && decide (e.kind < 256) && decide (e.slot < 256) && decide (e.body.size ≤ 1000000)) = true := by decide +kernel
  intro e he
  have := List.all_eq_true.1 h e he
  simp only [Bool.and_eq_true, decide_eq_true_eq] at this
  obtain ⟨⟨⟨⟨h1, h2⟩, h3⟩, h4⟩, h5⟩ := this
  exact ⟨⟨top_pos4 h1, top_pos4 h2, h3, h4⟩, h5⟩
theorem knW1 (W : World) : Calls Try.prog 37 #[.agg #[.int .u64 1, .int .u64 2, .int .u8 1, .int .u8 0, .int .u8 0, .int .u8 0, .int .u8 0, .int .u8 0, .int .u8 0, .int .u8 0, .int .u8 0, .int .u8 0, .string ⟨#[]⟩]] W fun r w' => r = .returned (.string ⟨#[1, 1, 2]⟩) ∧ Below W.heap.size W w' := by
  have := write_any ⟨1, 2, 1, 0, Og.Tk.zero, Cm.e0⟩ ⟨top_pos4 (by decide), top_pos4 (by decide), by decide, by decide⟩ (by decide) W
  unfold RetS at this
  rw [show En.write ⟨1, 2, 1, 0, Og.Tk.zero, Cm.e0⟩ = [1, 1, 2] by decide +kernel] at this
  exact this
theorem knW2 (W : World) : Calls Try.prog 37 #[.agg #[.int .u64 128, .int .u64 2, .int .u8 2, .int .u8 0, .int .u8 0, .int .u8 0, .int .u8 0, .int .u8 0, .int .u8 0, .int .u8 0, .int .u8 0, .int .u8 0, .string ⟨#[7]⟩]] W fun r w' => r = .returned (.string ⟨#[2, 129, 0, 2, 1, 7]⟩) ∧ Below W.heap.size W w' := by
  have := write_any ⟨128, 2, 2, 0, Og.Tk.zero, ⟨#[7]⟩⟩ ⟨top_pos4 (by decide), top_pos4 (by decide), by decide, by decide⟩ (by decide) W
  unfold RetS at this
  rw [show En.write ⟨128, 2, 2, 0, Og.Tk.zero, ⟨#[7]⟩⟩ = [2, 129, 0, 2, 1, 7] by decide +kernel] at this
  exact this
theorem knJ (n k : Nat) (h : n < 256) (e : En.maj n = k) (W : World) : Calls Try.prog 40 #[.int .u8 (n : Int)] W fun r w' => r = .returned (.int .i64 (k : Int)) ∧ Below W.heap.size W w' := by
  have := majority_any n h W
  rw [e] at this; exact this
theorem knM (n k : Nat) (h : n < 256) (e : (En.mem5 n).length = k) (W : World) : Calls Try.prog 41 #[.int .u8 (n : Int)] W fun r w' => ∃ A cap, r = .returned (.slice A k cap) ∧ Below W.heap.size W w' := by
  refine (members_any n h W).mono ?_
  rintro r w' ⟨A, cap, rfl, _, hb⟩
  exact ⟨A, cap, by rw [e], hb⟩
theorem knR (W : World) : Calls Try.prog 39 #[.string ⟨#[]⟩] W fun r w' => r = .returned (.tuple #[.agg (entC En.zero), .bool false]) ∧ Below W.heap.size W w' := by
  have := enRead_any ⟨#[]⟩ W (by decide)
  rw [show En.read (⟨#[]⟩ : ByteArray).data.toList = none from rfl] at this
  exact this
set_option maxRecDepth 100000 in
set_option maxHeartbeats 8000000 in
theorem entryKnown_walk (w : World) : Calls Try.prog 10 #[] w fun r w' => r = .returned (.bool true) ∧ Below w.heap.size w w' := by
  have HA := Lib.hid entAwake_any
  have W1 := Lib.hid knW1
  have W2 := Lib.hid knW2
  have J3 : Hid (∀ W, Calls Try.prog 40 #[.int .u8 3] W fun r w' => r = .returned (.int .i64 2) ∧ Below W.heap.size W w') := Lib.hid (knJ 3 2 (by decide) (by decide +kernel))
  have J31 : Hid (∀ W, Calls Try.prog 40 #[.int .u8 31] W fun r w' => r = .returned (.int .i64 3) ∧ Below W.heap.size W w') := Lib.hid (knJ 31 3 (by decide) (by decide +kernel))
  have J0 : Hid (∀ W, Calls Try.prog 40 #[.int .u8 0] W fun r w' => r = .returned (.int .i64 1) ∧ Below W.heap.size W w') := Lib.hid (knJ 0 1 (by decide) (by decide +kernel))
  have J224 : Hid (∀ W, Calls Try.prog 40 #[.int .u8 224] W fun r w' => r = .returned (.int .i64 1) ∧ Below W.heap.size W w') := Lib.hid (knJ 224 1 (by decide) (by decide +kernel))
  have M0 : Hid (∀ W, Calls Try.prog 41 #[.int .u8 0] W fun r w' => ∃ A cap, r = .returned (.slice A 0 cap) ∧ Below W.heap.size W w') := Lib.hid (knM 0 0 (by decide) (by decide +kernel))
  have M255 : Hid (∀ W, Calls Try.prog 41 #[.int .u8 255] W fun r w' => ∃ A cap, r = .returned (.slice A 5 cap) ∧ Below W.heap.size W w') := Lib.hid (knM 255 5 (by decide) (by decide +kernel))
  have HR0 := knR
  have F1 := entF En.zero
  obtain ⟨P1, hP1⟩ : ∃ P, P = entC En.zero := ⟨_, rfl⟩
  rw [← hP1] at F1 HR0
  have hst1 := storeEnt P1 F1.size F1.one
  have hs1 := F1.size
  have HR := Lib.hid HR0
  clear F1 hP1 HR0
  go_enter Try.func10, Try.ntmps10
  go_wp2_with fail
  refine (W1.out _).mono ?_
  rintro r w1 ⟨rfl, hb1⟩
  have HB1 := Lib.hid hb1
  clear hb1
  go_wp2_with fail
  refine (W2.out _).mono ?_
  rintro r w2 ⟨rfl, hb2⟩
  have HB2 := Lib.hid (bnext HB1.out hb2)
  clear hb2 HB1
  go_wp2_with fail
  refine forget (fun W => Below w.heap.size w W ∧ w2.heap.size < W.heap.size ∧ ∀ i j u, i < 10 → j < 13 → (ec bads)[i * 13 + j]? = some u → W.cell? ⟨w2.heap.size, i * 13 + j, none⟩ = some u) ⟨bnew HB2.out _, by simp, fun i j u hi hj hu => ?_⟩ ?_
  · rw [cell_of_row _ w2.heap.size (i * 13 + j) _ _ _ (heap_alloc_new w2 _), ← Array.getElem?_toList]
    exact hu
  rintro W3 ⟨hb3, hlt3, hc3⟩
  obtain ⟨g, hg⟩ : ∃ g, g = w2.heap.size := ⟨_, rfl⟩
  rw [← hg] at hc3 hlt3 ⊢
  have HB3 := Lib.hid hb3
  have HC3 := Lib.hid hc3
  have HG := Lib.hid hlt3
  clear hg hb3 hc3 HB2 hlt3
  go_loopw [26] (fun i wr => ∃ k : Nat, k ≤ 10 ∧ i = .int .i64 (k : Int) ∧ Below W3.heap.size W3 wr) (fun i _ => 10 - (intOf i).toNat)
  case atStart => exact ⟨0, by omega, rfl, Below.refl _ _⟩
  case round =>
    obtain ⟨k, hk, rfl, hbk⟩ := hrel
    have Hbk := Lib.hid hbk
    clear hbk
    by_cases hlt : k < 10
    · obtain ⟨e, he⟩ : ∃ e, e = bads[k]'hlt := ⟨_, rfl⟩
      have hmem : e ∈ bads := by rw [he]; exact List.getElem_mem hlt
      have hfit := bads_fit e hmem
      have hB := backC e hfit.1 hfit.2
      have hmay := bads_may e hmem
      have hwr : En.write e = [] := by unfold En.write; rw [hmay]; rfl
      rw [hmay, hwr] at hB
      have HB := Lib.hid hB
      have hcell : ∀ j u, j < 13 → (entC e)[j]? = some u → wr.cell? ⟨g, k * 13 + j, none⟩ = some u := fun j u hj hu => by
        refine later Hbk.out (HC3.out k j u hlt hj ?_)
        rw [ec_at bads k hlt j hj, ← he]; exact hu
      have c0 : wr.cell? ⟨g, k * 13, none⟩ = some (.int .u64 (e.idx : Int)) := hcell 0 _ (by omega) rfl
      have c1 : wr.cell? ⟨g, k * 13 + 1, none⟩ = some (.int .u64 (e.trm : Int)) := hcell 1 _ (by omega) rfl
      have c2 : wr.cell? ⟨g, k * 13 + 2, none⟩ = some (.int .u8 (e.kind : Int)) := hcell 2 _ (by omega) rfl
      have c3 : wr.cell? ⟨g, k * 13 + 3, none⟩ = some (.int .u8 (e.slot : Int)) := hcell 3 _ (by omega) rfl
      have c4 : wr.cell? ⟨g, k * 13 + 4, none⟩ = some (.int .u8 (e.tok.a0.toNat : Int)) := hcell 4 _ (by omega) rfl
      have c5 : wr.cell? ⟨g, k * 13 + 5, none⟩ = some (.int .u8 (e.tok.a1.toNat : Int)) := hcell 5 _ (by omega) rfl
      have c6 : wr.cell? ⟨g, k * 13 + 6, none⟩ = some (.int .u8 (e.tok.a2.toNat : Int)) := hcell 6 _ (by omega) rfl
      have c7 : wr.cell? ⟨g, k * 13 + 7, none⟩ = some (.int .u8 (e.tok.a3.toNat : Int)) := hcell 7 _ (by omega) rfl
      have c8 : wr.cell? ⟨g, k * 13 + 8, none⟩ = some (.int .u8 (e.tok.a4.toNat : Int)) := hcell 8 _ (by omega) rfl
      have c9 : wr.cell? ⟨g, k * 13 + 9, none⟩ = some (.int .u8 (e.tok.a5.toNat : Int)) := hcell 9 _ (by omega) rfl
      have c10 : wr.cell? ⟨g, k * 13 + 10, none⟩ = some (.int .u8 (e.tok.a6.toNat : Int)) := hcell 10 _ (by omega) rfl
      have c11 : wr.cell? ⟨g, k * 13 + 11, none⟩ = some (.int .u8 (e.tok.a7.toNat : Int)) := hcell 11 _ (by omega) rfl
      have c12 : wr.cell? ⟨g, k * 13 + 12, none⟩ = some (.string e.body) := hcell 12 _ (by omega) rfl
      have F := entF e
      have hst := storeEnt (entC e) F.size F.one
      unfold entC at hst
      have k0 : (0 : Int) ≤ (k : Int) := by omega
      have k1 : (k : Int) < 10 := by omega
      have HRow := Lib.hid (fun W : World => (show RowE (W.alloc (.cells (entC e) 62)) W.heap.size (entC e) from RowE.new W _))
      clear he hmem hfit hB hmay hwr hcell F
      go_wp2_with fail
      refine (HB.out.R _).mono ?_
      rintro r w5 ⟨rfl, hb5⟩
      have hr5 := (HRow.out wr).below hb5
      obtain ⟨k0', k1', k2', k3', k4', k5', k6', k7', k8', k9', k10', k11', k12', _⟩ := hr5.at_
      have HB5 := Lib.hid (bnext (bnew Hbk.out (.cells (entC e) 62)) hb5)
      clear hb5 hr5 c0 c1 c2 c3 c4 c5 c6 c7 c8 c9 c10 c11 c12
      go_wp2_with fail
      refine (HB.out.W _).mono ?_
      rintro r w6 ⟨rfl, hb6⟩
      have HB6 := Lib.hid (bnext HB5.out hb6)
      clear hb6 k0' k1' k2' k3' k4' k5' k6' k7' k8' k9' k10' k11' k12'
      go_wp2_with fail
      go_roundw
      case rel => exact ⟨k + 1, by omega, by go_num, HB6.out⟩
      case measure => simp [intOf]; omega
    · obtain rfl : k = 10 := by omega
      go_wp2_with fail
      refine (HR.out _).mono ?_
      rintro r w5 ⟨rfl, hb5⟩
      have HB5 := Lib.hid (bnext (bnext HB3.out Hbk.out) hb5)
      clear hb5
      go_wp2_with fail
      refine (J3.out _).mono ?_
      rintro r w6 ⟨rfl, hb6⟩
      have HB6 := Lib.hid (bnext (bnew HB5.out _) hb6)
      clear hb6
      go_wp2_with fail
      refine (J31.out _).mono ?_
      rintro r w7 ⟨rfl, hb7⟩
      have HB7 := Lib.hid (bnext (HB6.out) hb7)
      clear hb7
      go_wp2_with fail
      refine (J0.out _).mono ?_
      rintro r w8 ⟨rfl, hb8⟩
      have HB8 := Lib.hid (bnext (HB7.out) hb8)
      clear hb8
      go_wp2_with fail
      refine (J224.out _).mono ?_
      rintro r w9 ⟨rfl, hb9⟩
      have HB9 := Lib.hid (bnext (HB8.out) hb9)
      clear hb9
      go_wp2_with fail
      refine (M0.out _).mono ?_
      rintro r w10 ⟨A10, cap10, rfl, hb10⟩
      have HB10 := Lib.hid (bnext (HB9.out) hb10)
      clear hb10
      go_wp2_with fail
      refine (M255.out _).mono ?_
      rintro r w11 ⟨A11, cap11, rfl, hb11⟩
      have HB11 := Lib.hid (bnext (HB10.out) hb11)
      clear hb11
      go_wp2_with fail
      refine (HA.out _).mono ?_
      rintro r w12 ⟨rfl, hb12⟩
      have HB12 := Lib.hid (bnext (HB11.out) hb12)
      clear hb12
      go_wp2_with fail
      go_ret
      exact ⟨rfl, HB12.out⟩
end Go.Proofs.Ytkghldobefgjeaa
