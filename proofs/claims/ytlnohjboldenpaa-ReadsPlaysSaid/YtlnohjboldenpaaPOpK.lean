/-
  Small words for opening arguments.
  How entries are opened as arguments. WRITTEN BY wip/tools/gen_enopen.py.
-/
import Derived.Test.YtlnohjboldenpaaPOpen
import Derived.Test.YtlnohjboldenpaaPEnA
import Derived.OpenShut
import Derived.Deep.Fields
set_option linter.unusedSimpArgs false
set_option linter.unusedVariables false
namespace Go.Proofs.Ytlnohjboldenpaa
open Go.ChangeShapes Go.WideShapes Go.ChangeAt Go.RowKit Go.Deep
set_option linter.unusedVariables false
theorem u8_nat {n : Int} (h : (Lit.int .u8 n).wf = true) : ∃ k : Nat, n = (k : Int) ∧ k < 256 := by
  have := bounds_u8 h
  exact ⟨n.toNat, by omega, by omega⟩
theorem u16_nat {n : Int} (h : (Lit.int .u16 n).wf = true) : ∃ k : Nat, n = (k : Int) ∧ k < 65536 := by
  have := bounds_u16 h
  exact ⟨n.toNat, by omega, by omega⟩
theorem drop_one {L : List Value} {k : Nat} {v : Value} (h : (L.drop k).take 1 = [v]) : L[k]? = some v := by
  have := congrArg (fun l => l[0]?) h
  simpa using this
theorem u8_byte {k : Nat} (h : k < 256) : ∃ a : UInt8, k = a.toNat := ⟨UInt8.ofNat k, by simp; omega⟩
end Go.Proofs.Ytlnohjboldenpaa
namespace Go.Proofs.Ytlnohjboldenpaa
open Go.ChangeShapes Go.WideShapes Go.ChangeAt Go.RowKit Go.Deep
set_option maxRecDepth 100000 in
theorem open_entry {H : Type} {enc : TypeId × Value → H} {W : World} {cs : Array Value} {d : DataW H} {ps : List MemPlace} (h : DataW.Trod enc Try.prog W 0 (fun _ => true) true 49 (.agg cs) d ps) :
    ∃ e : En.E, cs = entC e ∧ En.Fits e ∧ e.body.size ≤ maxLen := by
  obtain ⟨fuel, hf0⟩ := h
  obtain ⟨ys, n, _, _, hl, hyl, hf⟩ := DataW.trod_struct Try.underlying49 hf0
  have hC : Try.prog.cellsOf 49 = 13 := by kernel_rfl
  have h5 : Try.prog.cellsOf 5 = 1 := by kernel_rfl
  have h6 : Try.prog.cellsOf 22 = 1 := by kernel_rfl
  have h9 : Try.prog.cellsOf 9 = 1 := by kernel_rfl
  have h31 : Try.prog.cellsOf 47 = 8 := by kernel_rfl
  rw [hC] at hl
  have hs : cs.size = 13 := hl
  have hy9 : ys.length = 6 := hyl
  obtain ⟨L, hL⟩ : ∃ L, L = (Value.agg cs).cells.toList := ⟨_, rfl⟩
  have hLc : ∀ j v, L[j]? = some v → cs[j]? = some v := fun j v hv => by rw [hL] at hv; rw [← Array.getElem?_toList]; exact hv
  rw [← hL] at hf
  have g0 : DataW.trod enc Try.prog W 0 (fun _ => true) true n 22 ((L.drop 0).take (Try.prog.cellsOf 22)) = ys[0]? := hf 0 _ rfl
  rw [List.getElem?_eq_getElem (by omega)] at g0
  rw [h6] at g0
  obtain ⟨i0, hc0, _, wf0⟩ := DataW.trod_int (t := 22) Try.underlying22 g0
  have e0 := hLc _ _ (drop_one hc0)
  obtain ⟨k0, rfl, z0⟩ := u64_nat wf0
  have g1 : DataW.trod enc Try.prog W 0 (fun _ => true) true n 22 ((L.drop 1).take (Try.prog.cellsOf 22)) = ys[1]? := hf 1 _ rfl
  rw [List.getElem?_eq_getElem (by omega)] at g1
  rw [h6] at g1
  obtain ⟨i1, hc1, _, wf1⟩ := DataW.trod_int (t := 22) Try.underlying22 g1
  have e1 := hLc _ _ (drop_one hc1)
  obtain ⟨k1, rfl, z1⟩ := u64_nat wf1
  have g2 : DataW.trod enc Try.prog W 0 (fun _ => true) true n 5 ((L.drop 2).take (Try.prog.cellsOf 5)) = ys[2]? := hf 2 _ rfl
  rw [List.getElem?_eq_getElem (by omega)] at g2
  rw [h5] at g2
  obtain ⟨i2, hc2, _, wf2⟩ := DataW.trod_int (t := 5) Try.underlying5 g2
  have e2 := hLc _ _ (drop_one hc2)
  obtain ⟨k2, rfl, z2⟩ := u8_nat wf2
  have g3 : DataW.trod enc Try.prog W 0 (fun _ => true) true n 5 ((L.drop 3).take (Try.prog.cellsOf 5)) = ys[3]? := hf 3 _ rfl
  rw [List.getElem?_eq_getElem (by omega)] at g3
  rw [h5] at g3
  obtain ⟨i3, hc3, _, wf3⟩ := DataW.trod_int (t := 5) Try.underlying5 g3
  have e3 := hLc _ _ (drop_one hc3)
  obtain ⟨k3, rfl, z3⟩ := u8_nat wf3
  have g4 : DataW.trod enc Try.prog W 0 (fun _ => true) true n 47 ((L.drop 4).take (Try.prog.cellsOf 47)) = ys[4]? := hf 4 _ rfl
  rw [List.getElem?_eq_getElem (by omega)] at g4
  rw [h31] at g4
  obtain ⟨xs, m, _, _, _, hxl, hat⟩ := DataW.trod_array Try.underlying47 g4
  have p0 := hat 0 (by omega)
  rw [h5, List.getElem?_eq_getElem (by omega)] at p0
  obtain ⟨u0, hd0, _, uw0⟩ := DataW.trod_int (t := 5) Try.underlying5 p0
  obtain ⟨v0, rfl, y0⟩ := u8_nat uw0
  obtain ⟨a0, rfl⟩ := u8_byte y0
  have t0 : cs[4]? = some _ := hLc 4 _ (by have := drop_one hd0; simpa using this)
  have p1 := hat 1 (by omega)
  rw [h5, List.getElem?_eq_getElem (by omega)] at p1
  obtain ⟨u1, hd1, _, uw1⟩ := DataW.trod_int (t := 5) Try.underlying5 p1
  obtain ⟨v1, rfl, y1⟩ := u8_nat uw1
  obtain ⟨a1, rfl⟩ := u8_byte y1
  have t1 : cs[5]? = some _ := hLc 5 _ (by have := drop_one hd1; simpa using this)
  have p2 := hat 2 (by omega)
  rw [h5, List.getElem?_eq_getElem (by omega)] at p2
  obtain ⟨u2, hd2, _, uw2⟩ := DataW.trod_int (t := 5) Try.underlying5 p2
  obtain ⟨v2, rfl, y2⟩ := u8_nat uw2
  obtain ⟨a2, rfl⟩ := u8_byte y2
  have t2 : cs[6]? = some _ := hLc 6 _ (by have := drop_one hd2; simpa using this)
  have p3 := hat 3 (by omega)
  rw [h5, List.getElem?_eq_getElem (by omega)] at p3
  obtain ⟨u3, hd3, _, uw3⟩ := DataW.trod_int (t := 5) Try.underlying5 p3
  obtain ⟨v3, rfl, y3⟩ := u8_nat uw3
  obtain ⟨a3, rfl⟩ := u8_byte y3
  have t3 : cs[7]? = some _ := hLc 7 _ (by have := drop_one hd3; simpa using this)
  have p4 := hat 4 (by omega)
  rw [h5, List.getElem?_eq_getElem (by omega)] at p4
  obtain ⟨u4, hd4, _, uw4⟩ := DataW.trod_int (t := 5) Try.underlying5 p4
  obtain ⟨v4, rfl, y4⟩ := u8_nat uw4
  obtain ⟨a4, rfl⟩ := u8_byte y4
  have t4 : cs[8]? = some _ := hLc 8 _ (by have := drop_one hd4; simpa using this)
  have p5 := hat 5 (by omega)
  rw [h5, List.getElem?_eq_getElem (by omega)] at p5
  obtain ⟨u5, hd5, _, uw5⟩ := DataW.trod_int (t := 5) Try.underlying5 p5
  obtain ⟨v5, rfl, y5⟩ := u8_nat uw5
  obtain ⟨a5, rfl⟩ := u8_byte y5
  have t5 : cs[9]? = some _ := hLc 9 _ (by have := drop_one hd5; simpa using this)
  have p6 := hat 6 (by omega)
  rw [h5, List.getElem?_eq_getElem (by omega)] at p6
  obtain ⟨u6, hd6, _, uw6⟩ := DataW.trod_int (t := 5) Try.underlying5 p6
  obtain ⟨v6, rfl, y6⟩ := u8_nat uw6
  obtain ⟨a6, rfl⟩ := u8_byte y6
  have t6 : cs[10]? = some _ := hLc 10 _ (by have := drop_one hd6; simpa using this)
  have p7 := hat 7 (by omega)
  rw [h5, List.getElem?_eq_getElem (by omega)] at p7
  obtain ⟨u7, hd7, _, uw7⟩ := DataW.trod_int (t := 5) Try.underlying5 p7
  obtain ⟨v7, rfl, y7⟩ := u8_nat uw7
  obtain ⟨a7, rfl⟩ := u8_byte y7
  have t7 : cs[11]? = some _ := hLc 11 _ (by have := drop_one hd7; simpa using this)
  have g5 : DataW.trod enc Try.prog W 0 (fun _ => true) true n 9 ((L.drop 12).take (Try.prog.cellsOf 9)) = ys[5]? := hf 5 _ rfl
  rw [List.getElem?_eq_getElem (by omega)] at g5
  rw [h9] at g5
  obtain ⟨s5, hc5, _, z5⟩ := DataW.trod_string (t := 9) Try.underlying9 g5
  have e5 := hLc _ _ (drop_one hc5)
  refine ⟨⟨k0, k1, k2, k3, ⟨a0, a1, a2, a3, a4, a5, a6, a7⟩, s5⟩, ?_, ⟨z0, z1, z2, z3⟩, z5⟩
  apply Array.ext_getElem?
  intro i
  by_cases hi : i < 13
  · have hall : i = 0 ∨ i = 1 ∨ i = 2 ∨ i = 3 ∨ i = 4 ∨ i = 5 ∨ i = 6 ∨ i = 7 ∨ i = 8 ∨ i = 9 ∨ i = 10 ∨ i = 11 ∨ i = 12 := by omega
    rcases hall with rfl | rfl | rfl | rfl | rfl | rfl | rfl | rfl | rfl | rfl | rfl | rfl | rfl
    · exact e0
    · exact e1
    · exact e2
    · exact e3
    · exact t0
    · exact t1
    · exact t2
    · exact t3
    · exact t4
    · exact t5
    · exact t6
    · exact t7
    · exact e5
  · rw [Array.getElem?_eq_none (by omega), Array.getElem?_eq_none (by simp [entC]; omega)]
end Go.Proofs.Ytlnohjboldenpaa
