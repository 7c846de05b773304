/-
  How operator's commands are opened as arguments. WRITTEN BY wip/tools/gen_oopen.py.
-/
import Derived.Test.YtpdahbfjbgcmgaaSOpen
import Derived.Test.YtpdahbfjbgcmgaaSOpB
import Derived.OpenShut
set_option linter.unusedSimpArgs false
set_option linter.unusedVariables false
namespace Go.Proofs.Ytpdahbfjbgcmgaa
open Go.ChangeShapes Go.WideShapes Go.ChangeAt Go.RowKit Go.Deep
theorem i64_in {n : Int} (h : (Lit.int .i64 n).wf = true) : -9223372036854775808 ≤ n ∧ n < 9223372036854775808 := by
  have := bounds_i64 h; omega
set_option maxRecDepth 100000 in
theorem open_oper {H : Type} {enc : TypeId × Value → H} {W : World} {cs : Array Value} {d : DataW H} {ps : List MemPlace} (h : DataW.Trod enc Try.prog W 0 (fun _ => true) true 33 (.agg cs) d ps) :
    ∃ c : Og.Oper, cs = operC c ∧ Og.Fits c := by
  obtain ⟨fuel, hf0⟩ := h
  obtain ⟨ys, n, _, _, hl, hyl, hf⟩ := DataW.trod_struct Try.underlying33 hf0
  have hC : Try.prog.cellsOf 33 = 16 := by kernel_rfl
  have h5 : Try.prog.cellsOf 5 = 1 := by kernel_rfl
  have h3 : Try.prog.cellsOf 3 = 1 := by kernel_rfl
  have h31 : Try.prog.cellsOf 31 = 8 := by kernel_rfl
  rw [hC] at hl
  have hs : cs.size = 16 := hl
  have hy9 : ys.length = 9 := hyl
  obtain ⟨L, hL⟩ : ∃ L, L = (Value.agg cs).cells.toList := ⟨_, rfl⟩
  have hLc : ∀ j v, L[j]? = some v → cs[j]? = some v := fun j v hv => by rw [hL] at hv; rw [← Array.getElem?_toList]; exact hv
  rw [← hL] at hf
  have g0 : DataW.trod enc Try.prog W 0 (fun _ => true) true n 5 ((L.drop 0).take (Try.prog.cellsOf 5)) = ys[0]? := hf 0 _ rfl
  rw [List.getElem?_eq_getElem (by omega)] at g0
  rw [h5] at g0
  obtain ⟨i0, hc0, _, wf0⟩ := DataW.trod_int (t := 5) Try.underlying5 g0
  have e0 := hLc _ _ (drop_one hc0)
  obtain ⟨k0, rfl, z0⟩ := u8_nat wf0
  have g1 : DataW.trod enc Try.prog W 0 (fun _ => true) true n 5 ((L.drop 1).take (Try.prog.cellsOf 5)) = ys[1]? := hf 1 _ rfl
  rw [List.getElem?_eq_getElem (by omega)] at g1
  rw [h5] at g1
  obtain ⟨i1, hc1, _, wf1⟩ := DataW.trod_int (t := 5) Try.underlying5 g1
  have e1 := hLc _ _ (drop_one hc1)
  obtain ⟨k1, rfl, z1⟩ := u8_nat wf1
  have g2 : DataW.trod enc Try.prog W 0 (fun _ => true) true n 31 ((L.drop 2).take (Try.prog.cellsOf 31)) = ys[2]? := hf 2 _ rfl
  rw [List.getElem?_eq_getElem (by omega)] at g2
  rw [h31] at g2
  obtain ⟨xs, m, _, _, _, hxl, hat⟩ := DataW.trod_array Try.underlying31 g2
  have p0 := hat 0 (by omega)
  rw [h5, List.getElem?_eq_getElem (by omega)] at p0
  obtain ⟨u0, hd0, _, uw0⟩ := DataW.trod_int (t := 5) Try.underlying5 p0
  obtain ⟨v0, rfl, y0⟩ := u8_nat uw0
  obtain ⟨a0, rfl⟩ := u8_byte y0
  have t0 : cs[2]? = some _ := hLc 2 _ (by have := drop_one hd0; simpa using this)
  have p1 := hat 1 (by omega)
  rw [h5, List.getElem?_eq_getElem (by omega)] at p1
  obtain ⟨u1, hd1, _, uw1⟩ := DataW.trod_int (t := 5) Try.underlying5 p1
  obtain ⟨v1, rfl, y1⟩ := u8_nat uw1
  obtain ⟨a1, rfl⟩ := u8_byte y1
  have t1 : cs[3]? = some _ := hLc 3 _ (by have := drop_one hd1; simpa using this)
  have p2 := hat 2 (by omega)
  rw [h5, List.getElem?_eq_getElem (by omega)] at p2
  obtain ⟨u2, hd2, _, uw2⟩ := DataW.trod_int (t := 5) Try.underlying5 p2
  obtain ⟨v2, rfl, y2⟩ := u8_nat uw2
  obtain ⟨a2, rfl⟩ := u8_byte y2
  have t2 : cs[4]? = some _ := hLc 4 _ (by have := drop_one hd2; simpa using this)
  have p3 := hat 3 (by omega)
  rw [h5, List.getElem?_eq_getElem (by omega)] at p3
  obtain ⟨u3, hd3, _, uw3⟩ := DataW.trod_int (t := 5) Try.underlying5 p3
  obtain ⟨v3, rfl, y3⟩ := u8_nat uw3
  obtain ⟨a3, rfl⟩ := u8_byte y3
  have t3 : cs[5]? = some _ := hLc 5 _ (by have := drop_one hd3; simpa using this)
  have p4 := hat 4 (by omega)
  rw [h5, List.getElem?_eq_getElem (by omega)] at p4
  obtain ⟨u4, hd4, _, uw4⟩ := DataW.trod_int (t := 5) Try.underlying5 p4
  obtain ⟨v4, rfl, y4⟩ := u8_nat uw4
  obtain ⟨a4, rfl⟩ := u8_byte y4
  have t4 : cs[6]? = some _ := hLc 6 _ (by have := drop_one hd4; simpa using this)
  have p5 := hat 5 (by omega)
  rw [h5, List.getElem?_eq_getElem (by omega)] at p5
  obtain ⟨u5, hd5, _, uw5⟩ := DataW.trod_int (t := 5) Try.underlying5 p5
  obtain ⟨v5, rfl, y5⟩ := u8_nat uw5
  obtain ⟨a5, rfl⟩ := u8_byte y5
  have t5 : cs[7]? = some _ := hLc 7 _ (by have := drop_one hd5; simpa using this)
  have p6 := hat 6 (by omega)
  rw [h5, List.getElem?_eq_getElem (by omega)] at p6
  obtain ⟨u6, hd6, _, uw6⟩ := DataW.trod_int (t := 5) Try.underlying5 p6
  obtain ⟨v6, rfl, y6⟩ := u8_nat uw6
  obtain ⟨a6, rfl⟩ := u8_byte y6
  have t6 : cs[8]? = some _ := hLc 8 _ (by have := drop_one hd6; simpa using this)
  have p7 := hat 7 (by omega)
  rw [h5, List.getElem?_eq_getElem (by omega)] at p7
  obtain ⟨u7, hd7, _, uw7⟩ := DataW.trod_int (t := 5) Try.underlying5 p7
  obtain ⟨v7, rfl, y7⟩ := u8_nat uw7
  obtain ⟨a7, rfl⟩ := u8_byte y7
  have t7 : cs[9]? = some _ := hLc 9 _ (by have := drop_one hd7; simpa using this)
  have g3 : DataW.trod enc Try.prog W 0 (fun _ => true) true n 5 ((L.drop 10).take (Try.prog.cellsOf 5)) = ys[3]? := hf 3 _ rfl
  rw [List.getElem?_eq_getElem (by omega)] at g3
  rw [h5] at g3
  obtain ⟨i3, hc3, _, wf3⟩ := DataW.trod_int (t := 5) Try.underlying5 g3
  have e3 := hLc _ _ (drop_one hc3)
  obtain ⟨k3, rfl, z3⟩ := u8_nat wf3
  have g4 : DataW.trod enc Try.prog W 0 (fun _ => true) true n 3 ((L.drop 11).take (Try.prog.cellsOf 3)) = ys[4]? := hf 4 _ rfl
  rw [List.getElem?_eq_getElem (by omega)] at g4
  rw [h3] at g4
  obtain ⟨i4, hc4, _, wf4⟩ := DataW.trod_int (t := 3) Try.underlying3 g4
  have e4 := hLc _ _ (drop_one hc4)
  have z4 := i64_in wf4
  have g5 : DataW.trod enc Try.prog W 0 (fun _ => true) true n 3 ((L.drop 12).take (Try.prog.cellsOf 3)) = ys[5]? := hf 5 _ rfl
  rw [List.getElem?_eq_getElem (by omega)] at g5
  rw [h3] at g5
  obtain ⟨i5, hc5, _, wf5⟩ := DataW.trod_int (t := 3) Try.underlying3 g5
  have e5 := hLc _ _ (drop_one hc5)
  have z5 := i64_in wf5
  have g6 : DataW.trod enc Try.prog W 0 (fun _ => true) true n 3 ((L.drop 13).take (Try.prog.cellsOf 3)) = ys[6]? := hf 6 _ rfl
  rw [List.getElem?_eq_getElem (by omega)] at g6
  rw [h3] at g6
  obtain ⟨i6, hc6, _, wf6⟩ := DataW.trod_int (t := 3) Try.underlying3 g6
  have e6 := hLc _ _ (drop_one hc6)
  have z6 := i64_in wf6
  have g7 : DataW.trod enc Try.prog W 0 (fun _ => true) true n 3 ((L.drop 14).take (Try.prog.cellsOf 3)) = ys[7]? := hf 7 _ rfl
  rw [List.getElem?_eq_getElem (by omega)] at g7
  rw [h3] at g7
  obtain ⟨i7, hc7, _, wf7⟩ := DataW.trod_int (t := 3) Try.underlying3 g7
  have e7 := hLc _ _ (drop_one hc7)
  have z7 := i64_in wf7
  have g8 : DataW.trod enc Try.prog W 0 (fun _ => true) true n 5 ((L.drop 15).take (Try.prog.cellsOf 5)) = ys[8]? := hf 8 _ rfl
  rw [List.getElem?_eq_getElem (by omega)] at g8
  rw [h5] at g8
  obtain ⟨i8, hc8, _, wf8⟩ := DataW.trod_int (t := 5) Try.underlying5 g8
  have e8 := hLc _ _ (drop_one hc8)
  obtain ⟨k8, rfl, z8⟩ := u8_nat wf8
  refine ⟨⟨k0, k1, ⟨a0, a1, a2, a3, a4, a5, a6, a7⟩, k3, i4, i5, i6, i7, k8⟩, ?_, ⟨z0, z1, z3, z8, z4, z5, z6, z7⟩⟩
  apply Array.ext_getElem?
  intro i
  by_cases hi : i < 16
  · have hall : i = 0 ∨ i = 1 ∨ i = 2 ∨ i = 3 ∨ i = 4 ∨ i = 5 ∨ i = 6 ∨ i = 7 ∨ i = 8 ∨ i = 9 ∨ i = 10 ∨ i = 11 ∨ i = 12 ∨ i = 13 ∨ i = 14 ∨ i = 15 := by omega
    rcases hall with rfl | rfl | rfl | rfl | rfl | rfl | rfl | rfl | rfl | rfl | rfl | rfl | rfl | rfl | rfl | rfl
    · exact e0
    · exact e1
    · exact t0
    · exact t1
    · exact t2
    · exact t3
    · exact t4
    · exact t5
    · exact t6
    · exact t7
    · exact e3
    · exact e4
    · exact e5
    · exact e6
    · exact e7
    · exact e8
  · rw [Array.getElem?_eq_none (by omega), Array.getElem?_eq_none (by simp [operC]; omega)]
end Go.Proofs.Ytpdahbfjbgcmgaa
