/-
  What is read has texts no longer than its bytes. No program is walked here.
-/
import Derived.Test.YtpdahbfjbgcmgaaSOpM
import Derived.Test.YtpdahbfjbgcmgaaSCWriteB
set_option linter.unusedSimpArgs false
set_option linter.unusedVariables false
namespace Go.Proofs.Ytpdahbfjbgcmgaa
theorem txt_ge (s : ByteArray) : s.size ≤ (Cm.txt s).length := by
  unfold Cm.txt row
  rw [List.length_append, ← Lib.size_eq]; omega
theorem flat_ge {α : Type} (f : α → List UInt8) (x : α) : ∀ l : List α, x ∈ l → (f x).length ≤ ((l.map f).flatten).length
  | [], h => by cases h
  | y :: l, h => by
    simp only [List.map_cons, List.flatten_cons, List.length_append]
    rcases List.mem_cons.1 h with rfl | h
    · omega
    · have := flat_ge f x l h; omega
theorem flat_len {α : Type} (f : α → List UInt8) (hf : ∀ x, 1 ≤ (f x).length) : ∀ l : List α, l.length ≤ ((l.map f).flatten).length
  | [] => by simp
  | y :: l => by
    simp only [List.map_cons, List.flatten_cons, List.length_append, List.length_cons]
    have := flat_len f hf l; have := hf y; omega
theorem e0_size : Cm.e0.size = 0 := rfl
theorem body_le (c : Cm.Cmd) : (Cm.body c).length ≤ (Cm.bytes c).length := by
  unfold Cm.bytes; rw [List.length_append]; omega
theorem cmd_short {c : Cm.Cmd} (hs : Cm.Shape c) (hl : (Cm.bytes c).length ≤ 5000) : Short c := by
  have hb := body_le c
  have hp := hs.plain
  have t1 := txt_ge c.key; have t2 := txt_ge c.val; have t3 := txt_ge c.exp; have t4 := txt_ge c.frm; have t5 := txt_ge c.tto
  have hlen := hs.len
  have main : c.key.size ≤ 5000 ∧ c.val.size ≤ 5000 ∧ c.exp.size ≤ 5000 ∧ c.frm.size ≤ 5000 ∧ c.tto.size ≤ 5000 ∧ (Cm.partsB c.parts).length ≤ 5000 := by
    by_cases o1 : c.op = 1 ∨ c.op = 6
    · rw [Cm.plain1 o1] at hp
      have k1 := congrArg (fun c => c.key.size) hp; have k2 := congrArg (fun c => c.val.size) hp; have k3 := congrArg (fun c => c.exp.size) hp; have k4 := congrArg (fun c => c.frm.size) hp; have k5 := congrArg (fun c => c.tto.size) hp; have k6 := congrArg (fun c => (Cm.partsB c.parts).length) hp
      simp only [e0_size, Cm.partsB, List.map_nil, List.flatten_nil, List.length_nil] at k1 k2 k3 k4 k5 k6
      refine ⟨?_, ?_, ?_, ?_, ?_, ?_⟩ <;> (try unfold Cm.partsB) <;> omega
    by_cases o2 : c.op = 2
    · rw [Cm.plain2 o2] at hp
      rw [Cm.body2 o2] at hb
      have k3 := congrArg (fun c => c.exp.size) hp; have k4 := congrArg (fun c => c.frm.size) hp; have k5 := congrArg (fun c => c.tto.size) hp; have k6 := congrArg (fun c => (Cm.partsB c.parts).length) hp
      simp only [e0_size, Cm.partsB, List.map_nil, List.flatten_nil, List.length_nil] at k3 k4 k5 k6
      simp only [List.length_append] at hb
      refine ⟨?_, ?_, ?_, ?_, ?_, ?_⟩ <;> (try unfold Cm.partsB) <;> omega
    by_cases o3 : c.op = 3 ∨ c.op = 8
    · rw [Cm.plain3 o3] at hp
      rw [Cm.body3 o3] at hb
      have k2 := congrArg (fun c => c.val.size) hp; have k3 := congrArg (fun c => c.exp.size) hp; have k4 := congrArg (fun c => c.frm.size) hp; have k5 := congrArg (fun c => c.tto.size) hp; have k6 := congrArg (fun c => (Cm.partsB c.parts).length) hp
      simp only [e0_size, Cm.partsB, List.map_nil, List.flatten_nil, List.length_nil] at k2 k3 k4 k5 k6
      refine ⟨?_, ?_, ?_, ?_, ?_, ?_⟩ <;> (try unfold Cm.partsB) <;> omega
    by_cases o4 : c.op = 4
    · rw [Cm.plain4 o4] at hp
      rw [Cm.body4 o4] at hb
      have k4 := congrArg (fun c => c.frm.size) hp; have k5 := congrArg (fun c => c.tto.size) hp; have k6 := congrArg (fun c => (Cm.partsB c.parts).length) hp
      simp only [e0_size, Cm.partsB, List.map_nil, List.flatten_nil, List.length_nil] at k4 k5 k6
      simp only [List.length_append] at hb
      refine ⟨?_, ?_, ?_, ?_, ?_, ?_⟩ <;> (try unfold Cm.partsB) <;> omega
    by_cases o5 : c.op = 5
    · rw [Cm.plain5 o5] at hp
      rw [Cm.body5 o5] at hb
      have k1 := congrArg (fun c => c.key.size) hp; have k2 := congrArg (fun c => c.val.size) hp; have k3 := congrArg (fun c => c.exp.size) hp; have k4 := congrArg (fun c => c.frm.size) hp; have k5 := congrArg (fun c => c.tto.size) hp
      simp only [e0_size] at k1 k2 k3 k4 k5
      simp only [List.length_append] at hb
      refine ⟨?_, ?_, ?_, ?_, ?_, ?_⟩ <;> omega
    by_cases o7 : c.op = 7
    · rw [Cm.plain7 o7] at hp
      have k1 := congrArg (fun c => c.key.size) hp; have k2 := congrArg (fun c => c.val.size) hp; have k3 := congrArg (fun c => c.exp.size) hp; have k4 := congrArg (fun c => c.frm.size) hp; have k5 := congrArg (fun c => c.tto.size) hp; have k6 := congrArg (fun c => (Cm.partsB c.parts).length) hp
      simp only [e0_size, Cm.partsB, List.map_nil, List.flatten_nil, List.length_nil] at k1 k2 k3 k4 k5 k6
      refine ⟨?_, ?_, ?_, ?_, ?_, ?_⟩ <;> (try unfold Cm.partsB) <;> omega
    by_cases o9 : c.op = 9
    · rw [Cm.plain9 o9] at hp
      rw [Cm.body9 o9] at hb
      have k1 := congrArg (fun c => c.key.size) hp; have k2 := congrArg (fun c => c.val.size) hp; have k3 := congrArg (fun c => c.exp.size) hp; have k6 := congrArg (fun c => (Cm.partsB c.parts).length) hp
      simp only [e0_size, Cm.partsB, List.map_nil, List.flatten_nil, List.length_nil] at k1 k2 k3 k6
      simp only [List.length_append] at hb
      refine ⟨?_, ?_, ?_, ?_, ?_, ?_⟩ <;> (try unfold Cm.partsB) <;> omega
    · have o0 : c.op = 0 ∨ 9 < c.op := by omega
      rw [Cm.plain0 o0] at hp
      have k1 := congrArg (fun c => c.key.size) hp; have k2 := congrArg (fun c => c.val.size) hp; have k3 := congrArg (fun c => c.exp.size) hp; have k4 := congrArg (fun c => c.frm.size) hp; have k5 := congrArg (fun c => c.tto.size) hp; have k6 := congrArg (fun c => (Cm.partsB c.parts).length) hp
      simp only [e0_size, Cm.partsB, List.map_nil, List.flatten_nil, List.length_nil] at k1 k2 k3 k4 k5 k6
      refine ⟨?_, ?_, ?_, ?_, ?_, ?_⟩ <;> (try unfold Cm.partsB) <;> omega
  obtain ⟨m1, m2, m3, m4, m5, m6⟩ := main
  refine ⟨by omega, by omega, by omega, by omega, by omega, by omega, fun p hpp => ?_⟩
  have hw := hs.parts p hpp
  have hg : (Cm.partB p).length ≤ (Cm.partsB c.parts).length := flat_ge Cm.partB p c.parts hpp
  have g1 := txt_ge p.key; have g2 := txt_ge p.val
  refine ⟨hw.op, ?_, ?_⟩
  · unfold Cm.partB at hg; simp only [List.length_append] at hg; omega
  · by_cases h2 : p.op = 2
    · unfold Cm.partB at hg; rw [if_pos h2] at hg; simp only [List.length_append] at hg; omega
    · rw [hw.none h2, e0_size]; omega
theorem res_short {r : Rs.Res} (hs : Rs.Shape r) (hl : (Rs.bytes r).length ≤ 5000) : RFits r ∧ r.val.size ≤ 5000 ∧ r.rows.length ≤ 5000 ∧ ∀ p ∈ r.rows, p.key.size ≤ 5000 ∧ p.val.size ≤ 5000 := by
  have t1 := txt_ge r.val
  unfold Rs.bytes at hl
  simp only [List.length_append] at hl
  have h1 : r.rows.length ≤ (Rs.rowsB r.rows).length := flat_len Rs.rowB (fun x => by
    have := Nm.grp_length x.ver
    unfold Rs.rowB; simp only [List.length_append]; omega) r.rows
  refine ⟨⟨hs.code, hs.n, fun x hx => (hs.rows x hx).ver⟩, by omega, by omega, fun p hp => ?_⟩
  have hg : (Rs.rowB p).length ≤ (Rs.rowsB r.rows).length := flat_ge Rs.rowB p r.rows hp
  have g1 := txt_ge p.key; have g2 := txt_ge p.val
  unfold Rs.rowB at hg
  simp only [List.length_append] at hg
  exact ⟨by omega, by omega⟩
end Go.Proofs.Ytpdahbfjbgcmgaa
