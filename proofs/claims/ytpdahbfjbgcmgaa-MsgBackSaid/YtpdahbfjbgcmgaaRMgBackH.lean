/-
  What the laws of layer 5 say, as plain mathematics; msg.Read's answer in one form.
-/
import Derived.Test.YtpdahbfjbgcmgaaRMgAw
import Derived.Test.YtpdahbfjbgcmgaaRMgCopy
set_option linter.unusedSimpArgs false
set_option linter.unusedVariables false
namespace Go.Proofs.Ytpdahbfjbgcmgaa
open Go.RowKit
theorem mRead_out (s : ByteArray) (w : World) (hs : s.size ≤ 100000000) : Calls Try.prog 39 #[.string s] w fun e w' => ∃ A cap, e = .returned (.tuple #[.agg (msgC ((Mg.read s.data.toList).getD Mg.zero) A cap), .bool (Mg.read s.data.toList).isSome]) ∧ Lies w' A (ec ((Mg.read s.data.toList).getD Mg.zero).ents) ∧ Below w.heap.size w w' := by
  refine (mRead_any s w hs).mono ?_
  intro e w' h
  unfold RetMs at h
  cases hr : Mg.read s.data.toList with
  | none =>
    rw [hr] at h
    exact ⟨none, 0, h.1, .inl rfl, h.2⟩
  | some m =>
    rw [hr] at h
    obtain ⟨A, cap, rfl, hl, hb⟩ := h
    exact ⟨A, cap, rfl, hl, hb⟩
/-- A message's bytes. -/
def wrB (m : Mg.M) : ByteArray := ⟨(Mg.write m).toArray⟩
theorem isE (t : ByteArray) : t.toList.isEmpty = t.data.toList.isEmpty := by rw [ByteArray.toList_eq]
theorem wrB_empty (m : Mg.M) : (wrB m).toList.isEmpty = !Mg.may m := by
  rw [isE]
  unfold wrB Mg.write
  cases Mg.may m
  · rfl
  · simp only [if_true, Bool.not_true]
    rw [List.isEmpty_eq_false_iff]
    exact Mg.enc_ne m
theorem wrB_yes {m : Mg.M} (h : Mg.may m = true) : (wrB m).data.toList = Mg.enc m := by
  unfold wrB Mg.write; rw [h, if_pos rfl]
structure OkM (m : Mg.M) : Prop where
  fits : Mg.Fits m
  small : Mg.Small m
theorem OkM.body {m : Mg.M} (h : OkM m) : m.body.size ≤ 6000 := by have := h.small.sum; omega
theorem OkM.big {m : Mg.M} (h : OkM m) : Mg.big m.ents ≤ 6000 := by have := h.small.sum; omega
theorem OkM.shape {m : Mg.M} (h : OkM m) (hm : Mg.may m = true) : Mg.Shape m := Mg.shape_of h.fits hm (by have := h.body; omega) (by have := h.big; omega)
theorem OkM.size {m : Mg.M} (h : OkM m) : (wrB m).size ≤ 20000 := by
  unfold wrB
  rw [Mg.size_mk]
  unfold Mg.write
  split
  · have := Mg.enc_len h.fits (by have := h.body; omega) (by have := h.big; omega)
    have := h.small.len
    have := h.small.sum
    omega
  · exact Nat.zero_le _
theorem OkM.back {m : Mg.M} (h : OkM m) (hm : Mg.may m = true) : Mg.read (wrB m).data.toList = some m := by
  rw [wrB_yes hm]; exact (Mg.read_iff _ _).2 ⟨h.shape hm, hm, rfl⟩
theorem extract_take (t : ByteArray) (k : Nat) : (t.extract 0 k).data.toList = t.data.toList.take k := by
  rw [Lib.extract_data]; simp
theorem OkM.less {m : Mg.M} (h : OkM m) (hm : Mg.may m = true) (k : Nat) (hk : k < (wrB m).size) : Mg.read ((wrB m).extract 0 k).data.toList = none := by
  rw [extract_take, wrB_yes hm]
  exact Mg.read_less (h.shape hm) hm k (by rw [← wrB_yes hm, ← Lib.size_eq]; exact hk)
theorem OkM.more {m : Mg.M} (h : OkM m) (hm : Mg.may m = true) (b : ByteArray) : (Mg.read (wrB m ++ b).data.toList).isSome = b.toList.isEmpty := by
  have e : (wrB m ++ b).data.toList = Mg.enc m ++ b.data.toList := by rw [← wrB_yes hm]; simp [ByteArray.data_append]
  rw [e, Mg.read_more (h.shape hm) hm, isE]
  by_cases hb : b.data.toList = []
  · rw [if_pos hb, hb]; rfl
  · rw [if_neg hb]
    symm
    show b.data.toList.isEmpty = false
    rw [List.isEmpty_eq_false_iff]
    exact hb
/-- What is read of any bytes. -/
theorem read_ok {l : List UInt8} {m : Mg.M} (h : Mg.read l = some m) (hl : l.length ≤ 7000) : Mg.Fits m ∧ Mg.may m = true ∧ Mg.write m = l ∧ m.body.size ≤ 7000 ∧ Mg.big m.ents ≤ 7000 ∧ m.ents.length ≤ 8 := by
  obtain ⟨hs, hm, rfl⟩ := (Mg.read_iff _ _).1 h
  have h1 : (Mg.eb m.ents).length + m.body.size ≤ (Mg.enc m).length := by
    unfold Mg.enc
    simp only [List.length_append]
    have : m.body.size ≤ (Cm.txt m.body).length := by unfold Cm.txt row; rw [List.length_append, ← Lib.size_eq]; omega
    omega
  have h2 : ∀ es : List En.E, (∀ e ∈ es, En.may e = true) → Mg.big es ≤ (Mg.eb es).length := by
    intro es
    induction es with
    | nil => intro _; exact Nat.zero_le _
    | cons e es ih =>
      intro h
      have := ih (fun x hx => h x (by simp [hx]))
      have hb : e.body.size ≤ (En.enc e).length := by
        have hm := h e (by simp)
        unfold En.enc En.bod
        by_cases hh : En.hasB e.kind
        · rw [if_pos hh]
          simp only [List.length_append]
          have : e.body.size ≤ (Cm.txt e.body).length := by unfold Cm.txt row; rw [List.length_append, ← Lib.size_eq]; omega
          omega
        · have h0 := (En.may_parts hm).2.1 hh
          rw [h0]; exact Nat.zero_le _
      rw [Mg.eb_cons, List.length_append]
      have : (En.enc e).length ≤ (row (En.enc e)).length := by unfold row; rw [List.length_append]; omega
      unfold Mg.big
      omega
  have h3 := h2 m.ents (fun e he => (hs.ents e he).may)
  refine ⟨hs.fits, hm, by unfold Mg.write; rw [hm, if_pos rfl], by omega, by omega, Mg.may_len hm⟩
end Go.Proofs.Ytpdahbfjbgcmgaa
