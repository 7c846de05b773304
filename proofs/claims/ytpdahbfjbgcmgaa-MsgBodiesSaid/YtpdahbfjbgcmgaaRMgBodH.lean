/-
  Entries turned one by one, in a row of entries.
-/
import Derived.Test.YtpdahbfjbgcmgaaRMgBackH
set_option linter.unusedSimpArgs false
set_option linter.unusedVariables false
namespace Go.Proofs.Ytpdahbfjbgcmgaa
open Go.RowKit
/-- The first k entries are turned. -/
def partE (f : En.E → En.E) (es : List En.E) (k : Nat) : List En.E := (es.take k).map f ++ es.drop k
theorem partE_length (f : En.E → En.E) (es : List En.E) (k : Nat) : (partE f es k).length = es.length := by
  unfold partE; rw [List.length_append, List.length_map, List.length_take, List.length_drop]; omega
theorem partE_at (f : En.E → En.E) (es : List En.E) (k : Nat) (h : k < es.length) : (partE f es k)[k]'(by rw [partE_length]; exact h) = es[k] := by
  unfold partE
  rw [List.getElem_append_right (by rw [List.length_map, List.length_take]; omega)]
  rw [List.getElem_drop]
  congr 1
  rw [List.length_map, List.length_take]; omega
theorem partE_set (f : En.E → En.E) (es : List En.E) (k : Nat) (h : k < es.length) : (partE f es k).set k (f es[k]) = partE f es (k + 1) := by
  unfold partE
  have hl : ((es.take k).map f).length = k := by rw [List.length_map, List.length_take]; omega
  rw [List.set_append_right _ _ (by omega), hl, Nat.sub_self, List.drop_eq_getElem_cons h, List.set_cons_zero, List.take_succ_eq_append_getElem h, List.map_append]
  simp
theorem partE_zero (f : En.E → En.E) (es : List En.E) : partE f es 0 = es := by simp [partE]
theorem partE_end (f : En.E → En.E) (es : List En.E) : partE f es es.length = es.map f := by simp [partE]
theorem partE_self (f : En.E → En.E) (es : List En.E) (k : Nat) (h : k < es.length) (hf : f es[k] = es[k]) : partE f es (k + 1) = partE f es k := by
  rw [← partE_set f es k h, hf]
  apply List.ext_getElem?
  intro i
  rw [List.getElem?_set]
  split
  · rename_i hi
    subst hi
    rw [if_pos (by rw [partE_length]; exact h), List.getElem?_eq_getElem (by rw [partE_length]; exact h), partE_at f es k h]
  · rfl
/-- A cell of an entry turned, in a row of entries. -/
theorem ec_cell (fs : List En.E) (k j : Nat) (hk : k < fs.length) (hj : j < 13) (e : En.E) (v : Value) (h1 : ∀ i, i < 13 → i ≠ j → (ec1 e)[i]? = (ec1 fs[k])[i]?) (h2 : (ec1 e)[j]? = some v) :
    (ec fs).toArray.setIfInBounds (k * 13 + j) v = (ec (fs.set k e)).toArray := by
  apply Array.ext_getElem?
  intro i
  rw [Array.getElem?_setIfInBounds, List.getElem?_toArray, List.getElem?_toArray]
  have hlen : (ec (fs.set k e)).length = (ec fs).length := by rw [ec_length, ec_length, List.length_set]
  by_cases hi : i < 13 * fs.length
  · have hq : i / 13 < fs.length := by omega
    have hq2 : i / 13 < (fs.set k e).length := by rw [List.length_set]; exact hq
    have a1 := ec_at fs (i / 13) hq (i % 13) (by omega)
    have a2 := ec_at (fs.set k e) (i / 13) hq2 (i % 13) (by omega)
    rw [Nat.div_add_mod] at a1 a2
    rw [a1, a2, List.getElem_set]
    have hsz : (ec fs).toArray.size = 13 * fs.length := by simp [ec_length]
    by_cases he : k * 13 + j = i
    · have e1 : i / 13 = k := by omega
      have e2 : i % 13 = j := by omega
      rw [if_pos he, if_pos (by omega), if_pos e1.symm, e2, h2]
    · rw [if_neg he]
      by_cases hk2 : k = i / 13
      · rw [if_pos hk2, h1 (i % 13) (by omega) (by omega)]
        simp only [hk2]
      · rw [if_neg hk2]
  · have e1 : (ec fs)[i]? = none := List.getElem?_eq_none (by rw [ec_length]; omega)
    have e2 : (ec (fs.set k e))[i]? = none := List.getElem?_eq_none (by rw [hlen, ec_length]; omega)
    rw [e1, e2]
    split
    · split
      · rename_i h3 h4; simp [ec_length] at h4; omega
      · rfl
    · rfl
def fB (o : ByteArray) (e : En.E) : En.E := if e.kind = 3 then ⟨e.idx, e.trm, e.kind, e.slot, e.tok, o⟩ else e
theorem fB_may (o : ByteArray) (e : En.E) : En.may (fB o e) = En.may e := by
  unfold fB
  split
  · rename_i h
    unfold En.may En.nob
    simp only [h]
    rfl
  · rfl
theorem fB_kind (o : ByteArray) (e : En.E) : (fB o e).kind = e.kind := by unfold fB; split <;> rfl
theorem fB_fits (o : ByteArray) (e : En.E) (h : En.Fits e) : En.Fits (fB o e) := by
  unfold fB; split
  · exact ⟨h.idx, h.trm, h.kind, h.slot⟩
  · exact h
theorem sent_fB (o : ByteArray) (es : List En.E) : Mg.sent (es.map (fB o)) = Mg.sent es := by
  unfold Mg.sent
  rw [List.length_map, List.all_map]
  congr 2
  funext e
  exact fB_may o e
theorem big_fB (o : ByteArray) (ho : o.size ≤ 3000) : ∀ es : List En.E, Mg.big (es.map (fB o)) ≤ Mg.big es + 3000 * es.length
  | [] => by simp [Mg.big]
  | e :: es => by
    have := big_fB o ho es
    have h : (fB o e).body.size ≤ e.body.size + 3000 := by unfold fB; split <;> simp <;> omega
    simp only [List.map_cons, Mg.big, List.length_cons]
    omega
/-- The message that MsgBodies makes. -/
def bodM (m : Mg.M) (one other : ByteArray) : Mg.M := ⟨m.kind, m.frm, m.tto, m.trm, m.idx, m.ltm, m.com, m.rnd, m.ok, m.mem, m.sec, m.ents.map (fB other), one⟩
theorem bodM_may (m : Mg.M) (one other : ByteArray) : Mg.may (bodM m one other) = Mg.may m := by
  unfold Mg.may bodM
  simp only [sent_fB]
theorem bodM_fits {m : Mg.M} (h : Mg.Fits m) (one other : ByteArray) : Mg.Fits (bodM m one other) :=
  ⟨h.kind, h.frm, h.tto, h.trm, h.idx, h.ltm, h.com, h.rnd, h.mem, h.sec, fun e he => by
    obtain ⟨d, hd, rfl⟩ := List.mem_map.1 he
    exact fB_fits other d (h.ents d hd)⟩
end Go.Proofs.Ytpdahbfjbgcmgaa
