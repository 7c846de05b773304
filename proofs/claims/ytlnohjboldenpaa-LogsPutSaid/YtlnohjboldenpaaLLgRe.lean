/-
  Entries of one's own whose indexes are written anew, one after another (for LogsPut).
-/
import Derived.Test.YtlnohjboldenpaaLLgOwnL
set_option linter.unusedSimpArgs false
set_option linter.unusedVariables false
namespace Go.Proofs.Ytlnohjboldenpaa
open Go.RowKit
/-- The first j of these entries have the indexes at + 1, at + 2 .. -/
def Lg.re (a : Nat) (es : List En.E) (j : Nat) : List En.E := es.mapIdx fun i e => if i < j then { e with idx := a + i + 1 } else e
theorem Lg.re_len (a : Nat) (es : List En.E) (j : Nat) : (Lg.re a es j).length = es.length := by simp [Lg.re]
theorem Lg.re_zero (a : Nat) (es : List En.E) : Lg.re a es 0 = es := by
  refine List.ext_getElem (by simp [Lg.re]) fun i h1 h2 => ?_
  simp [Lg.re]
theorem Lg.re_get (a : Nat) (es : List En.E) (j k : Nat) (h : k < es.length) : (Lg.re a es j)[k]'(by rw [Lg.re_len]; exact h) = if k < j then { es[k] with idx := a + k + 1 } else es[k] := by
  simp [Lg.re]
theorem Lg.re_step (a : Nat) (es : List En.E) (j : Nat) (h : j < es.length) : Lg.re a es (j + 1) = (Lg.re a es j).set j { es[j] with idx := a + j + 1 } := by
  refine List.ext_getElem (by simp [Lg.re]) fun i h1 h2 => ?_
  have hi : i < es.length := by rw [Lg.re_len] at h1; exact h1
  rw [Lg.re_get a es (j + 1) i hi, List.getElem_set]
  by_cases hij : j = i
  · subst hij
    rw [if_pos (by omega), if_pos rfl]
  · rw [if_neg hij, Lg.re_get a es j i hi]
    by_cases hlt : i < j
    · rw [if_pos (by omega), if_pos hlt]
    · rw [if_neg (by omega), if_neg hlt]
/-- A slice of one's own behind a store into it. -/
theorem Sl.set {W : World} {b off n c : Nat} {xs : List Value} (h : Sl W 13 (some ⟨b, off, none⟩) n c xs) (j : Nat) (hj : j < n * 13) (v : Value) : Sl (W.setCell ⟨b, off + j, none⟩ v) 13 (some ⟨b, off, none⟩) n c (xs.set j v) := by
  refine ⟨by rw [List.length_set]; exact h.len, h.le, h.max, ?_⟩
  rcases h.lies with ⟨hA, _⟩ | ⟨b', off', hA, hlt, hc, hf⟩
  · cases hA
  · injection hA with hA
    injection hA with h1 h2
    subst h1 h2
    have hs := (hf j (by have := h.le; omega)).1
    refine .inr ⟨b, off, rfl, by rw [World.size_setCell]; exact hlt, fun i u hu => ?_, fun i hi => ⟨some_setCell W _ _ v (hf i hi).1, by rw [World.frozen?_setCell]; exact (hf i hi).2⟩⟩
    by_cases hij : j = i
    · subst hij
      rw [List.getElem?_set_self (by rw [h.len]; exact hj)] at hu
      injection hu with hu
      subst hu
      exact World.cell?_setCell_same' W _ v hs
    · rw [List.getElem?_set_ne hij] at hu
      rw [World.cell?_setCell_other _ _ _ _ (fun e => by injection e with _ e2; omega)]
      exact hc i u hu
/-- The cells of entries of which one has another index. -/
theorem ec_setIdx (es : List En.E) (j : Nat) (h : j < es.length) (v : Nat) : (ec es).set (13 * j) (.int .u64 (v : Int)) = ec (es.set j { es[j] with idx := v }) := by
  refine List.ext_getElem? fun i => ?_
  by_cases hi : i < 13 * es.length
  · have hk : i / 13 < es.length := by omega
    have e0 := ec_at es (i / 13) hk (i % 13) (by omega)
    have e1 := ec_at (es.set j { es[j] with idx := v }) (i / 13) (by rw [List.length_set]; exact hk) (i % 13) (by omega)
    rw [Nat.div_add_mod i 13] at e0 e1
    rw [e1, List.getElem_set]
    by_cases hij : 13 * j = i
    · have : j = i / 13 := by omega
      have hm : i % 13 = 0 := by omega
      rw [if_pos this, hm, ← hij, List.getElem?_set_self (by rw [ec_length]; omega)]
      rfl
    · rw [List.getElem?_set_ne hij, e0]
      by_cases hq : j = i / 13
      · subst hq
        rw [if_pos rfl]
        have hm : i % 13 ≠ 0 := by omega
        have : ∀ q, q < 13 → q ≠ 0 → (ec1 es[i / 13])[q]? = (ec1 { es[i / 13] with idx := v })[q]? := by
          intro q hq hq0
          have : q = 1 ∨ q = 2 ∨ q = 3 ∨ q = 4 ∨ q = 5 ∨ q = 6 ∨ q = 7 ∨ q = 8 ∨ q = 9 ∨ q = 10 ∨ q = 11 ∨ q = 12 := by omega
          rcases this with rfl | rfl | rfl | rfl | rfl | rfl | rfl | rfl | rfl | rfl | rfl | rfl <;> rfl
        exact this _ (by omega) hm
      · rw [if_neg hq]
  · rw [List.getElem?_eq_none (by rw [List.length_set, ec_length]; omega), List.getElem?_eq_none (by rw [ec_length, List.length_set]; omega)]
end Go.Proofs.Ytlnohjboldenpaa
