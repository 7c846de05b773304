/-
  The statements' own 'Swap' of layer 3 walked: the texts one behind the other.
-/
import Derived.Test.YtaebbmhjnhhemaaQSwMath
import Derived.Test.YtaebbmhjnhhemaaQCmd
set_option linter.unusedSimpArgs false
set_option linter.unusedVariables false
namespace Go.Proofs.Ytaebbmhjnhhemaa
open Go.RowKit
set_option maxRecDepth 100000 in
theorem next_any (ts : List ByteArray) (B : Option Addr) (cb : Nat) (W : World) (n t k : Nat) (hn : W.heap[n]? = some (.cells #[.int .i64 (k : Int)] 3 (0, 0))) (ht : W.heap[t]? = some (.cells #[.slice B ts.length cb] 55 (0, 0))) (hB : Lies W B (sc ts)) (hne : ∀ b off, B = some ⟨b, off, none⟩ → ts ≠ [] → b ≠ n) (hk : k ≤ 1000000) (hl : ts.length ≤ 1000000) (htn : t ≠ n) :
    Calls Try.prog 55 #[.pointer (some ⟨n, 0, none⟩), .pointer (some ⟨t, 0, none⟩)] W fun e w' => e = .returned (.string (Cm.nx ts k)) ∧ w' = W.setCell ⟨n, 0, none⟩ (.int .i64 ((k + 1 : Nat) : Int)) := by
  have c0 : W.cell? ⟨n, 0, none⟩ = some (.int .i64 (k : Int)) := cell_of_row W n 0 _ _ _ hn
  have f0 := frozen_of_row W n 0 _ _ hn
  have hr := heap_setCell_same W n 0 _ _ (.int .i64 ((k : Int) + 1)) hn
  have c1 : (W.setCell ⟨n, 0, none⟩ (.int .i64 ((k : Int) + 1))).cell? ⟨n, 0, none⟩ = some (.int .i64 ((k : Int) + 1)) := cell_of_row _ n 0 _ _ _ hr
  have d1 : (W.setCell ⟨n, 0, none⟩ (.int .i64 ((k : Int) + 1))).cell? ⟨t, 0, none⟩ = some (.slice B ts.length cb) := by
    rw [World.cell?_of_block (w := W) (Below.heap_setCell _ _ _ _ (by simpa using htn))]
    exact cell_of_row W t 0 _ _ _ ht
  by_cases hkl : k < ts.length
  · have hlt : decide ((ts.length : Int) < (k : Int) + 1) = false := by simp; omega
    have hnx : Cm.nx ts k = ts[k] := by unfold Cm.nx; rw [List.getD_eq_getElem?_getD, List.getElem?_eq_getElem hkl]; rfl
    obtain ⟨b, off, rfl, hlb, hc⟩ : ∃ b off, B = some ⟨b, off, none⟩ ∧ b < W.heap.size ∧ ∀ i u, (sc ts)[i]? = some u → W.cell? ⟨b, off + i, none⟩ = some u := by
      rcases hB with h | h
      · exfalso; have := congrArg List.length h; simp [sc] at this; rw [this] at hkl; simp at hkl
      · exact h
    have e1 : (W.setCell ⟨n, 0, none⟩ (.int .i64 ((k : Int) + 1))).cell? ⟨b, off + k, none⟩ = some (.string ts[k]) := by
      rw [World.cell?_of_block (w := W) (Below.heap_setCell _ _ _ _ (by simpa using hne b off rfl (fun e => by rw [e] at hkl; simp at hkl)))]
      exact hc k _ (by simp [sc, hkl])
    have Hnx := Lib.hid hnx
    clear hc hB hne hn ht hr hnx
    go_enter Try.func55, Try.ntmps55
    go_wp2_with fail
    go_ret
    rw [Hnx.out]
    exact ⟨rfl, rfl⟩
  · have hlt : decide ((ts.length : Int) < (k : Int) + 1) = true := by simp; omega
    have hnx : Cm.nx ts k = Cm.e0 := by unfold Cm.nx; rw [List.getD_eq_getElem?_getD, List.getElem?_eq_none (by omega)]; rfl
    have Hnx := Lib.hid hnx
    clear hB hne hn ht hr hnx
    go_enter Try.func55, Try.ntmps55
    go_wp2_with fail
    go_ret
    rw [Hnx.out]
    exact ⟨rfl, rfl⟩
end Go.Proofs.Ytaebbmhjnhhemaa
