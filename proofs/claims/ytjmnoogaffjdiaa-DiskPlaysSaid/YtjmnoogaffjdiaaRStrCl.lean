/-
  strings.Clone walked.
-/
import Derived.Test.YtjmnoogaffjdiaaRInfoB
import Derived.Lib.UnsafeStr
import Derived.Lib.Strings
import Derived.Lib.BufferWrite
import Derived.Laws.MakeOwn
import Derived.OwnWalk
set_option linter.unusedSimpArgs false
set_option linter.unusedVariables false
namespace Go.Proofs.Ytjmnoogaffjdiaa
open Go.RowKit
/-- A string's bytes copied over a row of as many cells, and the row taken as a string: what the two operations come to. -/
theorem copied (w : World) (g : Nat) (cur : Array Value) (s : ByteArray) (hg : w.heap[g]? = some (.cells cur 5 (0, 0))) (hsz : cur.size = s.size) (h0 : 0 < s.size) (hlim : s.size ≤ 140737488355328) :
    ∃ w2 w3, (Builtin.copy_ #[56, 9] 3 #[.slice (some ⟨g, 0, none⟩) s.size s.size, .string s]).run Try.prog w = .ok (.int .i64 s.size) w2 ∧
      (Builtin.unsafeString_ #[91, 3] 9 #[.pointer (some ⟨g, 0, none⟩), .int .i64 s.size]).run Try.prog w2 = .ok (.string s) w3 ∧ Below g w w3 := by
  obtain ⟨i0, hi, _, hz1, _⟩ := info_parts Try.infoByte
  have hbytes : (Lib.byteCells s.data.toList).length = s.size := by rw [Lib.byteCells_length, ← Lib.size_eq]
  have hcp := Lib.run_copy_row_string (P := Try.prog) w 56 9 3 5 g 0 s.size s.size s cur 5 Try.underlying56 (by rw [hi]; simp [hz1]) hg (Nat.le_refl _) (by omega)
  have hY : cur.toList.take 0 ++ Lib.byteCells s.data.toList ++ cur.toList.drop (0 + s.size) = Lib.byteCells s.data.toList := by
    rw [List.drop_of_length_le (by rw [Array.length_toList]; omega)]; simp
  rw [hY] at hcp
  have hg2 := setRow_heap w g cur (Lib.byteCells s.data.toList).toArray 5 (0, 0) hg
  have hus := Lib.run_unsafeString_row (P := Try.prog) (w.setRow g (Lib.byteCells s.data.toList).toArray) 91 3 9 5 Try.underlying91 (by simp [Program.cellsOf, hi, hz1]) g s.size
    (by unfold World.shape?; rw [hg2]; simp [hbytes]) s.data.toList (fun e => by rw [Lib.size_eq, e] at h0; simp at h0) (by rw [← Lib.size_eq]; exact Nat.le_refl _) (by rw [← Lib.size_eq]; omega)
    (fun j x hx => Lib.cells_of_row hg2 s.size j _ (by rw [List.toList_toArray, ← hbytes, List.take_length]; simp [Lib.byteCells, hx]))
  rw [← Lib.size_eq] at hus
  have hb : Below g w (w.setRow g (Lib.byteCells s.data.toList).toArray) := ⟨rfl, rfl, rfl, by simp, fun k hk => setRow_other _ _ _ _ (by omega)⟩
  exact ⟨_, _, hcp, hus, Lib.below_freeze hb (p := ⟨g, 0, none⟩) (Nat.le_refl _) _⟩

set_option maxHeartbeats 1000000 in
set_option maxRecDepth 100000 in
theorem stringsliteClone_any (s : ByteArray) (w : World) (hlim : s.size ≤ 140737488355328) :
    Calls Try.prog 62 #[.string s] w fun e w' => e = .returned (.string s) ∧ Below w.heap.size w w' := by
  by_cases h0 : s.size = 0
  · have hs : s = ⟨#[]⟩ := ByteArray.ext (Array.eq_empty_of_size_eq_zero h0)
    subst hs
    go_enter Try.func62, Try.ntmps62
    go_wp2
    go_ret
    exact ⟨rfl, Below.refl _ _⟩
  · obtain ⟨i0, hi, hz0, hz1, hz2⟩ := info_parts Try.infoByte
    have hz2' : i0.bytes * s.size ≤ 281474976710656 := by rw [hz2]; omega
    go_enter Try.func62, Try.ntmps62
    go_wp2_with (at_make; refine wpList_make_full _ rfl _ _ 56 rfl w.heap.size 5 i0 (.int .u8 0) 1 Try.underlying56 hi hz0 hz1 .i64 .i64 (s.size : Int) (s.size : Int) s.size rfl rfl rfl rfl hz2' (by simp only [maxLen]; omega) (Nat.le_refl _) ?_; intro w1 ho1 hg1; obtain ⟨w2, w3, hcp, hus, hb3⟩ := (by rcases ho1.2 with ⟨h, _⟩ | ⟨g, cap, cur, h, _, hg, _, _, hcs, _⟩; (cases h); (injection h with ha hn hc; injection ha with ha; injection ha with ha; subst ha; subst hc; exact copied w1 _ cur s hg (by omega) (by omega) hlim) : ∃ w2 w3, (Builtin.copy_ #[56, 9] 3 #[.slice (some ⟨w.heap.size, 0, none⟩) s.size s.size, .string s]).run Try.prog w1 = .ok (.int .i64 s.size) w2 ∧ (Builtin.unsafeString_ #[91, 3] 9 #[.pointer (some ⟨w.heap.size, 0, none⟩), .int .i64 s.size]).run Try.prog w2 = .ok (.string s) w3 ∧ Below w.heap.size w1 w3))
    go_ret
    exact ⟨rfl, ((Below.refl _ _).grown hg1 (Nat.le_refl _) (by simp)).trans hb3⟩

theorem stringsClone_any (s : ByteArray) (w : World) (hlim : s.size ≤ 140737488355328) :
    Calls Try.prog 50 #[.string s] w fun e w' => e = .returned (.string s) ∧ Below w.heap.size w w' := by
  have Hc := Lib.hid (stringsliteClone_any s w hlim)
  go_enter Try.func50, Try.ntmps50
  go_wp2_with (go_at_call 62; refine Hc.out.mono ?_; rintro e w' ⟨rfl, hb⟩)
  go_ret
  exact ⟨rfl, hb⟩
end Go.Proofs.Ytjmnoogaffjdiaa
