/-
  The library's sort of uint64 numbers, first part: cmp.Less and the insertion sort, walked: they compute what the plain functions of the sort's mathematics say.
-/
import Derived.Test.YtdodpocckjcomaaRWords
import Derived.Sort.LotA
import Derived.Sort.Grow
import Derived.Lib.OwnBridge
import Derived.BigQuiet
import Derived.BigGuard
import Derived.BigCall
import Derived.CellFam
import Derived.Deep.Draws
import Derived.Deep.QuietTactic
set_option linter.unusedSimpArgs false
set_option linter.unusedVariables false
namespace Go.Proofs.Ytdodpocckjcomaa
open Go.RowKit Go.Sort
/-- A number's cell. -/
abbrev uV : Int → Value := Value.int .u64
theorem so_nan (x : Int) (w : World) : Calls Try.prog 49 #[uV x] w fun e w' => e = .returned (.bool false) ∧ w' = w := by
  go_enter Try.func49, Try.ntmps49
  go_wp2
  go_ret
  exact ⟨by simp, rfl⟩
theorem so_less (x y : Int) (w : World) : Calls Try.prog 39 #[uV x, uV y] w fun e w' => e = .returned (.bool (ltInt x y)) ∧ w' = w := by
  go_enter Try.func39, Try.ntmps39
  go_wp2_with (go_at_call 49; refine (so_nan _ _).mono ?_; rintro e w1 ⟨rfl, rfl⟩)
  go_ret
  exact ⟨rfl, rfl⟩
section
variable (lt : Int → Int → Bool)
theorem ins_on {a j : Nat} {d : Array Int} (hj : a < j) (hl : lt d[j]! d[j - 1]! = true) : insInner lt a j d = insInner lt a (j - 1) (swp d j (j - 1)) := by
  cases j with
  | zero => omega
  | succ k =>
    rw [Nat.add_sub_cancel] at hl ⊢
    conv => lhs; rw [insInner]
    rw [if_pos (by rw [hl]; simpa using hj)]
theorem ins_off {a j : Nat} {d : Array Int} (h : j ≤ a ∨ lt d[j]! d[j - 1]! = false) : insInner lt a j d = d := by
  cases j with
  | zero => rfl
  | succ k =>
    rw [Nat.add_sub_cancel] at h
    rw [insInner, if_neg]
    rcases h with h | h
    · simp; omega
    · simp [h]
theorem outer_on {a b i : Nat} {d : Array Int} (h : i < b) : insOuter lt a b i d = insOuter lt a b (i + 1) (insInner lt a i d) := by conv => lhs; rw [insOuter, if_pos h]
theorem outer_off {a b i : Nat} {d : Array Int} (h : ¬ i < b) : insOuter lt a b i d = d := by rw [insOuter, if_neg h]
end
/-- The world in which the row holds d, so many draws later. -/
abbrev sw (w : World) (g off : Nat) (d : Array Int) (n : Nat) : World := putRow uV (Sort.ahead w n) g off d
theorem sw_drew (w : World) (g off : Nat) (d : Array Int) (m q : Nat) : (sw w g off d m).drewN q = sw w g off d (m + q) := by
  show Sort.ahead (putRow uV (Sort.ahead w m) g off d) q = _
  rw [putRow_ahead, ahead_ahead, ← putRow_ahead]
theorem sw_swp (w : World) (g off : Nat) (d : Array Int) (m q j k : Nat) (hj : j < d.size) (hk : k < d.size) : (((sw w g off d m).drewN q).setCell ⟨g, off + j, none⟩ (uV d[k]!)).setCell ⟨g, off + k, none⟩ (uV d[j]!) = sw w g off (swp d j k) (m + q) := by
  rw [sw_drew]
  exact putRow_swp uV _ g off d j k hj hk
theorem sw_cell {w : World} {g off : Nat} {d dk : Array Int} (h : Holds uV w g off d) (hs : dk.size = d.size) (n t : Nat) (ht : t < d.size) : (sw w g off dk n).cell? ⟨g, off + t, none⟩ = some (uV dk[t]!) := cell?_putRow _ _ _ _ d dk (holds_ahead _ _ _ _ _ _ h) hs t (by omega)
theorem sw_free {w : World} {g off : Nat} {d : Array Int} (h : Holds uV w g off d) (dk : Array Int) (n t : Nat) (ht : t < d.size) : (sw w g off dk n).frozen? ⟨g, off + t, none⟩ = false := by
  rw [frozen?_putRow]; exact ((holds_ahead _ _ n _ _ _ h) t ht).2
set_option maxHeartbeats 2000000 in
theorem so_ins (g off cap a b : Nat) (d : Array Int) (w : World) (hH : Holds uV w g off d) (hab : a ≤ b) (hb : b ≤ d.size) (hsz : d.size < 4611686018427387904) :
    Calls Try.prog 33 #[.slice (some ⟨g, off, none⟩) d.size cap, .int .i64 a, .int .i64 b] w fun e w' => e = .returned (.tuple #[]) ∧ ∃ n, w' = sw w g off (Sort.insertionSort ltInt d a b) n := by
  go_enter Try.func33, Try.ntmps33
  go_wp2
  go_loopw [6] (fun vi wr => ∃ (i n : Nat) (dk : Array Int), vi = .int .i64 i ∧ a < i ∧ i ≤ b + 1 ∧ dk.size = d.size ∧ wr = sw w g off dk n ∧ insOuter ltInt a b i dk = Sort.insertionSort ltInt d a b) (fun vi _ => b + 1 - (intOf vi).toNat)
  case atStart => exact ⟨a + 1, 0, d, by go_num, by omega, by omega, rfl, (putRow_self _ _ _ _ _ hH).symm, rfl⟩
  case round =>
    obtain ⟨i, n, dk, rfl, hai, hib, hsk, hwr, hO⟩ := hrel
    have HO := Lib.hid hO
    clear hO
    by_cases hlt : i < b
    · go_wp2
      go_loopw [7] (fun vj wr2 => ∃ (j m : Nat) (dj : Array Int), vj = .int .i64 j ∧ a ≤ j ∧ j ≤ i ∧ dj.size = d.size ∧ wr2 = sw w g off dj m ∧ insInner ltInt a j dj = insInner ltInt a i dk) (fun vj _ => (intOf vj).toNat)
      case atStart => exact ⟨i, n, dk, rfl, by omega, Nat.le_refl _, hsk, rfl, rfl⟩
      case round =>
        obtain ⟨j, m, dj, rfl, haj, hji, hsj, hw2, hI⟩ := hrel
        obtain ⟨G, hG⟩ : ∃ G : Nat → Int, ∀ t, G t = dj[t]! := ⟨fun t => dj[t]!, fun _ => rfl⟩
        have hcw : ∀ t, t < d.size → wr.cell? ⟨g, off + t, none⟩ = some (.int .u64 (G t)) := fun t ht => by rw [hw2, hG]; exact sw_cell hH hsj m t ht
        have hfw : ∀ t, t < d.size → wr.frozen? ⟨g, off + t, none⟩ = false := fun t ht => by rw [hw2]; exact sw_free hH dj m t ht
        have HW := Lib.hid hw2
        have HG := Lib.hid hG
        have HI := Lib.hid hI
        clear hw2 hG hI hH hwr
        have OUT := Lib.hid (fun (hs : j ≤ a ∨ ltInt dj[j]! dj[j - 1]! = false) (q : Nat) => show ∃ i' n' dk', Value.int .i64 ((i : Int) + 1) = .int .i64 (i' : Nat) ∧ a < i' ∧ i' ≤ b + 1 ∧ dk'.size = d.size ∧ wr.drewN q = sw w g off dk' n' ∧ insOuter ltInt a b i' dk' = Sort.insertionSort ltInt d a b from
          ⟨i + 1, m + q, dj, by go_num, by omega, by omega, hsj, by rw [HW.out]; exact sw_drew _ _ _ _ _ _, by rw [← HO.out, outer_on _ hlt, ← HI.out, ins_off _ hs]⟩)
        by_cases hja : a < j
        · go_wp2
          go_quiet (first | (go_at_call 39; refine Calls.quiet_of_same (so_less _ _ _)))
          go_wp2
          · have hl : ltInt (G j) (G (j - 1)) = true := by assumption
            go_region
            all_goals go_wp2
            go_roundw
            case rel =>
              refine ⟨j - 1, m + (nq + 1), swp dj j (j - 1), by congr 1; omega, by omega, by omega, by rw [size_swp]; exact hsj, ?_, ?_⟩
              · rw [HW.out, HG.out, HG.out]
                exact sw_swp w g off dj m (nq + 1) j (j - 1) (by omega) (by omega)
              · rw [← HI.out, ins_on ltInt hja (by rw [← HG.out, ← HG.out]; exact hl)]
            case measure => simp [intOf]; omega
          · have hl : ltInt (G j) (G (j - 1)) = false := by assumption
            go_roundw
            case rel => exact OUT.out (.inr (by rw [← HG.out, ← HG.out]; exact hl)) nq
            case measure => simp [intOf]; omega
        · go_wp2
          go_quiet (first | (go_at_call 39; refine Calls.quiet_of_same (so_less _ _ _)))
          go_wp2
          go_roundw
          case rel => exact OUT.out (.inl (by omega)) nq
          case measure => simp [intOf]; omega
    · go_wp2
      go_end0
      exact ⟨rfl, n, by rw [← HO.out, outer_off _ hlt]⟩
end Go.Proofs.Ytdodpocckjcomaa
