/-
  The statements' own 'Great' of layer 1 walked.
-/
import Derived.Test.YtnfghgkdedmphaaNumS
import Derived.Lib.Strings
namespace Go.Proofs.Ytnfghgkdedmphaa
open Go.RowKit

def tot (ss : List ByteArray) : Nat := (ss.map ByteArray.size).sum
theorem tot_take (ss : List ByteArray) (k : Nat) (hk : k < ss.length) : tot (ss.take (k + 1)) = tot (ss.take k) + ss[k].size := by
  unfold tot
  rw [List.take_succ_eq_append_getElem hk, List.map_append, List.sum_append, List.map_singleton]; simp
theorem tot_take_le (ss : List ByteArray) (k : Nat) : tot (ss.take k) ≤ tot ss := by
  have e : tot ss = tot (ss.take k) + tot (ss.drop k) := by
    unfold tot
    rw [← List.sum_append, ← List.map_append, List.take_append_drop]
  omega
theorem sr_len : ∀ (ss : List ByteArray), (∀ s ∈ ss, s.size ≤ 1000000000) → (sr ss).length ≤ 10 * ss.length + tot ss
  | [], _ => by simp [sr, tot]
  | s :: ss, h => by
    have h1 := sr_len ss (fun x hx => h x (by simp [hx]))
    have h2 := grp_len s.size (by have := h s (by simp); unfold Nm.top; omega)
    have h3 := Lib.size_eq s
    unfold sr tot row at *
    simp at *
    omega
theorem tot_mem (ss : List ByteArray) (s : ByteArray) (h : s ∈ ss) : s.size ≤ tot ss := by
  induction ss with
  | nil => cases h
  | cons x xs ih =>
    have e : tot (x :: xs) = x.size + tot xs := by simp [tot]
    rcases List.mem_cons.1 h with rfl | h
    · omega
    · have := ih h; omega

set_option maxHeartbeats 400000 in
theorem Great_any (ss : List ByteArray) (A : Option Addr) (cap : Nat) (w : World) (hl : Lies w A (sc ss)) (hm : ss.length ≤ maxLen) (hs : ∀ s ∈ ss, s.size ≤ maxLen) :
    Calls Try.prog 16 #[.slice A ss.length cap] w fun e w' => e = .returned (.bool (decide (120 < ss.length ∨ 20000 < tot ss))) ∧ w = w' := by
  unfold maxLen at hm
  have Hs := Lib.hid hs
  clear hs
  by_cases hg : 120 < ss.length
  · go_enter Try.func16, Try.ntmps16
    go_wp2
    go_ret
    exact ⟨by simp [hg], rfl⟩
  · have d1 : decide ((120 : Int) < (ss.length : Int)) = false := by simp; omega
    go_enter Try.func16, Try.ntmps16
    go_wp2
    go_loop [3, 4] (fun n i => ∃ k : Nat, k ≤ ss.length ∧ i = .int .i64 k ∧ n = .int .i64 (tot (ss.take k) : Nat) ∧ tot (ss.take k) ≤ 20000 * k) (fun _ i => ss.length - (intOf i).toNat)
    case atStart => exact ⟨0, Nat.zero_le _, rfl, rfl, by simp [tot]⟩
    case round =>
      obtain ⟨k, hk, rfl, rfl, htk⟩ := hrel
      by_cases hlt : k < ss.length
      · rcases hl with hl | ⟨b, off, rfl, hlb, hc⟩
        · exfalso; have := congrArg List.length hl; simp [sc] at this; simp [this] at hlt
        · have hcell : w.cell? ⟨b, off + k, none⟩ = some (.string ss[k]) := hc k _ (by simp [sc, hlt])
          have hsz := Hs.out ss[k] (List.getElem_mem hlt)
          have hmem := tot_mem ss ss[k] (List.getElem_mem hlt)
          unfold maxLen at hsz
          have Hts := Lib.hid (tot_take ss k hlt)
          obtain ⟨s, hs⟩ : ∃ s, s = ss[k] := ⟨_, rfl⟩
          rw [← hs] at hcell hsz Hts hmem
          clear hs hc
          by_cases hb : 20000 < s.size
          · go_wp2
            go_ret
            exact ⟨by simp; omega, rfl⟩
          · go_wp2
            go_round
            case rel => exact ⟨k + 1, by omega, by go_num, by rw [Hts.out]; go_num, by rw [Hts.out]; omega⟩
            case measure => simp [intOf]; omega
      · obtain rfl : k = ss.length := by omega
        rw [List.take_length] at htk ⊢
        go_wp2
        go_ret
        exact ⟨by simp; omega, rfl⟩
end Go.Proofs.Ytnfghgkdedmphaa
