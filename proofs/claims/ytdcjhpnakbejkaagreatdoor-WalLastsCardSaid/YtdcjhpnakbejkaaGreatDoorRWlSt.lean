/-
  What stands in a segment in whose Begin the power went. No program is named here.
  wal's Segments walked on a disk that has no file; slices.Sort of no numbers.
-/
import Derived.Test.YtdcjhpnakbejkaaGreatDoorRWwT
import Derived.Test.YtdcjhpnakbejkaaGreatDoorRWwW
import Derived.Test.YtdcjhpnakbejkaaGreatDoorRWlM
import Derived.Test.YtdcjhpnakbejkaaGreatDoorRWrB
import Derived.Test.YtdcjhpnakbejkaaGreatDoorRWwX
set_option linter.unusedSimpArgs false
set_option linter.unusedVariables false
namespace Go.Proofs.YtdcjhpnakbejkaaGreatDoor
namespace Wl
open Dk (D Fl find)
theorem take_seg (b snap : Nat) (l : List R) (k : Nat) : (segT b snap l).take (k + 1) = segT b snap (l.take k) := by simp [segT]
theorem files_nil {d : D} (h : ∀ m, find d.files m = none) : d.files = [] := by
  cases hf : d.files with
  | nil => rfl
  | cons f fs =>
    exfalso
    have := h f.name
    rw [hf, Dk.find_cons, if_pos rfl] at this
    cases this
/-- What is read of m rows, the first of which is the head. -/
def stands (snap : Nat) (l : List R) (m : Nat) : Nat × List R × Bool := if m = 0 then (0, [], false) else (snap, l.take (m - 1), decide (l.length ≤ m - 1))
theorem base_read {d : D} {snap k : Nat} {l : List R} (hw : Was d (name 7) ((segT l.length snap l).take k) 0) (ho : ∀ m, m ≠ name 7 → find d.files m = none) (hb : l.length < Nm.top) (hp : snap < Nm.top) (hg : Good l) (keep torn : List Int) :
    (Dk.list (Dk.start (Dk.crash d keep torn)) = [] ∧ readD (Dk.start (Dk.crash d keep torn)) 7 = ((0, [], false), .none)) ∨
    ∃ m, m ≤ l.length + 1 ∧ (Dk.records (Dk.start (Dk.crash d keep torn)) (name 7)).1 = m ∧ readD (Dk.start (Dk.crash d keep torn)) 7 = (stands snap l m, .ok) := by
  rcases hw with hw | ⟨_, _, hn⟩
  case inr =>
    left
    refine ⟨?_, none_read hn keep torn⟩
    have h : (Dk.crash d keep torn).files = [] := files_nil fun m => by
      by_cases hm : m = name 7
      · rw [hm]; exact crash_none hn keep torn
      · exact crash_none (ho m hm) keep torn
    show (Dk.crash d keep torn).files.map _ = []
    rw [h]; rfl
  right
  cases k with
  | zero =>
    obtain ⟨f, m, p, h1, h2, h3, h4, h5, h6⟩ := crash_is hw (Nat.zero_le _) (fun t ht => by simp at ht) keep torn
    have hm : m = 0 := by simp at h3; exact h3
    subst hm
    refine ⟨0, Nat.zero_le _, ?_, ?_⟩
    · have h1' : find (Dk.start (Dk.crash d keep torn)).files (name 7) = some f := h1
      unfold Dk.records; rw [h1']; exact h4
    have h1' : find (Dk.start (Dk.crash d keep torn)).files (name 7) = some f := h1
    have hr : Dk.read (Dk.start (Dk.crash d keep torn)) (name 7) = (Dk.bytes f, .ok) := by
      unfold Dk.read
      rw [if_neg (by show ¬ (false = true); decide), h1']
    unfold readD
    rw [hr]
    simp only [if_true]
    congr 1
    rw [h5]
    exact read_none h6
  | succ k =>
    rw [take_seg] at hw
    obtain ⟨m, h1, h2, h3, h4⟩ := crash_read hw (Nat.zero_le _) hb hp (hg.sub fun r hr => List.mem_of_mem_take hr) keep torn
    rw [List.length_take] at h2
    refine ⟨m, by omega, h3, ?_⟩
    rw [h4]
    unfold stands
    by_cases hm : m = 0
    · rw [if_pos hm, if_pos hm]
    · rw [if_neg hm, if_neg hm, List.take_take, Nat.min_eq_left (by omega)]
theorem stands_says {snap : Nat} {l : List R} {m : Nat} (hm : m ≤ l.length + 1) : (stands snap l m).2.1 <+: l ∧ (stands snap l m).2.2 = (decide ((stands snap l m).2.1.length = l.length) && decide (0 < m)) ∧ ((stands snap l m).2.2 = true → (stands snap l m).1 = snap) ∧ (stands snap l m).2.1.length ≤ l.length := by
  unfold stands
  by_cases h0 : m = 0
  · rw [if_pos h0]
    subst h0
    refine ⟨List.nil_prefix, ?_, fun h => Bool.noConfusion h, Nat.zero_le _⟩
    simp
  · rw [if_neg h0]
    have hlen : (l.take (m - 1)).length = m - 1 := by rw [List.length_take]; omega
    refine ⟨List.take_prefix _ _, ?_, fun _ => rfl, ?_⟩
    · show decide (l.length ≤ m - 1) = (decide ((l.take (m - 1)).length = l.length) && decide (0 < m))
      rw [hlen, decide_eq_true (show 0 < m by omega), Bool.and_true, decide_eq_decide]
      omega
    · show (l.take (m - 1)).length ≤ l.length
      rw [hlen]; omega
/-- What may be of a list of an argument's records. -/
theorem right_good {l : List R} (hf : ∀ r ∈ l, Fits r) (hs : great l = false) : Good (l.filter right) ∧ Ok (l.filter right) ∧ cost ((l.filter right).map text) ≤ 85000000 ∧ (l.filter right).length ≤ 40 ∧ l.length ≤ 40 := by
  obtain ⟨h1, h2⟩ := small_of hs
  have hl : (l.filter right).length ≤ 40 := Nat.le_trans (List.length_filter_le _ _) h1
  have ht : ∀ r ∈ l.filter right, (text r).length ≤ 2000001 := fun r hr => by
    obtain ⟨ha, hb⟩ := List.mem_filter.1 hr
    rw [← (textO_ne hb).1]
    exact textO_len (hf r ha) (by have := h2 r ha; omega)
  refine ⟨fun r hr => ?_, ⟨fun r hr => ?_, by omega⟩, ?_, hl, h1⟩
  · obtain ⟨ha, hb⟩ := List.mem_filter.1 hr
    exact ⟨⟨hf r ha, hb⟩, Nat.lt_of_le_of_lt (ht r hr) (by decide)⟩
  · obtain ⟨ha, hb⟩ := List.mem_filter.1 hr
    exact ⟨hf r ha, by have := h2 r ha; omega⟩
  · have hc := cost_le ((l.filter right).map text) 2000001 fun t htm => by
      obtain ⟨r, hr, rfl⟩ := List.mem_map.1 htm
      exact ht r hr
    rw [List.length_map] at hc
    have : (60 + 2000001) * (l.filter right).length ≤ (60 + 2000001) * 40 := Nat.mul_le_mul_left _ hl
    omega
end Wl
end Go.Proofs.YtdcjhpnakbejkaaGreatDoor
namespace Go.Proofs.YtdcjhpnakbejkaaGreatDoor
open Go.RowKit
theorem len64_0 (w : World) : Calls Tryz.prog 196 #[.int .u64 0] w fun e w' => e = .returned (.int .i64 0) ∧ w = w' := by
  go_enter Tryz.func196, Tryz.ntmps196
  go_wp2_with fail
  go_ret
  exact ⟨by have h : Lib.len8 0 = 0 := (by decide +kernel); rw [h]; first | rfl | (show Ending.returned (Value.int IntKind.i64 (wrap64 (wrap64 0))) = _; rw [show wrap64 (wrap64 0) = 0 by decide +kernel]), rfl⟩
set_option maxRecDepth 100000 in
theorem len_0 (w : World) : Calls Tryz.prog 130 #[.int .u64 0] w fun e w' => e = .returned (.int .i64 0) ∧ w = w' := by
  go_enter Tryz.func130, Tryz.ntmps130
  go_wp2_with (go_at_call 196; refine (len64_0 _).mono ?_; rintro e w1 ⟨rfl, rfl⟩)
  go_ret
  exact ⟨rfl, rfl⟩
theorem insU_0 (v : Value) (w : World) : Calls Tryz.prog 186 #[v, .int .i64 0, .int .i64 0] w fun e w' => e = .returned (.tuple #[]) ∧ w = w' := by
  go_enter Tryz.func186, Tryz.ntmps186
  go_wp2_with fail
  go_loopw [6] (fun i wr => i = .int .i64 1 ∧ w = wr) (fun i _ => 0)
  case atStart => exact ⟨rfl, rfl⟩
  case round =>
    obtain ⟨rfl, rfl⟩ := hrel
    go_wp2_with fail
    go_end0
    exact ⟨rfl, rfl⟩
set_option maxRecDepth 100000 in
theorem pdqU_0 (v : Value) (w : World) : Calls Tryz.prog 129 #[v, .int .i64 0, .int .i64 0, .int .i64 0] w fun e w' => e = .returned (.tuple #[]) ∧ w = w' := by
  go_enter Tryz.func129, Tryz.ntmps129
  go_wp2_with fail
  go_loopw [1, 2] (fun a b wr => a = .int .i64 0 ∧ b = .int .i64 0 ∧ w = wr) (fun _ _ _ => 0)
  case atStart => exact ⟨rfl, rfl, rfl⟩
  case round =>
    obtain ⟨rfl, rfl, rfl⟩ := hrel
    go_wp2_with (go_at_call 186; refine (insU_0 _ _).mono ?_; rintro e w1 ⟨rfl, rfl⟩)
    refine bodyPost_ret (results_none (fn := Tryz.f129) rfl _ _ _) rfl ⟨rfl, rfl⟩
set_option maxRecDepth 100000 in
theorem sortU_0 (A : Option Addr) (cap : Nat) (w : World) : Calls Tryz.prog 74 #[.slice A 0 cap] w fun e w' => e = .returned (.tuple #[]) ∧ w = w' := by
  go_enter Tryz.func74, Tryz.ntmps74
  go_wp2_with (first
    | (go_at_call 130; refine (len_0 _).mono ?_; rintro e w1 ⟨rfl, rfl⟩)
    | (go_at_call 129; refine (pdqU_0 _ _).mono ?_; rintro e w1 ⟨rfl, rfl⟩))
  go_end0
  exact ⟨rfl, rfl⟩
set_option maxRecDepth 100000 in
theorem segs_none {At : DkAt} (K : DiskK At) (W : World) (p : Nat) (S : Nat → Prop) (d : Dk.D) (hA : At W p S d) (h0 : Dk.list d = []) :
    Calls Tryz.prog 20 #[.pointer (some ⟨p, 0, none⟩)] W fun e w' => e = .returned (.slice none 0 0) ∧ Below W.heap.size W w' := by
  have hL := K.list W p S d hA
  rw [h0] at hL
  have HL := Lib.hid hL
  clear hL hA
  go_enter Tryz.func20, Tryz.ntmps20
  go_wp2_with fail
  refine HL.out.mono ?_
  rintro e w1 ⟨A, cap, rfl, _, _, hb1⟩
  have Hb := Lib.hid hb1
  clear hb1
  simp only [List.length_nil]
  go_wp2_with fail
  go_loopw [3, 11] (fun v i wr => v = .slice none 0 0 ∧ i = .int .i64 0 ∧ w1 = wr) (fun _ _ _ => 0)
  case atStart => exact ⟨rfl, rfl, rfl⟩
  case round =>
    obtain ⟨rfl, rfl, rfl⟩ := hrel
    go_wp2_with (go_at_call 74; refine (sortU_0 _ _ _).mono ?_; rintro e w1 ⟨rfl, rfl⟩)
    go_ret
    exact ⟨rfl, Hb.out⟩
end Go.Proofs.YtdcjhpnakbejkaaGreatDoor
