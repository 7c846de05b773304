/-
  NumPuts walked.
-/
import Derived.Test.YtnfghgkdedmphaaNumAwake
import Derived.Test.YtnfghgkdedmphaaNumGreat
import Derived.Test.YtnfghgkdedmphaaNumRefR
import Derived.Test.YtnfghgkdedmphaaNumRefS
import Derived.Test.YtnfghgkdedmphaaOpen
namespace Go.Proofs.Ytnfghgkdedmphaa
open Go.RowKit
set_option linter.unusedVariables false

theorem u_both (n : Nat) (hn : n < Nm.top) (width : Int) : ∃ x : ByteArray,
    (∀ W, Calls Try.prog 12 #[.int .u64 (n : Int), .int .i64 width] W fun e w' => e = .returned (.string x) ∧ Below W.heap.size W w') ∧
    (∀ W, Calls Try.prog 19 #[.int .u64 (n : Int), .int .i64 width] W fun e w' => e = .returned (.string x) ∧ Below W.heap.size W w') := by
  by_cases h : width < 1 ∨ 8 < width
  · exact ⟨_, fun W => (U_no n width W h).mono fun e w' ⟨he, hw⟩ => ⟨he, hw ▸ Below.refl _ _⟩, fun W => (refU_no n width W h).mono fun e w' ⟨he, hw⟩ => ⟨he, hw ▸ Below.refl _ _⟩⟩
  · obtain ⟨m, rfl⟩ := Int.eq_ofNat_of_zero_le (show 0 ≤ width by omega)
    exact ⟨_, fun W => U_any n m W (by omega) (by omega), fun W => refU_any n m hn W (by omega) (by omega)⟩

set_option maxRecDepth 100000 in
set_option maxHeartbeats 1000000 in
theorem numPuts_walk (w : World) (A : Option Addr) (cap : Nat) (ns : List Nat) (hl : Lies w A (uc ns)) (hn : ∀ n ∈ ns, n < Nm.top) (hm : ns.length ≤ maxLen)
    (B : Option Addr) (cap' : Nat) (ss : List ByteArray) (hl' : Lies w B (sc ss)) (hs : ∀ s ∈ ss, s.size ≤ maxLen) (hm' : ss.length ≤ maxLen)
    (a : Int) (w2 : (Lit.int .u64 a).wf = true) (width : Int) (w3 : (Lit.int .i64 width).wf = true) :
    Calls Try.prog 4 #[.slice A ns.length cap, .slice B ss.length cap', .int .u64 a, .int .i64 width] w fun e w' => e = .returned (.bool true) ∧ Below w.heap.size w w' := by
  have hG := Great_any ss B cap' w hl' hm' hs
  have HG := Lib.hid hG
  clear hG
  by_cases h1 : 120 < ns.length
  · have hm1 := hm
    unfold maxLen at hm1
    clear hl hl' hs hn
    go_enter Try.func4, Try.ntmps4
    go_wp2_with (go_at_call 15; refine (awake_any _).mono ?_; rintro e w1 ⟨rfl, hb1⟩)
    go_ret
    exact ⟨rfl, hb1⟩
  · have d1 : decide ((120 : Int) < (ns.length : Int)) = false := by simp; omega
    by_cases h2 : 120 < ss.length ∨ 20000 < tot ss
    · rw [decide_eq_true h2] at HG
      clear hl hl' hs hn
      go_enter Try.func4, Try.ntmps4
      go_wp2_with (first | (go_at_call 15; refine (awake_any _).mono ?_; rintro e w1 ⟨rfl, hb1⟩) | (go_at_call 16; refine HG.out.mono ?_; rintro e w' ⟨rfl, rfl⟩))
      go_ret
      exact ⟨rfl, hb1⟩
    · rw [decide_eq_false h2] at HG
      obtain ⟨n, rfl, hnt⟩ := u64_nat w2
      obtain ⟨x, hu1, hu2⟩ := u_both n hnt width
      have hsl : (sr ss).length ≤ 100000000 := by
        have := sr_len ss (fun s h => by have := tot_mem ss s h; omega)
        omega
      obtain ⟨xv, hxv⟩ : ∃ x : ByteArray, x = ⟨(vs ns).toArray⟩ := ⟨_, rfl⟩
      obtain ⟨xs, hxs⟩ : ∃ x : ByteArray, x = ⟨(sr ss).toArray⟩ := ⟨_, rfl⟩
      have hv1 : ∀ W, Below w.heap.size w W → Calls Try.prog 13 #[.slice A ns.length cap] W fun e w' => e = .returned (.string xv) ∧ Below W.heap.size W w' := fun W hb => by
        have := V_any ns hn A cap W (hl.below hb) (by omega); unfold RetS at this; rw [← hxv] at this; exact this
      have hv2 : ∀ W, Below w.heap.size w W → Calls Try.prog 17 #[.slice A ns.length cap] W fun e w' => e = .returned (.string xv) ∧ Below W.heap.size W w' := fun W hb => by
        have := refV_any ns hn A cap W (hl.below hb) (by omega); unfold RetS at this; rw [← hxv] at this; exact this
      have hs1 : ∀ W, Below w.heap.size w W → Calls Try.prog 14 #[.slice B ss.length cap'] W fun e w' => e = .returned (.string xs) ∧ Below W.heap.size W w' := fun W hb => by
        have := S_any ss B cap' W (hl'.below hb) (by omega) hsl; unfold RetS at this; rw [← hxs] at this; exact this
      have hs2 : ∀ W, Below w.heap.size w W → Calls Try.prog 18 #[.slice B ss.length cap'] W fun e w' => e = .returned (.string xs) ∧ Below W.heap.size W w' := fun W hb => by
        have := refS_any ss B cap' W (hl'.below hb) (by omega) hsl; unfold RetS at this; rw [← hxs] at this; exact this
      have Hu1 := Lib.hid hu1
      have Hu2 := Lib.hid hu2
      have Hv1 := Lib.hid hv1
      have Hv2 := Lib.hid hv2
      have Hs1 := Lib.hid hs1
      have Hs2 := Lib.hid hs2
      clear hu1 hu2 hv1 hv2 hs1 hs2 hxv hxs hl hl' hs hn hnt w2 w3
      go_enter Try.func4, Try.ntmps4
      go_wp2_with (first | (go_at_call 16; refine HG.out.mono ?_; rintro e w' ⟨rfl, rfl⟩) | (go_at_call 13; refine (Hv1.out _ (Below.refl _ _)).mono ?_; rintro e w1 ⟨rfl, hb1⟩) | (go_at_call 17; refine (Hv2.out _ hb1).mono ?_; rintro e w2 ⟨rfl, hb2⟩; have hc2 := bnext hb1 hb2) | (go_at_call 14; refine (Hs1.out _ hc2).mono ?_; rintro e w3 ⟨rfl, hb3⟩; have hc3 := bnext hc2 hb3) | (go_at_call 18; refine (Hs2.out _ hc3).mono ?_; rintro e w4 ⟨rfl, hb4⟩; have hc4 := bnext hc3 hb4) | (go_at_call 12; refine (Hu1.out _).mono ?_; rintro e w5 ⟨rfl, hb5⟩) | (go_at_call 19; refine (Hu2.out _).mono ?_; rintro e w6 ⟨rfl, hb6⟩) | (go_at_call 15; refine (awake_any _).mono ?_; rintro e w7 ⟨rfl, hb7⟩))
      go_ret
      exact ⟨rfl, bnext (bnext (bnext hc4 hb5) hb6) hb7⟩
end Go.Proofs.Ytnfghgkdedmphaa
