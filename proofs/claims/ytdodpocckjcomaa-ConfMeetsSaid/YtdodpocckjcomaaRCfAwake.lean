/-
  Layer 10's awake walked; the chapter's examples.
-/
import Derived.Test.YtdodpocckjcomaaRCfLevel
set_option linter.unusedSimpArgs false
set_option linter.unusedVariables false
namespace Go.Proofs.Ytdodpocckjcomaa
open Go.RowKit
/-- A contract's end: a value; what was there is as it was. -/
def RetW (v : Value) (w : World) (e : Ending) (w' : World) : Prop := e = .returned v ∧ Below w.heap.size w w'
def mk6 (a b c d e f : Nat) : Array Value := #[.int .u64 (a : Int), .int .u64 (b : Int), .int .u64 (c : Int), .int .u64 (d : Int), .int .u64 (e : Int), .int .u64 (f : Int)]
def fn6 (a b c d e f : Nat) : Nat → Nat
  | 0 => a
  | 1 => b
  | 2 => c
  | 3 => d
  | 4 => e
  | _ => f
theorem mk6_mk (a b c d e f : Nat) (h : a < 100 ∧ b < 100 ∧ c < 100 ∧ d < 100 ∧ e < 100 ∧ f < 100) : Mk (mk6 a b c d e f) (fn6 a b c d e f) :=
  ⟨rfl, fun n hn => by
    rcases (show n = 0 ∨ n = 1 ∨ n = 2 ∨ n = 3 ∨ n = 4 ∨ n = 5 by omega) with rfl | rfl | rfl | rfl | rfl | rfl <;> rfl, fun n hn => by
    rcases (show n = 0 ∨ n = 1 ∨ n = 2 ∨ n = 3 ∨ n = 4 ∨ n = 5 by omega) with rfl | rfl | rfl | rfl | rfl | rfl <;> (simp only [fn6]; omega)⟩
theorem level_7 (w : World) : Calls Try.prog 21 #[.int .u8 7, .agg #[.int .u64 0, .int .u64 9, .int .u64 4, .int .u64 6, .int .u64 0, .int .u64 0]] w (RetW (.int .u64 6) w) := by
  refine (level_any 7 (by decide) (mk6 0 9 4 6 0 0) (fn6 0 9 4 6 0 0) (mk6_mk _ _ _ _ _ _ (by decide)) w).mono ?_
  rintro e w' ⟨v, rfl, hv, _, hb⟩
  have : v = 6 := hv.unique (.inr ⟨by decide, by decide, by decide⟩)
  subst this
  exact ⟨rfl, hb⟩
theorem level_0 (w : World) : Calls Try.prog 21 #[.int .u8 0, .agg #[.int .u64 9, .int .u64 9, .int .u64 9, .int .u64 9, .int .u64 9, .int .u64 9]] w (RetW (.int .u64 0) w) := by
  refine (level_any 0 (by decide) (mk6 9 9 9 9 9 9) (fn6 9 9 9 9 9 9) (mk6_mk _ _ _ _ _ _ (by decide)) w).mono ?_
  rintro e w' ⟨v, rfl, hv, _, hb⟩
  have : v = 0 := hv.unique (.inl ⟨by decide, rfl⟩)
  subst this
  exact ⟨rfl, hb⟩
theorem of_123 (w : World) : Calls Try.prog 11 #[.slice (some ⟨w.heap.size, 0, none⟩) 3 3] (w.alloc (.cells #[.int .u8 1, .int .u8 2, .int .u8 3] 5)) fun e w' => e = .returned (.int .u8 7) ∧ w.alloc (.cells #[.int .u8 1, .int .u8 2, .int .u8 3] 5) = w' :=
  of_any [1, 2, 3] (by decide) _ 3 _ (Lies.new w (nc [1, 2, 3]) 5) (by decide)
theorem of_139 (w : World) : Calls Try.prog 11 #[.slice (some ⟨w.heap.size, 0, none⟩) 3 3] (w.alloc (.cells #[.int .u8 1, .int .u8 3, .int .u8 9] 5)) fun e w' => e = .returned (.int .u8 5) ∧ w.alloc (.cells #[.int .u8 1, .int .u8 3, .int .u8 9] 5) = w' :=
  of_any [1, 3, 9] (by decide) _ 3 _ (Lies.new w (nc [1, 3, 9]) 5) (by decide)
theorem of_none (w : World) : Calls Try.prog 11 #[.slice none 0 0] w fun e w' => e = .returned (.int .u8 0) ∧ w = w' :=
  of_any [] (by decide) none 0 w (.inl rfl) (by decide)
def LiesL (a b : Nat) (n : Nat) (w : World) (e : Ending) (w' : World) : Prop := ∃ A cap, e = .returned (.slice A n cap) ∧ Lies w' A (nc [a, b]) ∧ Below w.heap.size w w'
theorem list_7 (w : World) : Calls Try.prog 9 #[.int .u8 7] w fun e w' => (∃ A cap, e = .returned (.slice A 3 cap)) ∧ Below w.heap.size w w' := by
  refine (list_any10 7 (by decide) w).mono ?_
  rintro e w' ⟨v, rfl, ho, hb⟩
  obtain ⟨A, cap, rfl, _⟩ := ho.lies
  exact ⟨⟨A, cap, rfl⟩, hb⟩
theorem list_5 (w : World) : Calls Try.prog 9 #[.int .u8 5] w fun e w' => ∃ g cap, e = .returned (.slice (some ⟨g, 0, none⟩) 2 cap) ∧ w'.cell? ⟨g, 0, none⟩ = some (.int .u8 1) ∧ w'.cell? ⟨g, 1, none⟩ = some (.int .u8 3) ∧ Below w.heap.size w w' := by
  refine (list_any10 5 (by decide) w).mono ?_
  rintro e w' ⟨v, rfl, ho, hb⟩
  rcases ho.2 with ⟨_, h0⟩ | ⟨g, cap, cur, rfl, _, hg, _, _, _, _⟩
  · cases h0
  · refine ⟨g, cap, rfl, ?_, ?_, hb⟩
    · have := World.ownsRow.cells ho (g := g) rfl 0 (.int .u8 1) rfl
      simpa [Addr.add] using this
    · have := World.ownsRow.cells ho (g := g) rfl 1 (.int .u8 3) rfl
      simpa [Addr.add] using this
set_option maxRecDepth 100000 in
set_option maxHeartbeats 2000000 in
theorem cawake_any (w : World) : Calls Try.prog 8 #[] w (RetW (.bool true) w) := by
  have HW1 := Lib.hid (fun w => won_any 7 3 (by decide) (by decide) w)
  have HW2 := Lib.hid (fun w => won_any 7 1 (by decide) (by decide) w)
  have HH1 := Lib.hid (fun w => has_any 7 2 (by decide) (by decide) w)
  have HH2 := Lib.hid (fun w => has_any 7 4 (by decide) (by decide) w)
  rw [show Cf.won 7 3 = true by decide] at HW1
  rw [show Cf.won 7 1 = false by decide] at HW2
  rw [show Cf.has 7 2 = true by decide] at HH1
  rw [show Cf.has 7 4 = false by decide] at HH2
  go_enter Try.func8, Try.ntmps8
  go_wp2_with fail
  refine (of_123 _).mono ?_
  rintro e w1 ⟨rfl, rfl⟩
  go_wp2_with fail
  refine (HW1.out _).mono ?_
  rintro e w1 ⟨rfl, rfl⟩
  go_wp2_with fail
  refine (HW2.out _).mono ?_
  rintro e w1 ⟨rfl, rfl⟩
  go_wp2_with fail
  refine (level_7 _).mono ?_
  rintro e w2 ⟨rfl, hb2⟩
  have H2 := Lib.hid ((bnew (Below.refl w.heap.size w) _).trans (hb2.mono (by simp)))
  clear hb2
  go_wp2_with fail
  refine (HH1.out _).mono ?_
  rintro e w1 ⟨rfl, rfl⟩
  go_wp2_with fail
  refine (HH2.out _).mono ?_
  rintro e w1 ⟨rfl, rfl⟩
  go_wp2_with fail
  refine (list_7 _).mono ?_
  rintro e w3 ⟨⟨A, cap, rfl⟩, hb3⟩
  have H3 := Lib.hid (bnext H2.out hb3)
  clear hb3
  go_wp2_with fail
  go_ret
  exact ⟨rfl, H3.out⟩
set_option maxRecDepth 100000 in
set_option maxHeartbeats 4000000 in
theorem confKnown_walk (w : World) : Calls Try.prog 4 #[] w fun e w' => e = .returned (.bool true) ∧ Below w.heap.size w w' := by
  have A1 : Hid (∀ w, Calls Try.prog 15 #[.int .u8 5, .int .u8 2] w fun e w' => e = .returned (.tuple #[.int .u8 7, .int .i64 0]) ∧ w = w') := Lib.hid fun w => add_any10 5 2 (by decide) (by decide) w
  have A2 : Hid (∀ w, Calls Try.prog 15 #[.int .u8 5, .int .u8 1] w fun e w' => e = .returned (.tuple #[.int .u8 0, .int .i64 5]) ∧ w = w') := Lib.hid fun w => add_any10 5 1 (by decide) (by decide) w
  have A3 : Hid (∀ w, Calls Try.prog 15 #[.int .u8 5, .int .u8 6] w fun e w' => e = .returned (.tuple #[.int .u8 0, .int .i64 1]) ∧ w = w') := Lib.hid fun w => add_any10 5 6 (by decide) (by decide) w
  have O1 : Hid (∀ w, Calls Try.prog 17 #[.int .u8 7, .int .u8 1] w fun e w' => e = .returned (.tuple #[.int .u8 6, .int .i64 0]) ∧ w = w') := Lib.hid fun w => out_any10 7 1 (by decide) (by decide) w
  have O2 : Hid (∀ w, Calls Try.prog 17 #[.int .u8 6, .int .u8 1] w fun e w' => e = .returned (.tuple #[.int .u8 0, .int .i64 4]) ∧ w = w') := Lib.hid fun w => out_any10 6 1 (by decide) (by decide) w
  have O3 : Hid (∀ w, Calls Try.prog 17 #[.int .u8 6, .int .u8 0] w fun e w' => e = .returned (.tuple #[.int .u8 0, .int .i64 1]) ∧ w = w') := Lib.hid fun w => out_any10 6 0 (by decide) (by decide) w
  have W1 : Hid (∀ w, Calls Try.prog 19 #[.int .u8 3, .int .u8 1] w fun e w' => e = .returned (.bool false) ∧ w = w') := Lib.hid fun w => won_any 3 1 (by decide) (by decide) w
  have W2 : Hid (∀ w, Calls Try.prog 19 #[.int .u8 0, .int .u8 255] w fun e w' => e = .returned (.bool false) ∧ w = w') := Lib.hid fun w => won_any 0 255 (by decide) (by decide) w
  have B1 : Hid (∀ w, Calls Try.prog 13 #[.int .u8 5, .int .u8 2] w fun e w' => e = .returned (.bool false) ∧ w = w') := Lib.hid fun w => has_any 5 2 (by decide) (by decide) w
  have B2 : Hid (∀ w, Calls Try.prog 13 #[.int .u8 5, .int .u8 3] w fun e w' => e = .returned (.bool true) ∧ w = w') := Lib.hid fun w => has_any 5 3 (by decide) (by decide) w
  have N1 : Hid (∀ w, Calls Try.prog 23 #[.int .u8 7, .int .u8 5] w fun e w' => e = .returned (.bool true) ∧ w = w') := Lib.hid fun w => near_any 7 5 (by decide) (by decide) w
  have N2 : Hid (∀ w, Calls Try.prog 23 #[.int .u8 7, .int .u8 7] w fun e w' => e = .returned (.bool true) ∧ w = w') := Lib.hid fun w => near_any 7 7 (by decide) (by decide) w
  have N3 : Hid (∀ w, Calls Try.prog 23 #[.int .u8 7, .int .u8 25] w fun e w' => e = .returned (.bool false) ∧ w = w') := Lib.hid fun w => near_any 7 25 (by decide) (by decide) w
  have N4 : Hid (∀ w, Calls Try.prog 23 #[.int .u8 7, .int .u8 39] w fun e w' => e = .returned (.bool true) ∧ w = w') := Lib.hid fun w => near_any 7 39 (by decide) (by decide) w
  go_enter Try.func4, Try.ntmps4
  go_wp2_with fail
  refine (list_5 _).mono ?_
  rintro e w1 ⟨g, cap, rfl, hc0, hc1, hb1⟩
  have H1 := Lib.hid hb1
  have hcc : Hid (w1.cell? ⟨g, 0, none⟩ = some (.int .u8 1) ∧ w1.cell? ⟨g, 1, none⟩ = some (.int .u8 3)) := Lib.hid ⟨hc0, hc1⟩
  clear hb1 hc0 hc1
  go_wp2_with fail
  refine (A1.out _).mono ?_
  rintro e wx ⟨rfl, rfl⟩
  go_wp2_with fail
  refine (A2.out _).mono ?_
  rintro e wx ⟨rfl, rfl⟩
  go_wp2_with fail
  refine (A3.out _).mono ?_
  rintro e wx ⟨rfl, rfl⟩
  go_wp2_with fail
  refine (O1.out _).mono ?_
  rintro e wx ⟨rfl, rfl⟩
  go_wp2_with fail
  refine (O2.out _).mono ?_
  rintro e wx ⟨rfl, rfl⟩
  go_wp2_with fail
  refine (O3.out _).mono ?_
  rintro e wx ⟨rfl, rfl⟩
  go_wp2_with fail
  refine (of_139 _).mono ?_
  rintro e wx ⟨rfl, rfl⟩
  go_wp2_with fail
  refine (of_none _).mono ?_
  rintro e wx ⟨rfl, rfl⟩
  have hc0 := later (bnew (Below.refl w1.heap.size w1) (.cells #[.int .u8 1, .int .u8 3, .int .u8 9] 5)) hcc.out.1
  have hc1 := later (bnew (Below.refl w1.heap.size w1) (.cells #[.int .u8 1, .int .u8 3, .int .u8 9] 5)) hcc.out.2
  have H2 := Lib.hid (bnew H1.out (.cells #[.int .u8 1, .int .u8 3, .int .u8 9] 5))
  go_wp2_with fail
  refine (B1.out _).mono ?_
  rintro e wx ⟨rfl, rfl⟩
  go_wp2_with fail
  refine (B2.out _).mono ?_
  rintro e wx ⟨rfl, rfl⟩
  go_wp2_with fail
  refine (W1.out _).mono ?_
  rintro e wx ⟨rfl, rfl⟩
  go_wp2_with fail
  refine (W2.out _).mono ?_
  rintro e wx ⟨rfl, rfl⟩
  go_wp2_with fail
  refine (level_0 _).mono ?_
  rintro e w2 ⟨rfl, hb2⟩
  have H3 := Lib.hid (bnext H2.out hb2)
  clear hb2
  go_wp2_with fail
  refine (N1.out _).mono ?_
  rintro e wx ⟨rfl, rfl⟩
  go_wp2_with fail
  refine (N2.out _).mono ?_
  rintro e wx ⟨rfl, rfl⟩
  go_wp2_with fail
  refine (N3.out _).mono ?_
  rintro e wx ⟨rfl, rfl⟩
  go_wp2_with fail
  refine (N4.out _).mono ?_
  rintro e wx ⟨rfl, rfl⟩
  go_wp2_with fail
  refine (cawake_any _).mono ?_
  rintro e w4 ⟨rfl, hb4⟩
  have H4 := Lib.hid (bnext H3.out hb4)
  clear hb4
  go_wp2_with fail
  go_ret
  exact ⟨rfl, H4.out⟩
end Go.Proofs.Ytdodpocckjcomaa
