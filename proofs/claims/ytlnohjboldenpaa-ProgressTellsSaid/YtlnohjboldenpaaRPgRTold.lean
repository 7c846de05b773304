/-
  What a leader knows of another node: the document's Told walked.
-/
import Derived.Test.YtlnohjboldenpaaRPgRef
set_option linter.unusedSimpArgs false
set_option linter.unusedVariables false
namespace Go.Proofs.Ytlnohjboldenpaa
open Go.RowKit
set_option maxRecDepth 100000 in
set_option maxHeartbeats 1000000 in
theorem rtold_yes (p : Pg.P) (hm : p.m < Pg.lim) (i t : Nat) (hi : i < Pg.lim) (w : World) : Calls Try.prog 31 #[.agg (pgC p), .bool true, .int .u64 (i : Int), .int .u64 (t : Int)] w (RetP (.agg (pgC (Pg.told p true i t))) w) := by
  obtain ⟨m, n, r, s, c⟩ := p
  obtain ⟨X, hX⟩ : ∃ X, X = pgC (Pg.told ⟨m, n, r, s, c⟩ true i t) := ⟨_, rfl⟩
  rw [← hX]
  have HX := Lib.hid hX
  clear hX
  obtain ⟨R, hR⟩ : ∃ R, R = max r t := ⟨_, rfl⟩
  obtain ⟨M, hM⟩ : ∃ M, M = max m i := ⟨_, rfl⟩
  obtain ⟨N, hN⟩ : ∃ N, N = max n (M + 1) := ⟨_, rfl⟩
  have H1 : Hid (∀ W, Calls Try.prog 78 #[.int .u64 (r : Int), .int .u64 (t : Int)] W fun e w' => e = .returned (.int .u64 (R : Int)) ∧ w' = W) := Lib.hid fun W => by rw [hR]; exact more_any r t W
  have H2 : Hid (∀ W, Calls Try.prog 78 #[.int .u64 (m : Int), .int .u64 (i : Int)] W fun e w' => e = .returned (.int .u64 (M : Int)) ∧ w' = W) := Lib.hid fun W => by rw [hM]; exact more_any m i W
  have H3 : Hid (∀ W, Calls Try.prog 78 #[.int .u64 (n : Int), .int .u64 ((M : Int) + 1)] W fun e w' => e = .returned (.int .u64 (N : Int)) ∧ w' = W) := Lib.hid fun W => by rw [hN]; exact more_any n (M + 1) W
  have HR := Lib.hid hR
  have HM := Lib.hid hM
  have HN := Lib.hid hN
  have hMl : M < 4611686018427387904 := by unfold Pg.lim at *; dsimp only at *; omega
  clear hR hM hN hm hi
  unfold pgC
  go_enter Try.func31, Try.ntmps31
  by_cases h3 : s ≤ M
  · have b1 : decide (s ≤ M) = true := decide_eq_true h3
    have b2 : ((s : Int) ≤ (M : Int)) = True := by simp; omega
    have H4 := Lib.hid h3
    clear h3
    go_wp2_with (first
      | (go_at_call 78; with_reducible refine (H3.out _).mono ?_; rintro e w1 ⟨rfl, rfl⟩)
      | (go_at_call 78; with_reducible refine (H2.out _).mono ?_; rintro e w1 ⟨rfl, rfl⟩)
      | (go_at_call 78; with_reducible refine (H1.out _).mono ?_; rintro e w1 ⟨rfl, rfl⟩))
    exact bodyPost_ret (results_cell_row (P := Try.prog) (fn := Try.f31) rfl _ _ (w.heap.size + 1) 59 _ (0, 0) _ rfl (row_three w _ _ _) Try.underlying59 rfl sizePg9) rfl ⟨by rw [HX.out]; simp only [Pg.told, Pg.matched, if_true, ← HR.out, ← HM.out, ← HN.out, if_pos H4.out] <;> rfl, bnew (bel_two w _ _) _⟩
  · have b1 : decide (s ≤ M) = false := decide_eq_false h3
    have b2 : ((s : Int) ≤ (M : Int)) = False := by simp; omega
    have H4 := Lib.hid h3
    clear h3
    go_wp2_with (first
      | (go_at_call 78; with_reducible refine (H3.out _).mono ?_; rintro e w1 ⟨rfl, rfl⟩)
      | (go_at_call 78; with_reducible refine (H2.out _).mono ?_; rintro e w1 ⟨rfl, rfl⟩)
      | (go_at_call 78; with_reducible refine (H1.out _).mono ?_; rintro e w1 ⟨rfl, rfl⟩))
    exact bodyPost_ret (results_cell_row (P := Try.prog) (fn := Try.f31) rfl _ _ (w.heap.size + 1) 59 _ (0, 0) _ rfl (row_three w _ _ _) Try.underlying59 rfl sizePg9) rfl ⟨by rw [HX.out]; simp only [Pg.told, Pg.matched, if_true, ← HR.out, ← HM.out, ← HN.out, if_neg H4.out] <;> rfl, bnew (bel_two w _ _) _⟩
end Go.Proofs.Ytlnohjboldenpaa
