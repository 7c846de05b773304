/-
  What a leader knows of another node: the program's methods walked.
-/
import Derived.Test.YtlnohjboldenpaaRPgLem
set_option linter.unusedSimpArgs false
set_option linter.unusedVariables false
namespace Go.Proofs.Ytlnohjboldenpaa
open Go.RowKit
set_option maxRecDepth 100000 in
theorem matched_any (p : Pg.P) (hm : p.m < Pg.lim) (i : Nat) (hi : i < Pg.lim) (w : World) : Calls Try.prog 76 #[.agg (pgC p), .int .u64 (i : Int)] w (RetP (.agg (pgC (Pg.matched p i))) w) := by
  obtain ⟨m, n, r, s, c⟩ := p
  obtain ⟨R, hR⟩ : ∃ R, R = pgC (Pg.matched ⟨m, n, r, s, c⟩ i) := ⟨_, rfl⟩
  rw [← hR]
  have HR := Lib.hid hR
  clear hR
  obtain ⟨M, hM⟩ : ∃ M, M = max m i := ⟨_, rfl⟩
  have HM := Lib.hid hM
  unfold pgC Pg.lim at *
  dsimp only at *
  have e1 : (if m < i then (i : Int) else (m : Int)) = (M : Int) := by split <;> omega
  have hMl : M < 4611686018427387904 := by omega
  clear hM hm hi
  go_enter Try.func76, Try.ntmps76
  go_upto_region 2 with fail
  try rw [e1]
  clear e1
  by_cases h2 : n < M + 1
  · have a1 : (n < M + 1) = True := eq_true h2
    have a2 : ((n : Int) < (M : Int) + 1) = True := by simp; omega
    have E2 : Hid (max n (M + 1) = M + 1) := Lib.hid (by omega)
    by_cases h3 : s ≤ M
    · have b1 : decide (s ≤ M) = true := decide_eq_true h3
      have b2 : ((s : Int) ≤ (M : Int)) = True := by simp; omega
      have H3 := Lib.hid h3
      clear h2 h3
      go_wp2_with fail
      exact bodyPost_ret (results_cell_row (P := Try.prog) (fn := Try.f76) rfl _ _ (w.heap.size + 1) 57 _ (0, 0) _ rfl (row_two w _ _) Try.underlying57 rfl sizePg) rfl ⟨by rw [HR.out]; simp only [Pg.matched, ← HM.out, E2.out, if_pos H3.out] <;> rfl, bel_two w _ _⟩
    · have b1 : decide (s ≤ M) = false := decide_eq_false h3
      have b2 : ((s : Int) ≤ (M : Int)) = False := by simp; omega
      have H3 := Lib.hid h3
      clear h2 h3
      go_wp2_with fail
      exact bodyPost_ret (results_cell_row (P := Try.prog) (fn := Try.f76) rfl _ _ (w.heap.size + 1) 57 _ (0, 0) _ rfl (row_two w _ _) Try.underlying57 rfl sizePg) rfl ⟨by rw [HR.out]; simp only [Pg.matched, ← HM.out, E2.out, if_neg H3.out] <;> rfl, bel_two w _ _⟩
  · have a1 : (n < M + 1) = False := eq_false h2
    have a2 : ((n : Int) < (M : Int) + 1) = False := by simp; omega
    have E2 : Hid (max n (M + 1) = n) := Lib.hid (by omega)
    by_cases h3 : s ≤ M
    · have b1 : decide (s ≤ M) = true := decide_eq_true h3
      have b2 : ((s : Int) ≤ (M : Int)) = True := by simp; omega
      have H3 := Lib.hid h3
      clear h2 h3
      go_wp2_with fail
      exact bodyPost_ret (results_cell_row (P := Try.prog) (fn := Try.f76) rfl _ _ (w.heap.size + 1) 57 _ (0, 0) _ rfl (row_two w _ _) Try.underlying57 rfl sizePg) rfl ⟨by rw [HR.out]; simp only [Pg.matched, ← HM.out, E2.out, if_pos H3.out] <;> rfl, bel_two w _ _⟩
    · have b1 : decide (s ≤ M) = false := decide_eq_false h3
      have b2 : ((s : Int) ≤ (M : Int)) = False := by simp; omega
      have H3 := Lib.hid h3
      clear h2 h3
      go_wp2_with fail
      exact bodyPost_ret (results_cell_row (P := Try.prog) (fn := Try.f76) rfl _ _ (w.heap.size + 1) 57 _ (0, 0) _ rfl (row_two w _ _) Try.underlying57 rfl sizePg) rfl ⟨by rw [HR.out]; simp only [Pg.matched, ← HM.out, E2.out, if_neg H3.out] <;> rfl, bel_two w _ _⟩
set_option maxRecDepth 100000 in
theorem psend_any (p : Pg.P) (k : Nat) (w : World) : Calls Try.prog 32 #[.agg (pgC p), .int .u64 (k : Int)] w (RetP (.agg (pgC (Pg.send p k))) w) := by
  obtain ⟨m, n, r, s, c⟩ := p
  by_cases h : s = k
  · subst h
    have E : Pg.send ⟨m, n, r, s, c⟩ s = ⟨m, n, r, s, c⟩ := by simp [Pg.send]
    rw [E]
    unfold pgC
    clear E
    go_enter Try.func32, Try.ntmps32
    go_wp2_with fail
    exact bodyPost_ret (results_cell_row (P := Try.prog) (fn := Try.f32) rfl _ _ (w.heap.size + 1) 57 _ (0, 0) _ rfl (row_two w _ _) Try.underlying57 rfl sizePg) rfl ⟨rfl, bel_two w _ _⟩
  · have E : Pg.send ⟨m, n, r, s, c⟩ k = ⟨m, n, r, k, 0⟩ := by simp [Pg.send, h]
    have a1 : ((s : Int) != (k : Int)) = true := by simp; omega
    have a2 : ((s : Int) = (k : Int)) = False := by simp; omega
    rw [E]
    unfold pgC
    clear E h
    go_enter Try.func32, Try.ntmps32
    go_wp2_with fail
    exact bodyPost_ret (results_cell_row (P := Try.prog) (fn := Try.f32) rfl _ _ (w.heap.size + 1) 57 _ (0, 0) _ rfl (row_two w _ _) Try.underlying57 rfl sizePg) rfl ⟨rfl, bel_two w _ _⟩
set_option maxRecDepth 100000 in
theorem psect_any (p : Pg.P) (k d : Nat) (w : World) : Calls Try.prog 35 #[.agg (pgC p), .int .u64 (k : Int), .int .u8 (d : Int)] w (RetP (.agg (pgC (Pg.sect p k d))) w) := by
  obtain ⟨m, n, r, s, c⟩ := p
  by_cases h0 : k = 0
  · subst h0
    have E : Pg.sect ⟨m, n, r, s, c⟩ 0 d = ⟨m, n, r, s, c⟩ := by simp [Pg.sect]
    rw [E]
    unfold pgC
    clear E
    go_enter Try.func35, Try.ntmps35
    go_wp2_with fail
    exact bodyPost_ret (results_cell_row (P := Try.prog) (fn := Try.f35) rfl _ _ (w.heap.size + 1) 57 _ (0, 0) _ rfl (row_two w _ _) Try.underlying57 rfl sizePg) rfl ⟨rfl, bel_two w _ _⟩
  have a1 : ((k : Int) != 0) = true := by simp; omega
  have a2 : ((k : Int) = 0) = False := by simp; omega
  by_cases h1 : s = k
  · subst h1
    by_cases h2 : d < 5
    · have E : Pg.sect ⟨m, n, r, s, c⟩ s d = ⟨m, n, r, s, d⟩ := by unfold Pg.sect; rw [if_pos ⟨h0, rfl, h2⟩]
      have b1 : decide (d < 5) = true := decide_eq_true h2
      have b2 : ((d : Int) < 5) = True := by simp; omega
      rw [E]
      unfold pgC
      clear E h0 h2
      go_enter Try.func35, Try.ntmps35
      go_wp2_with fail
      exact bodyPost_ret (results_cell_row (P := Try.prog) (fn := Try.f35) rfl _ _ (w.heap.size + 1) 57 _ (0, 0) _ rfl (row_two w _ _) Try.underlying57 rfl sizePg) rfl ⟨rfl, bel_two w _ _⟩
    · have E : Pg.sect ⟨m, n, r, s, c⟩ s d = ⟨m, n, r, s, c⟩ := by unfold Pg.sect; rw [if_neg (fun h => h2 h.2.2)]
      have b1 : decide (d < 5) = false := decide_eq_false h2
      have b2 : ((d : Int) < 5) = False := by simp; omega
      rw [E]
      unfold pgC
      clear E h0 h2
      go_enter Try.func35, Try.ntmps35
      go_wp2_with fail
      exact bodyPost_ret (results_cell_row (P := Try.prog) (fn := Try.f35) rfl _ _ (w.heap.size + 1) 57 _ (0, 0) _ rfl (row_two w _ _) Try.underlying57 rfl sizePg) rfl ⟨rfl, bel_two w _ _⟩
  · have E : Pg.sect ⟨m, n, r, s, c⟩ k d = ⟨m, n, r, s, c⟩ := by unfold Pg.sect; rw [if_neg (fun h => h1 h.2.1)]
    have b1 : ((s : Int) == (k : Int)) = false := by simp; omega
    have b2 : ((s : Int) = (k : Int)) = False := by simp; omega
    rw [E]
    unfold pgC
    clear E h0 h1
    go_enter Try.func35, Try.ntmps35
    go_wp2_with fail
    exact bodyPost_ret (results_cell_row (P := Try.prog) (fn := Try.f35) rfl _ _ (w.heap.size + 1) 57 _ (0, 0) _ rfl (row_two w _ _) Try.underlying57 rfl sizePg) rfl ⟨rfl, bel_two w _ _⟩
end Go.Proofs.Ytlnohjboldenpaa
