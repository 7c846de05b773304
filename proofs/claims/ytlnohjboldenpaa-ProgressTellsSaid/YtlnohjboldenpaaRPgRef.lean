/-
  What a leader knows of another node: the document's functions walked.
-/
import Derived.Test.YtlnohjboldenpaaRPgLem
import Derived.Deep.RegionLaw
set_option linter.unusedSimpArgs false
set_option linter.unusedVariables false
namespace Go.Proofs.Ytlnohjboldenpaa
open Go.RowKit
theorem row_three (w : World) (o p q : Obj) : (((w.alloc o).alloc p).alloc q).heap[w.heap.size + 1]? = some p := by
  have h1 := row_two w o p
  exact ((bnew (Below.refl ((w.alloc o).alloc p).heap.size ((w.alloc o).alloc p)) q).block _ (Array.getElem?_eq_some_iff.1 h1).1).trans h1
theorem sizePg9 : (Try.prog.info? 59).map (·.size) = some 5 := by kernel_rfl
theorem more_any (a b : Nat) (w : World) : Calls Try.prog 78 #[.int .u64 (a : Int), .int .u64 (b : Int)] w fun e w' => e = .returned (.int .u64 ((max a b : Nat) : Int)) ∧ w' = w := by
  by_cases h : a < b
  · have E : max a b = b := by omega
    rw [E]
    have a1 : decide (a < b) = true := decide_eq_true h
    have a2 : ((a : Int) < (b : Int)) = True := by simp; omega
    clear E h
    go_enter Try.func78, Try.ntmps78
    go_wp2_with fail
    go_ret
    exact ⟨rfl, rfl⟩
  · have E : max a b = a := by omega
    rw [E]
    have a1 : decide (a < b) = false := decide_eq_false h
    have a2 : ((a : Int) < (b : Int)) = False := by simp; omega
    clear E h
    go_enter Try.func78, Try.ntmps78
    go_wp2_with fail
    go_ret
    exact ⟨rfl, rfl⟩
theorem less_any (a b : Nat) (w : World) : Calls Try.prog 79 #[.int .u64 (a : Int), .int .u64 (b : Int)] w fun e w' => e = .returned (.int .u64 ((min a b : Nat) : Int)) ∧ w' = w := by
  by_cases h : a < b
  · have E : min a b = a := by omega
    rw [E]
    have a1 : decide (a < b) = true := decide_eq_true h
    have a2 : ((a : Int) < (b : Int)) = True := by simp; omega
    clear E h
    go_enter Try.func79, Try.ntmps79
    go_wp2_with fail
    go_ret
    exact ⟨rfl, rfl⟩
  · have E : min a b = b := by omega
    rw [E]
    have a1 : decide (a < b) = false := decide_eq_false h
    have a2 : ((a : Int) < (b : Int)) = False := by simp; omega
    clear E h
    go_enter Try.func79, Try.ntmps79
    go_wp2_with fail
    go_ret
    exact ⟨rfl, rfl⟩
set_option maxRecDepth 100000 in
theorem rsend_any (p : Pg.P) (k : Nat) (w : World) : Calls Try.prog 33 #[.agg (pgC p), .int .u64 (k : Int)] w (RetP (.agg (pgC (Pg.send p k))) w) := by
  obtain ⟨m, n, r, s, c⟩ := p
  by_cases h : s = k
  · subst h
    have E : Pg.send ⟨m, n, r, s, c⟩ s = ⟨m, n, r, s, c⟩ := by simp [Pg.send]
    rw [E]
    unfold pgC
    clear E
    go_enter Try.func33, Try.ntmps33
    go_wp2_with fail
    exact bodyPost_ret (results_cell_row (P := Try.prog) (fn := Try.f33) rfl _ _ (w.heap.size + 1) 59 _ (0, 0) _ rfl (row_two w _ _) Try.underlying59 rfl sizePg9) rfl ⟨rfl, bel_two w _ _⟩
  · have E : Pg.send ⟨m, n, r, s, c⟩ k = ⟨m, n, r, k, 0⟩ := by simp [Pg.send, h]
    have a1 : ((s : Int) == (k : Int)) = false := by simp; omega
    have a2 : ((s : Int) = (k : Int)) = False := by simp; omega
    rw [E]
    unfold pgC
    clear E h
    go_enter Try.func33, Try.ntmps33
    go_wp2_with fail
    exact bodyPost_ret (results_cell_row (P := Try.prog) (fn := Try.f33) rfl _ _ (w.heap.size + 1) 59 _ (0, 0) _ rfl (row_two w _ _) Try.underlying59 rfl sizePg9) rfl ⟨rfl, bel_two w _ _⟩
set_option maxRecDepth 100000 in
theorem rsect_any (p : Pg.P) (k d : Nat) (w : World) : Calls Try.prog 36 #[.agg (pgC p), .int .u64 (k : Int), .int .u8 (d : Int)] w (RetP (.agg (pgC (Pg.sect p k d))) w) := by
  obtain ⟨m, n, r, s, c⟩ := p
  by_cases h0 : k = 0
  · subst h0
    have E : Pg.sect ⟨m, n, r, s, c⟩ 0 d = ⟨m, n, r, s, c⟩ := by simp [Pg.sect]
    rw [E]
    unfold pgC
    clear E
    go_enter Try.func36, Try.ntmps36
    go_wp2_with fail
    exact bodyPost_ret (results_cell_row (P := Try.prog) (fn := Try.f36) rfl _ _ (w.heap.size + 1) 59 _ (0, 0) _ rfl (row_two w _ _) Try.underlying59 rfl sizePg9) rfl ⟨rfl, bel_two w _ _⟩
  have a1 : ((k : Int) == 0) = false := by simp; omega
  have a2 : ((k : Int) = 0) = False := by simp; omega
  by_cases h1 : s = k
  · subst h1
    by_cases h2 : d < 5
    · have E : Pg.sect ⟨m, n, r, s, c⟩ s d = ⟨m, n, r, s, d⟩ := by unfold Pg.sect; rw [if_pos ⟨h0, rfl, h2⟩]
      have b1 : decide (4 < d) = false := decide_eq_false (by omega)
      have b2 : ((4 : Int) < (d : Int)) = False := by simp; omega
      rw [E]
      unfold pgC
      clear E h0 h2
      go_enter Try.func36, Try.ntmps36
      go_wp2_with fail
      exact bodyPost_ret (results_cell_row (P := Try.prog) (fn := Try.f36) rfl _ _ (w.heap.size + 1) 59 _ (0, 0) _ rfl (row_two w _ _) Try.underlying59 rfl sizePg9) rfl ⟨rfl, bel_two w _ _⟩
    · have E : Pg.sect ⟨m, n, r, s, c⟩ s d = ⟨m, n, r, s, c⟩ := by unfold Pg.sect; rw [if_neg (fun h => h2 h.2.2)]
      have b1 : decide (4 < d) = true := decide_eq_true (by omega)
      have b2 : ((4 : Int) < (d : Int)) = True := by simp; omega
      rw [E]
      unfold pgC
      clear E h0 h2
      go_enter Try.func36, Try.ntmps36
      go_wp2_with fail
      exact bodyPost_ret (results_cell_row (P := Try.prog) (fn := Try.f36) rfl _ _ (w.heap.size + 1) 59 _ (0, 0) _ rfl (row_two w _ _) Try.underlying59 rfl sizePg9) rfl ⟨rfl, bel_two w _ _⟩
  · have E : Pg.sect ⟨m, n, r, s, c⟩ k d = ⟨m, n, r, s, c⟩ := by unfold Pg.sect; rw [if_neg (fun h => h1 h.2.1)]
    have b1 : ((s : Int) != (k : Int)) = true := by simp; omega
    have b2 : ((s : Int) = (k : Int)) = False := by simp; omega
    rw [E]
    unfold pgC
    clear E h0 h1
    go_enter Try.func36, Try.ntmps36
    go_wp2_with fail
    exact bodyPost_ret (results_cell_row (P := Try.prog) (fn := Try.f36) rfl _ _ (w.heap.size + 1) 59 _ (0, 0) _ rfl (row_two w _ _) Try.underlying59 rfl sizePg9) rfl ⟨rfl, bel_two w _ _⟩
set_option maxRecDepth 100000 in
theorem given_any12 (p : Pg.P) (w : World) : Calls Try.prog 29 #[.agg (pgC p)] w (RetP (.agg (pgC p)) w) := by
  obtain ⟨m, n, r, s, c⟩ := p
  unfold pgC
  go_enter Try.func29, Try.ntmps29
  go_wp2_with fail
  exact bodyPost_ret (results_cell_row (P := Try.prog) (fn := Try.f29) rfl _ _ (w.heap.size + 1) 59 _ (0, 0) _ rfl (row_two w _ _) Try.underlying59 rfl sizePg9) rfl ⟨rfl, bel_two w _ _⟩
set_option maxRecDepth 100000 in
theorem sound_any (p : Pg.P) (h : Pg.Sound p) (w : World) : Calls Try.prog 40 #[.agg (pgC p)] w (RetP (.bool true) w) := by
  obtain ⟨m, n, r, s, c⟩ := p
  obtain ⟨h1, h2, h3⟩ := h
  unfold pgC
  dsimp only at *
  have a1 : decide (m < n) = true := decide_eq_true h1
  have a2 : ((m : Int) < (n : Int)) = True := by simp; omega
  have b1 : decide (c < 5) = true := decide_eq_true h2
  have b2 : ((c : Int) < 5) = True := by simp; omega
  by_cases hs : 0 < s
  · have c1 : decide (0 < s) = true := decide_eq_true hs
    have c2 : ((0 : Int) < (s : Int)) = True := by simp; omega
    clear h1 h2 h3 hs
    go_enter Try.func40, Try.ntmps40
    go_wp2_with fail
    go_ret
    exact ⟨rfl, bnew (Below.refl _ _) _⟩
  · obtain rfl : s = 0 := by omega
    obtain rfl : c = 0 := by omega
    clear h1 h2 h3 hs b1 b2
    go_enter Try.func40, Try.ntmps40
    go_wp2_with fail
    go_ret
    exact ⟨rfl, bnew (Below.refl _ _) _⟩
end Go.Proofs.Ytlnohjboldenpaa
