/-
  What a leader knows of another node: what was not taken, and Told.
-/
import Derived.Test.YtlnohjboldenpaaRPgFns
set_option linter.unusedSimpArgs false
set_option linter.unusedVariables false
namespace Go.Proofs.Ytlnohjboldenpaa
open Go.RowKit
set_option maxRecDepth 100000 in
theorem refused_any (p : Pg.P) (hm : p.m < Pg.lim) (i : Nat) (hi : i < Pg.lim) (w : World) : Calls Try.prog 77 #[.agg (pgC p), .int .u64 (i : Int)] w (RetP (.agg (pgC (Pg.refused p i))) w) := by
  obtain ⟨m, n, r, s, c⟩ := p
  obtain ⟨X, hX⟩ : ∃ X, X = max (min n (i + 1)) (m + 1) := ⟨_, rfl⟩
  have E : Pg.refused ⟨m, n, r, s, c⟩ i = ⟨m, X, r, s, c⟩ := by rw [hX]; rfl
  rw [E]
  clear E
  unfold pgC Pg.lim at *
  dsimp only at *
  by_cases h1 : i + 1 < n
  · have a1 : (i + 1 < n) = True := eq_true h1
    have a2 : ((i : Int) + 1 < (n : Int)) = True := by simp; omega
    by_cases h2 : i < m
    · have b1 : (i < m) = True := eq_true h2
      have b2 : ((i : Int) < (m : Int)) = True := by simp; omega
      obtain rfl : X = m + 1 := by omega
      clear h1 h2 hX
      go_enter Try.func77, Try.ntmps77
      go_wp2_with fail
      exact bodyPost_ret (results_cell_row (P := Try.prog) (fn := Try.f77) rfl _ _ (w.heap.size + 1) 57 _ (0, 0) _ rfl (row_two w _ _) Try.underlying57 rfl sizePg) rfl ⟨rfl, bel_two w _ _⟩
    · have b1 : (i < m) = False := eq_false h2
      have b2 : ((i : Int) < (m : Int)) = False := by simp; omega
      obtain rfl : X = i + 1 := by omega
      clear h1 h2 hX
      go_enter Try.func77, Try.ntmps77
      go_wp2_with fail
      exact bodyPost_ret (results_cell_row (P := Try.prog) (fn := Try.f77) rfl _ _ (w.heap.size + 1) 57 _ (0, 0) _ rfl (row_two w _ _) Try.underlying57 rfl sizePg) rfl ⟨rfl, bel_two w _ _⟩
  · have a1 : (i + 1 < n) = False := eq_false h1
    have a2 : ((i : Int) + 1 < (n : Int)) = False := by simp; omega
    by_cases h2 : n < m + 1
    · have b1 : (n < m + 1) = True := eq_true h2
      have b2 : ((n : Int) < (m : Int) + 1) = True := by simp; omega
      obtain rfl : X = m + 1 := by omega
      clear h1 h2 hX
      go_enter Try.func77, Try.ntmps77
      go_wp2_with fail
      exact bodyPost_ret (results_cell_row (P := Try.prog) (fn := Try.f77) rfl _ _ (w.heap.size + 1) 57 _ (0, 0) _ rfl (row_two w _ _) Try.underlying57 rfl sizePg) rfl ⟨rfl, bel_two w _ _⟩
    · have b1 : (n < m + 1) = False := eq_false h2
      have b2 : ((n : Int) < (m : Int) + 1) = False := by simp; omega
      obtain rfl : X = n := by omega
      clear h1 h2 hX
      go_enter Try.func77, Try.ntmps77
      go_wp2_with fail
      exact bodyPost_ret (results_cell_row (P := Try.prog) (fn := Try.f77) rfl _ _ (w.heap.size + 1) 57 _ (0, 0) _ rfl (row_two w _ _) Try.underlying57 rfl sizePg) rfl ⟨rfl, bel_two w _ _⟩
/-- A peer of nothing, as cells. -/
def pgZ : Array Value := #[.int .u64 0, .int .u64 0, .int .u64 0, .int .u64 0, .int .u8 0]
set_option maxRecDepth 100000 in
theorem ptold_any (p : Pg.P) (hm : p.m < Pg.lim) (ok : Bool) (i t : Nat) (hi : i < Pg.lim) (w : World) : Calls Try.prog 30 #[.agg (pgC p), .bool ok, .int .u64 (i : Int), .int .u64 (t : Int)] w (RetP (.agg (pgC (Pg.told p ok i t))) w) := by
  obtain ⟨m, n, r, s, c⟩ := p
  obtain ⟨R, hR⟩ : ∃ R, R = max r t := ⟨_, rfl⟩
  have e1 : (if r < t then (t : Int) else (r : Int)) = (R : Int) := by split <;> omega
  obtain ⟨q, hq⟩ : ∃ q, q = Pg.told ⟨m, n, r, s, c⟩ ok i t := ⟨_, rfl⟩
  rw [← hq]
  have HZ := pg_size q
  have HO := pg_all q
  have HQs : (pgC q).size = 5 := rfl
  have HQ : Hid (pgC q = pgC q) := Lib.hid rfl
  cases ok with
  | true =>
    have HM : Hid (∀ W, Calls Try.prog 76 #[.agg #[.int .u64 (m : Int), .int .u64 (n : Int), .int .u64 (R : Int), .int .u64 (s : Int), .int .u8 (c : Int)], .int .u64 (i : Int)] W (RetP (.agg (pgC q)) W)) := Lib.hid fun W => by
      have := matched_any ⟨m, n, R, s, c⟩ hm i hi W
      rw [hq, Pg.told, if_pos rfl, ← hR]
      exact this
    obtain ⟨X, hX⟩ : ∃ X, X = pgC q := ⟨_, rfl⟩
    rw [← hX] at HZ HO HQs HM ⊢
    clear HQ hq hR hm hi hX
    unfold pgC
    go_enter Try.func30, Try.ntmps30
    go_upto_region 2 with fail
    try rw [e1]
    go_wp2_with (first
      | (refine wpList_store_sub rfl 57 _ _ rfl (w.heap.size + 1) 0 rfl 57 pgZ X rfl HW (by rw [HQs]; decide) HZ HO ?_)
      | (go_at_call 76; refine (HM.out _).mono ?_; rintro e w1 ⟨rfl, hb1⟩; have HW : Rw w1 (w.heap.size + 1) pgZ 57 := Rw.bel (row_two w _ _) hb1))
    exact bodyPost_ret (results_cell_row (P := Try.prog) (fn := Try.f30) rfl _ _ (w.heap.size + 1) 57 X (0, 0) _ rfl (HW.over (by rw [HQs]; rfl)) Try.underlying57 rfl HZ) rfl ⟨rfl, setCells_below (by omega) _ _ _ (bnext (bel_two w _ _) hb1)⟩
  | false =>
    have HM : Hid (∀ W, Calls Try.prog 77 #[.agg #[.int .u64 (m : Int), .int .u64 (n : Int), .int .u64 (R : Int), .int .u64 (s : Int), .int .u8 (c : Int)], .int .u64 (i : Int)] W (RetP (.agg (pgC q)) W)) := Lib.hid fun W => by
      have := refused_any ⟨m, n, R, s, c⟩ hm i hi W
      rw [hq, Pg.told, if_neg (by decide), ← hR]
      exact this
    obtain ⟨X, hX⟩ : ∃ X, X = pgC q := ⟨_, rfl⟩
    rw [← hX] at HZ HO HQs HM ⊢
    clear HQ hq hR hm hi hX
    unfold pgC
    go_enter Try.func30, Try.ntmps30
    go_upto_region 2 with fail
    try rw [e1]
    go_wp2_with (first
      | (refine wpList_store_sub rfl 57 _ _ rfl (w.heap.size + 1) 0 rfl 57 pgZ X rfl HW (by rw [HQs]; decide) HZ HO ?_)
      | (go_at_call 77; refine (HM.out _).mono ?_; rintro e w1 ⟨rfl, hb1⟩; have HW : Rw w1 (w.heap.size + 1) pgZ 57 := Rw.bel (row_two w _ _) hb1))
    exact bodyPost_ret (results_cell_row (P := Try.prog) (fn := Try.f30) rfl _ _ (w.heap.size + 1) 57 X (0, 0) _ rfl (HW.over (by rw [HQs]; rfl)) Try.underlying57 rfl HZ) rfl ⟨rfl, setCells_below (by omega) _ _ _ (bnext (bel_two w _ _) hb1)⟩
end Go.Proofs.Ytlnohjboldenpaa
