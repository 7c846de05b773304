/-
  Layer 12's law: an act done, and awake.
-/
import Derived.Test.YtlnohjboldenpaaRPgAct
import Derived.Test.YtlnohjboldenpaaRPgRefu
set_option linter.unusedSimpArgs false
set_option linter.unusedVariables false
namespace Go.Proofs.Ytlnohjboldenpaa
open Go.RowKit
theorem row_three1 (w : World) (o p q : Obj) : (((w.alloc o).alloc p).alloc q).heap[w.heap.size + 2]? = some q := by
  have := heap_alloc_new ((w.alloc o).alloc p) q
  rwa [World.size_alloc, World.size_alloc] at this
set_option maxRecDepth 100000 in
set_option maxHeartbeats 1000000 in
theorem does12_any (p : Pg.P) (hm : p.m < Pg.lim) (g : Pg.A) (ha : g.a < Pg.lim) (w : World) : Calls Try.prog 39 #[.agg (pgC p), .agg (pa1 g).toArray] w (RetP (.agg (pgC (Pg.does p g))) w) := by
  obtain ⟨q, hq⟩ : ∃ q, q = Pg.does p g := ⟨_, rfl⟩
  rw [← hq]
  have HT : Hid (g.op = 0 → ∀ W, Calls Try.prog 30 #[.agg (pgC p), .bool g.ok, .int .u64 (g.a : Int), .int .u64 (g.b : Int)] W (RetP (.agg (pgC q)) W)) := Lib.hid fun h W => by
    have := ptold_any p hm g.ok g.a g.b ha W
    rw [hq, Pg.does, if_pos h]; exact this
  have HS : Hid (g.op = 1 → ∀ W, Calls Try.prog 32 #[.agg (pgC p), .int .u64 (g.a : Int)] W (RetP (.agg (pgC q)) W)) := Lib.hid fun h W => by
    have := psend_any p g.a W
    rw [hq, Pg.does, if_neg (by omega), if_pos h]; exact this
  have HC : Hid (g.op = 2 → ∀ W, Calls Try.prog 35 #[.agg (pgC p), .int .u64 (g.a : Int), .int .u8 (g.c : Int)] W (RetP (.agg (pgC q)) W)) := Lib.hid fun h W => by
    have := psect_any p g.a g.c W
    rw [hq, Pg.does, if_neg (by omega), if_neg (by omega), if_pos h]; exact this
  have HE : Hid (g.op ≠ 0 → g.op ≠ 1 → g.op ≠ 2 → q = p) := Lib.hid fun h0 h1 h2 => by rw [hq, Pg.does, if_neg h0, if_neg h1, if_neg h2]
  have HZ := pg_size q
  have HO := pg_all q
  have HQs : (pgC q).size = 5 := rfl
  obtain ⟨X, hX⟩ : ∃ X, X = pgC q := ⟨_, rfl⟩
  have HX : Hid (X = pgC q) := Lib.hid hX
  rw [← hX] at HZ HO HQs HT HS HC ⊢
  clear hq hX hm ha
  obtain ⟨op, ok, a, b, c⟩ := g
  obtain ⟨m, n, r, s, d⟩ := p
  unfold pgC at HT HS HC ⊢
  unfold pa1
  dsimp only [List.toArray] at *
  by_cases h0 : op = 0
  · have HT2 := Lib.hid (HT.out h0)
    subst h0
    clear HT HS HC HE
    go_enter Try.func39, Try.ntmps39
    go_wp2_with (first
      | (refine wpList_store_sub rfl 57 _ _ rfl (w.heap.size + 2) 0 rfl 57 pgZ X rfl HW (by rw [HQs]; decide) HZ HO ?_)
      | (go_at_call 30; refine (HT2.out _).mono ?_; rintro e w1 ⟨rfl, hb1⟩; have HW : Rw w1 (w.heap.size + 2) pgZ 57 := Rw.bel (row_three1 w _ _ _) hb1))
    exact bodyPost_ret (results_cell_row (P := Try.prog) (fn := Try.f39) rfl _ _ (w.heap.size + 2) 57 X (0, 0) _ rfl (HW.over (by rw [HQs]; rfl)) Try.underlying57 rfl HZ) rfl ⟨rfl, setCells_below (by omega) _ _ _ (bnext (bnew (bel_two w _ _) _) hb1)⟩
  by_cases h1 : op = 1
  · have HT2 := Lib.hid (HS.out h1)
    subst h1
    clear HT HS HC HE h0
    go_enter Try.func39, Try.ntmps39
    go_wp2_with (first
      | (refine wpList_store_sub rfl 57 _ _ rfl (w.heap.size + 2) 0 rfl 57 pgZ X rfl HW (by rw [HQs]; decide) HZ HO ?_)
      | (go_at_call 32; refine (HT2.out _).mono ?_; rintro e w1 ⟨rfl, hb1⟩; have HW : Rw w1 (w.heap.size + 2) pgZ 57 := Rw.bel (row_three1 w _ _ _) hb1))
    exact bodyPost_ret (results_cell_row (P := Try.prog) (fn := Try.f39) rfl _ _ (w.heap.size + 2) 57 X (0, 0) _ rfl (HW.over (by rw [HQs]; rfl)) Try.underlying57 rfl HZ) rfl ⟨rfl, setCells_below (by omega) _ _ _ (bnext (bnew (bel_two w _ _) _) hb1)⟩
  by_cases h2 : op = 2
  · have HT2 := Lib.hid (HC.out h2)
    subst h2
    clear HT HS HC HE h0 h1
    go_enter Try.func39, Try.ntmps39
    go_wp2_with (first
      | (refine wpList_store_sub rfl 57 _ _ rfl (w.heap.size + 2) 0 rfl 57 pgZ X rfl HW (by rw [HQs]; decide) HZ HO ?_)
      | (go_at_call 35; refine (HT2.out _).mono ?_; rintro e w1 ⟨rfl, hb1⟩; have HW : Rw w1 (w.heap.size + 2) pgZ 57 := Rw.bel (row_three1 w _ _ _) hb1))
    exact bodyPost_ret (results_cell_row (P := Try.prog) (fn := Try.f39) rfl _ _ (w.heap.size + 2) 57 X (0, 0) _ rfl (HW.over (by rw [HQs]; rfl)) Try.underlying57 rfl HZ) rfl ⟨rfl, setCells_below (by omega) _ _ _ (bnext (bnew (bel_two w _ _) _) hb1)⟩
  · have HQ := Lib.hid (HE.out h0 h1 h2)
    have c0 : ((op : Int) == 0) = false := by simp; omega
    have c1 : ((op : Int) == 1) = false := by simp; omega
    have c2 : ((op : Int) == 2) = false := by simp; omega
    have d0 : ((op : Int) = 0) = False := by simp; omega
    have d1 : ((op : Int) = 1) = False := by simp; omega
    have d2 : ((op : Int) = 2) = False := by simp; omega
    clear HT HS HC HE h0 h1 h2
    go_enter Try.func39, Try.ntmps39
    go_wp2_with fail
    exact bodyPost_ret (results_cell_row (P := Try.prog) (fn := Try.f39) rfl _ _ (w.heap.size + 2) 57 _ (0, 0) _ rfl (row_three1 w _ _ _) Try.underlying57 rfl sizePg) rfl ⟨by rw [HX.out, HQ.out]; rfl, bnew (bel_two w _ _) _⟩
end Go.Proofs.Ytlnohjboldenpaa
