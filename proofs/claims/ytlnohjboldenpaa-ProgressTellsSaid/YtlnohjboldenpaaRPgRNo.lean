/-
  What a leader knows of another node: the document's Told, of what was not taken.
-/
import Derived.Test.YtlnohjboldenpaaRPgRTold
import Derived.Test.YtlnohjboldenpaaRRw
set_option linter.unusedSimpArgs false
set_option linter.unusedVariables false
namespace Go.Proofs.Ytlnohjboldenpaa
open Go.RowKit
def pgZ9 : Array Value := #[.int .u64 0, .int .u64 0, .int .u64 0, .int .u64 0, .int .u8 0]
theorem row_3of3 (w : World) (o p q : Obj) : (((w.alloc o).alloc p).alloc q).heap[w.heap.size + 2]? = some q := by
  have := heap_alloc_new ((w.alloc o).alloc p) q
  rwa [World.size_alloc, World.size_alloc] at this
theorem row_1of3 (w : World) (o p q : Obj) : (((w.alloc o).alloc p).alloc q).heap[w.heap.size]? = some o := by
  have h1 := heap_alloc_new w o
  have h2 : Below (w.alloc o).heap.size (w.alloc o) (((w.alloc o).alloc p).alloc q) := bnew (bnew (Below.refl _ _) _) _
  exact (h2.block _ (Array.getElem?_eq_some_iff.1 h1).1).trans h1
set_option maxRecDepth 100000 in
set_option maxHeartbeats 1000000 in
theorem rtold_no (p : Pg.P) (hm : p.m < Pg.lim) (i t : Nat) (hi : i < Pg.lim) (w : World) : Calls Try.prog 31 #[.agg (pgC p), .bool false, .int .u64 (i : Int), .int .u64 (t : Int)] w (RetP (.agg (pgC (Pg.told p false i t))) w) := by
  obtain ⟨m, n, r, s, c⟩ := p
  obtain ⟨R, hR⟩ : ∃ R, R = max r t := ⟨_, rfl⟩
  obtain ⟨U, hU⟩ : ∃ U, U = min n (i + 1) := ⟨_, rfl⟩
  obtain ⟨N, hN⟩ : ∃ N, N = max U (m + 1) := ⟨_, rfl⟩
  have E : Pg.told ⟨m, n, r, s, c⟩ false i t = ⟨m, N, R, s, c⟩ := by rw [hN, hU, hR]; rfl
  rw [E]
  have H1 : Hid (∀ W, Calls Try.prog 78 #[.int .u64 (r : Int), .int .u64 (t : Int)] W fun e w' => e = .returned (.int .u64 (R : Int)) ∧ w' = W) := Lib.hid fun W => by rw [hR]; exact more_any r t W
  have H2 : Hid (∀ W, Calls Try.prog 79 #[.int .u64 (n : Int), .int .u64 ((i : Int) + 1)] W fun e w' => e = .returned (.int .u64 (U : Int)) ∧ w' = W) := Lib.hid fun W => by rw [hU]; exact less_any n (i + 1) W
  have H3 : Hid (∀ W, Calls Try.prog 78 #[.int .u64 (U : Int), .int .u64 ((m : Int) + 1)] W fun e w' => e = .returned (.int .u64 (N : Int)) ∧ w' = W) := Lib.hid fun W => by rw [hN]; exact more_any U (m + 1) W
  clear hR hU hN E
  unfold pgC Pg.lim at *
  dsimp only at *
  go_enter Try.func31, Try.ntmps31
  go_upto_region 9 with (go_at_call 78; with_reducible refine (H1.out _).mono ?_; rintro e w1 ⟨rfl, rfl⟩)
  refine forget (fun W => Rw W w.heap.size #[.int .u64 (m : Int), .int .u64 (n : Int), .int .u64 (r : Int), .int .u64 (s : Int), .int .u8 (c : Int)] 59 ∧ Rw W (w.heap.size + 1) pgZ9 59 ∧ Rw W (w.heap.size + 2) #[.int .u64 (m : Int), .int .u64 (n : Int), .int .u64 (R : Int), .int .u64 (s : Int), .int .u8 (c : Int)] 59 ∧ Bl w W) ⟨row_1of3 w _ _ _, row_three w _ _ _, row_3of3 w _ _ _, bnew (bel_two w _ _) _⟩ ?_
  generalize hg : w.heap.size = g
  intro W9 ⟨r1, r2, r3, b9⟩
  have d0 : W9.cell? ⟨g, 0, none⟩ = some (.int .u64 (m : Int)) := r1.cell 0 rfl
  have d1 : W9.cell? ⟨g, 1, none⟩ = some (.int .u64 (n : Int)) := r1.cell 1 rfl
  have f1 : W9.cell? ⟨g + 2, 1, none⟩ = some (.int .u64 (n : Int)) := r3.cell 1 rfl
  have f2 := r3.free 1
  have HR2 := Lib.hid r2
  have HR3 := Lib.hid r3
  have HB9 := Lib.hid b9
  have Hg := Lib.hid hg
  clear r1 r2 r3 b9 hg
  have u1 := Go.IntWalk.u64_in ((i : Int) + 1) (by omega)
  have u2 := Go.IntWalk.u64_in ((m : Int) + 1) (by omega)
  go_region_law (first
      | (go_simp; go_at_call 78; with_reducible refine (H3.out _).mono ?_; rintro e w1 ⟨rfl, rfl⟩)
      | (go_simp; go_at_call 79; with_reducible refine (H2.out _).mono ?_; rintro e w1 ⟨rfl, rfl⟩))
  all_goals
    refine forgetP (fun W => Rw W (g + 1) pgZ9 59 ∧ Rw W (g + 1 + 1) #[.int .u64 (m : Int), .int .u64 (N : Int), .int .u64 (R : Int), .int .u64 (s : Int), .int .u8 (c : Int)] 59 ∧ Bl w W) ⟨Rw.drew (HR2.out.oput (by omega) 1 _), Rw.drew (HR3.out.put 1 (.int .u64 (N : Int))), below_drew (HB9.out.put (by have := Hg.out; omega) 1 _)⟩ ?_
    intro W10 ⟨r2, r3, b10⟩
    have HR2' := Lib.hid r2
    have HR3' := Lib.hid r3
    have hle : w.heap.size ≤ g + 1 := by have := Hg.out; omega
    clear r2 r3 d0 d1 f1 f2 u1 u2 HR2 HR3 HB9
    go_wp2_with (first
      | (refine wpList_load_sub rfl 59 _ rfl (g + 1 + 1) 0 rfl 59 _ #[.int .u64 (m : Int), .int .u64 (N : Int), .int .u64 (R : Int), .int .u64 (s : Int), .int .u8 (c : Int)] (0, 0) _ HR3'.out (fun j hj => by rw [Nat.zero_add]) Try.underlying59 rfl sizePg9 ?_)
      | (refine wpList_store_sub rfl 59 _ _ rfl (g + 1) 0 rfl 59 pgZ9 #[.int .u64 (m : Int), .int .u64 (N : Int), .int .u64 (R : Int), .int .u64 (s : Int), .int .u8 (c : Int)] rfl HR2'.out (Nat.le_refl 5) sizePg9 (pg_all ⟨m, N, R, s, c⟩) ?_))
    exact bodyPost_ret (results_cell_row (P := Try.prog) (fn := Try.f31) rfl _ _ (g + 1) 59 #[.int .u64 (m : Int), .int .u64 (N : Int), .int .u64 (R : Int), .int .u64 (s : Int), .int .u8 (c : Int)] (0, 0) _ rfl (HR2'.out.over rfl) Try.underlying59 rfl sizePg9) rfl ⟨rfl, setCells_below hle _ _ _ b10⟩
end Go.Proofs.Ytlnohjboldenpaa
