/-
  ProgressOrder walked.
-/
import Derived.Test.YtlnohjboldenpaaRPgStore
import Derived.Test.YtlnohjboldenpaaRPgAwake
import Derived.Test.YtlnohjboldenpaaRDkB
import Derived.Deep.RegionLaw
set_option linter.unusedSimpArgs false
set_option linter.unusedVariables false
namespace Go.Proofs.Ytlnohjboldenpaa
open Go.RowKit
/-- Two peers that lie in these blocks, and what was there is there. -/
structure PgK (w : World) (g h : Nat) (Y Z : Array Value) (W : World) : Prop where
  rg : Rw W g Y 57
  rh : Rw W h Z 57
  bel : Below w.heap.size w W
theorem PgK.bl {w W W' : World} {g h : Nat} {Y Z : Array Value} (k : PgK w g h Y Z W) (hb : Below W.heap.size W W') : PgK w g h Y Z W' := ⟨k.rg.bel hb, k.rh.bel hb, bnext k.bel hb⟩
theorem pgK_put {w W w2 : World} {g h : Nat} {X Y Z : Array Value} (k : PgK w g h X Y W) (hg : w.heap.size ≤ g) (hne : h ≠ g) (hb : Below W.drew.heap.size W.drew w2) (hx : X.size = 5) (hs : Z.size = 5) (h1 : Z.all (·.oneCell') = true) :
    (storeCells ⟨g, 0, none⟩ Z.toList 0).run Try.prog w2 = .ok () (w2.setCells g 0 Z.toList) ∧ PgK w g h Z Y (w2.setCells g 0 Z.toList) := by
  have hr : Rw w2 g X 57 := Rw.bel (W := W.drew) k.rg hb
  have hh : Rw w2 h Y 57 := Rw.bel (W := W.drew) k.rh hb
  have hb2 : Bl w w2 := bnext (below_drew k.bel) hb
  exact ⟨store_row5 w2 g X Z hr hx hs h1, ⟨hr.over (by rw [hx, hs]), hh.oputs hne _ _, hb2.puts hg _ _⟩⟩
def pgF (gs : List Pg.A) (j : Nat) : Nat × Nat := ((gs.getD j ⟨0, false, 0, 0, 0⟩).a, (gs.getD j ⟨0, false, 0, 0, 0⟩).b)
theorem pgF_at (gs : List Pg.A) (j : Nat) (h : j < gs.length) : pgF gs j = (gs[j].a, gs[j].b) := by
  unfold pgF
  rw [List.getD_eq_getElem?_getD, List.getElem?_eq_getElem h]; rfl
theorem pg_run_m (last : Nat) (f : Nat → Nat × Nat) (n k : Nat) (hk : k ≤ n) (hl : last < Pg.lim) (hf : ∀ j, j < n → (f j).1 < Pg.lim) : (Pg.run last f k).m < Pg.lim := by
  obtain ⟨_, _, h3, _, _⟩ := Pg.run_all last f k
  have : (Pg.run last f k).m ≤ Pg.lim - 1 := (h3 _).2 fun j hj => by have := hf j (by omega); omega
  have h0 : 0 < Pg.lim := by decide
  omega
theorem cutR {G C : Prop} (h : Hid G → C) (g : G) : C := h (Lib.hid g)
set_option maxRecDepth 100000 in
set_option maxHeartbeats 8000000 in
theorem progressOrder_any (w : World) (last : Nat) (A : Option Addr) (cp : Nat) (gs : List Pg.A) (hA : Lies w A (pas gs)) (hn : gs.length ≤ maxLen) (t : Nat) (ht : t < 256) :
    Calls Try.prog 9 #[.int .u64 (last : Int), .slice A gs.length cp, .int .u8 (t : Int)] w (RetP (.bool true) w) := by
  have HAw := Lib.hid awake12_any
  have HG := Lib.hid (great12_any w A cp gs hA hn)
  have G1 := Lib.hid (great1_any last)
  cases hgr : Pg.great gs with
  | true =>
    rw [hgr] at HG
    clear hgr hA hn
    go_enter Try.func9, Try.ntmps9
    go_wp2_with (first | (go_at_call 28; refine (HAw.out w1).mono ?_; rintro e w9 ⟨rfl, b9⟩) | (go_at_call 38; refine HG.out.mono ?_; rintro e w1 ⟨rfl, b1⟩))
    go_ret
    exact ⟨rfl, bnext b1 b9⟩
  | false =>
  rw [hgr] at HG
  obtain ⟨hn2, hal⟩ := pg_great_no hgr
  by_cases h1 : Pg.lim ≤ last
  · rw [decide_eq_true h1] at G1
    clear h1 hgr hA hn hal
    go_enter Try.func9, Try.ntmps9
    go_wp2_with (first | (go_at_call 28; refine (HAw.out w1).mono ?_; rintro e w9 ⟨rfl, b9⟩) | (go_at_call 27; refine (G1.out _).mono ?_; rintro e y1 ⟨rfl, hy1⟩; obtain rfl := hy1.symm) | (go_at_call 38; refine HG.out.mono ?_; rintro e w1 ⟨rfl, b1⟩))
    go_ret
    exact ⟨rfl, bnext b1 b9⟩
  rw [decide_eq_false h1] at G1
  have HA := Lib.hid hA
  have HNw : Hid (∀ W, Calls Try.prog 37 #[.int .u64 (last : Int)] W (RetP (.agg #[.int .u64 0, .int .u64 ((last : Int) + 1), .int .u64 0, .int .u64 0, .int .u8 0]) W)) := Lib.hid fun W => pnew_any last (by omega) W
  have HE0 : Hid (#[.int .u64 0, .int .u64 ((last : Int) + 1), .int .u64 0, .int .u64 0, .int .u8 0] = pgC (Pg.new last)) := Lib.hid rfl
  obtain ⟨n, hnn⟩ : ∃ n, n = gs.length := ⟨_, rfl⟩
  have Hn := Lib.hid hnn
  have HFm : ∀ j, j < n → (pgF gs j).1 < Pg.lim := fun j hj => by
    rw [pgF_at gs j (by omega)]
    exact hal _ (List.getElem_mem _)
  obtain ⟨U, hU⟩ : ∃ U, U = Pg.run last (pgF gs) := ⟨_, rfl⟩
  obtain ⟨V, hVd⟩ : ∃ V, V = Pg.run last (fun j => pgF gs ((j + t) % n)) := ⟨_, rfl⟩
  have HUV : Hid (U n = V n) := Lib.hid (by rw [hU, hVd]; exact Pg.run_turn last (pgF gs) n t)
  have HU0 : Hid (U 0 = Pg.new last ∧ V 0 = Pg.new last) := Lib.hid (by rw [hU, hVd]; exact ⟨rfl, rfl⟩)
  have HTU : Hid (∀ j (hj : j < gs.length) W, Calls Try.prog 30 #[.agg (pgC (U j)), .bool true, .int .u64 ((gs[j].a : Nat) : Int), .int .u64 ((gs[j].b : Nat) : Int)] W (RetP (.agg (pgC (U (j + 1)))) W)) := Lib.hid fun j hj W => by
    have := ptold_any (U j) (by rw [hU]; exact pg_run_m last _ n j (by omega) (by omega) HFm) true gs[j].a gs[j].b (hal _ (List.getElem_mem _)) W
    have e : U (j + 1) = Pg.told (U j) true gs[j].a gs[j].b := by rw [hU, Pg.run, pgF_at gs j hj]
    rw [e]; exact this
  have HTV : Hid (∀ j k (hk : k < gs.length), k = (j + t) % n → j < n → ∀ W, Calls Try.prog 30 #[.agg (pgC (V j)), .bool true, .int .u64 ((gs[k].a : Nat) : Int), .int .u64 ((gs[k].b : Nat) : Int)] W (RetP (.agg (pgC (V (j + 1)))) W)) := Lib.hid fun j k hk hkj hj W => by
    have := ptold_any (V j) (by rw [hVd]; exact pg_run_m last _ n j (by omega) (by omega) (fun i hi => HFm _ (Nat.mod_lt _ (by omega)))) true gs[k].a gs[k].b (hal _ (List.getElem_mem _)) W
    have e : V (j + 1) = Pg.told (V j) true gs[k].a gs[k].b := by rw [hVd, Pg.run, ← hkj, pgF_at gs k hk]
    rw [e]; exact this
  rw [← hnn] at HG hn2 ⊢
  clear h1 hgr hA hn hal hnn hU hVd HFm
  go_enter Try.func9, Try.ntmps9
  go_upto_region 5 with (first
    | (go_at_call 37; refine (HNw.out _).mono ?_; rintro e w2 ⟨rfl, b2⟩)
    | (go_at_call 27; refine (G1.out _).mono ?_; rintro e y1 ⟨rfl, hy1⟩; obtain rfl := hy1.symm)
    | (go_at_call 38; refine HG.out.mono ?_; rintro e w1 ⟨rfl, b1⟩))
  have b12 := bnext b1 b2
  rw [HE0.out]
  have HGe : Hid (w.heap.size ≤ w2.heap.size ∧ w.heap.size ≤ w2.heap.size + 1) := Lib.hid ⟨b12.size, Nat.le_succ_of_le b12.size⟩
  have HK0 : Hid (PgK w w2.heap.size (w2.heap.size + 1) (pgC (Pg.new last)) (pgC (Pg.new last)) ((w2.alloc (.cells (pgC (Pg.new last)) 57)).alloc (.cells (pgC (Pg.new last)) 57))) := Lib.hid ⟨(Rw.new w2 _ _).alloc _, row_two w2 _ _, bnext b12 (bel_two w2 _ _)⟩
  refine forget (PgK w w2.heap.size (w2.heap.size + 1) (pgC (Pg.new last)) (pgC (Pg.new last))) HK0.out ?_
  generalize w2.heap.size = g at HGe ⊢
  intro W3 H3
  have HI3 := Lib.hid H3
  clear H3 b1 b2 b12 HNw G1 HG HE0 HK0
  go_wp2_with fail
  go_loopw [9] (fun iv wr => ∃ (j : Nat), j ≤ n ∧ iv = .int .i64 (j : Int) ∧ PgK w g (g + 1) (pgC (U j)) (pgC (V j)) wr) (fun iv _ => n - (intOf iv).toNat)
  case atStart => exact ⟨0, Nat.zero_le _, rfl, by rw [HU0.out.1, HU0.out.2]; exact HI3.out⟩
  case round =>
    obtain ⟨j, hjn, rfl, hI⟩ := hrel
    have HI := Lib.hid hI
    clear hI
    by_cases hlt : j < n
    · have hje : j < gs.length := by rw [← Hn.out]; exact hlt
      obtain ⟨bl, off, rfl, hE⟩ := (HA.out.below HI.out.bel).act12 j hje
      have HT1 := Lib.hid (HTU.out j hje)
      obtain ⟨k, hk⟩ : ∃ k, k = (j + t) % n := ⟨_, rfl⟩
      have hkn : k < n := by rw [hk]; exact Nat.mod_lt _ (by omega)
      have hke : k < gs.length := by rw [← Hn.out]; exact hkn
      have HT2 := Lib.hid (HTV.out j k hke hk hlt)
      have e1 : ((j : Int) + (t : Int)) % (n : Int) = (k : Int) := by rw [hk]; push_cast; rfl
      have e2 : ((j : Int) + (t : Int)).tmod (n : Int) = (k : Int) := by rw [Int.tmod_eq_emod_of_nonneg (by omega)]; exact e1
      have e3 : ((n : Int) == 0) = false := by simp; omega
      have e4 : ((n : Int) = 0) = False := by simp; omega
      obtain ⟨x, hx⟩ : ∃ x, x = gs[j] := ⟨_, rfl⟩
      obtain ⟨y, hy⟩ : ∃ y, y = gs[k] := ⟨_, rfl⟩
      have Hyy := Lib.hid hy
      rw [← hx] at hE HT1
      rw [← hy] at HT2
      obtain ⟨x0, x1, x2, x3, x4⟩ : wr.cell? ⟨bl, off + j * 5, none⟩ = some (.int .u8 (x.op : Int)) ∧ wr.cell? ⟨bl, off + j * 5 + 1, none⟩ = some (.bool x.ok) ∧ wr.cell? ⟨bl, off + j * 5 + 2, none⟩ = some (.int .u64 (x.a : Int)) ∧ wr.cell? ⟨bl, off + j * 5 + 3, none⟩ = some (.int .u64 (x.b : Int)) ∧ wr.cell? ⟨bl, off + j * 5 + 4, none⟩ = some (.int .u8 (x.c : Int)) := ⟨hE.c0, hE.c1, hE.c2, hE.c3, hE.c4⟩
      obtain ⟨u, hu⟩ : ∃ u, u = U j := ⟨_, rfl⟩
      obtain ⟨X, hX⟩ : ∃ X : Array Value, X = pgC (U (j + 1)) := ⟨_, rfl⟩
      obtain ⟨Y, hY⟩ : ∃ Y : Array Value, Y = pgC (V j) := ⟨_, rfl⟩
      obtain ⟨Z, hZ⟩ : ∃ Z : Array Value, Z = pgC (V (j + 1)) := ⟨_, rfl⟩
      have HX := Lib.hid hX
      have HZ := Lib.hid hZ
      have hXs : X.size = 5 := by rw [hX]; rfl
      have hXo : X.all (·.oneCell') = true := by rw [hX]; exact pg_all _
      have hXi : (Try.prog.info? 57).map (·.size) = some X.size := by rw [hX]; exact sizePg
      have hYs : Y.size = 5 := by rw [hY]; rfl
      have hYi : (Try.prog.info? 57).map (·.size) = some Y.size := by rw [hY]; exact sizePg
      have hZs : Z.size = 5 := by rw [hZ]; rfl
      have hZo : Z.all (·.oneCell') = true := by rw [hZ]; exact pg_all _
      have hZi : (Try.prog.info? 57).map (·.size) = some Z.size := by rw [hZ]; exact sizePg
      have hIY := HI.out
      rw [← hu, ← hY] at hIY
      rw [← hu, ← hX] at HT1
      rw [← hY, ← hZ] at HT2
      obtain ⟨r0, r1, r2, r3, r4⟩ := pg_cells hIY.rg
      have HFn := Lib.hid (fun w2 (hb : Below wr.drew.heap.size wr.drew w2) => pgK_put (Z := X) hIY HGe.out.1 (Nat.succ_ne_self g) hb rfl hXs hXo)
      have HTl : Hid (∀ W, Calls Try.prog 30 #[.agg #[.int .u64 (u.m : Int), .int .u64 (u.n : Int), .int .u64 (u.r : Int), .int .u64 (u.s : Int), .int .u8 (u.c : Int)], .bool true, .int .u64 ((x.a : Nat) : Int), .int .u64 ((x.b : Nat) : Int)] W (RetP (.agg X) W)) := HT1
      clear hx hy hE hu hX hY hZ hIY HT1 hk
      go_upto_region 8 with fail
      apply cutR
      case h =>
        intro key
        go_region_law (go_simp; go_at_call 30; refine (HTl.out _).mono ?_; rintro e w5 ⟨rfl, hb5⟩; obtain ⟨hst, hfin⟩ := HFn.out w5 hb5; have HFF := Lib.hid (And.intro hfin trivial); clear hfin hb5)
        all_goals
          refine forgetP (PgK w g (g + 1) X Y) HFF.out.1 ?_
          exact key.out
      case g =>
        intro W8 H8
        have HJ := Lib.hid H8
        obtain ⟨bl', off', he, hE8⟩ := (HA.out.below H8.bel).act12 k hke
        obtain ⟨rfl, rfl⟩ : bl = bl' ∧ off = off' := by injection he with he; injection he with h1 h2; exact ⟨h1, h2⟩
        rw [← Hyy.out] at hE8
        obtain ⟨_, y0, y1, y2, y3, y4⟩ := hE8
        clear he H8 x0 x1 x2 x3 x4 r0 r1 r2 r3 r4 HFn HTl
        go_upto_region 10 with fail
        clear y0 y1 y2 y3 y4 e1 e2 e3 e4
        go_wp2_with (first
          | (refine wpList_store_sub rfl 57 _ _ rfl (g + 1) 0 rfl 57 Y Z rfl HJ9.out.rh (by rw [hZs, hYs]; decide) hZi hZo ?_)
          | (go_at_call 30; refine (HT2.out _).mono ?_; rintro e w9 ⟨rfl, hb9⟩; have HJ9 := Lib.hid (HJ.out.bl ((bnew (Below.refl _ _) _ : Below W8.heap.size W8 (W8.alloc _)).trans (hb9.mono (by rw [World.size_alloc]; omega)))))
          | (refine wpList_load_sub (by kernel_rfl) 57 _ rfl (g + 1) 0 rfl 57 _ Y (0, 0) _ (HJ.out.rh.alloc _) (fun j hj => by rw [Nat.zero_add]) Try.underlying57 rfl hYi ?_))
        go_roundw
        case rel => exact ⟨j + 1, by omega, by go_num, ⟨by rw [← HX.out]; exact HJ9.out.rg.oputs (Nat.ne_of_lt (Nat.lt_succ_self g)) _ _, by rw [← HZ.out]; exact HJ9.out.rh.over (by rw [hYs, hZs]), setCells_below HGe.out.2 _ _ _ HJ9.out.bel⟩⟩
        case measure => simp [intOf]; omega
    · obtain rfl : j = n := by omega
      have hI := HI.out
      rw [← HUV.out] at hI
      obtain ⟨X, hX⟩ : ∃ X : Array Value, X = pgC (U j) := ⟨_, rfl⟩
      have hXi : (Try.prog.info? 57).map (·.size) = some X.size := by rw [hX]; exact sizePg
      have nq : ∀ W : World, (binOp .eql 57 (.agg X) (.agg X)).run Try.prog W = .ok (.bool true) W := fun W => by
        have := pg_eql (U j) (U j) W
        rw [decide_eq_true rfl, ← hX] at this
        exact this
      rw [← hX] at hI
      have HJ := Lib.hid hI
      clear hI hX HI HTU HTV HUV HU0
      go_wp2_with (first
        | (go_at_call 28; refine (HAw.out _).mono ?_; rintro e w9 ⟨rfl, b9⟩)
        | (refine wpList_load_sub (by kernel_rfl) 57 _ rfl g 0 rfl 57 _ X (0, 0) _ HJ.out.rg (fun j hj => by rw [Nat.zero_add]) Try.underlying57 rfl hXi ?_)
        | (refine wpList_load_sub (by kernel_rfl) 57 _ rfl (g + 1) 0 rfl 57 _ X (0, 0) _ HJ.out.rh (fun j hj => by rw [Nat.zero_add]) Try.underlying57 rfl hXi ?_))
      go_ret
      exact ⟨rfl, bnext HJ.out.bel b9⟩
end Go.Proofs.Ytlnohjboldenpaa
