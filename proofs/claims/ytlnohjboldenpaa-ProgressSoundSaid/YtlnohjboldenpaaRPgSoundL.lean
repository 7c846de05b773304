/-
  ProgressSound walked.
-/
import Derived.Test.YtlnohjboldenpaaRPgStore
import Derived.Test.YtlnohjboldenpaaRPgDoes
import Derived.Test.YtlnohjboldenpaaRPgAwake
import Derived.Test.YtlnohjboldenpaaRPgRef
import Derived.Deep.RegionLaw
set_option linter.unusedSimpArgs false
set_option linter.unusedVariables false
namespace Go.Proofs.Ytlnohjboldenpaa
open Go.RowKit
/-- Two peers lie in these blocks. -/
structure PgJ (w : World) (g h : Nat) (Y Z : Array Value) (W : World) : Prop where
  rg : Rw W g Y 57
  rh : Rw W h Z 57
  bel : Below w.heap.size w W
  ne : g ≠ h
  hle : w.heap.size ≤ h
theorem PgJ.bl {w W W' : World} {g h : Nat} {Y Z : Array Value} (k : PgJ w g h Y Z W) (hb : Below W.heap.size W W') : PgJ w g h Y Z W' := ⟨k.rg.bel hb, k.rh.bel hb, bnext k.bel hb, k.ne, k.hle⟩
theorem pgJ_a {w W w2 : World} {g : Nat} {Y Z : Array Value} (k : PgI w g Y W) (hb : Below W.drew.heap.size W.drew w2) (hs : Z.size = 5) (h1 : Z.all (·.oneCell') = true) :
    (storeCells ⟨w2.heap.size, 0, none⟩ Z.toList 0).run Try.prog (w2.alloc (.cells pgZ 57)) = .ok () ((w2.alloc (.cells pgZ 57)).setCells w2.heap.size 0 Z.toList) ∧ PgJ w g w2.heap.size Y Z ((w2.alloc (.cells pgZ 57)).setCells w2.heap.size 0 Z.toList) := by
  have hr : Rw w2 g Y 57 := Rw.bel (W := W.drew) k.row hb
  have hb2 : Bl w w2 := bnext (below_drew k.bel) hb
  have hn : g ≠ w2.heap.size := Nat.ne_of_lt hr.lt
  exact ⟨store_row5 _ _ pgZ Z (Rw.new w2 pgZ _) rfl hs h1, ⟨(hr.alloc _).oputs hn _ _, (Rw.new w2 pgZ _).over (by rw [hs]; rfl), (hb2.alloc _).puts hb2.le _ _, hn, hb2.le⟩⟩
theorem pgJ_b {w W w2 : World} {g : Nat} {Y Z : Array Value} (k : PgI w g Y W) (hb : Below ((W.alloc (.cells pgZ 57)).drew).heap.size ((W.alloc (.cells pgZ 57)).drew) w2) (hs : Z.size = 5) (h1 : Z.all (·.oneCell') = true) :
    (storeCells ⟨W.heap.size, 0, none⟩ Z.toList 0).run Try.prog w2 = .ok () (w2.setCells W.heap.size 0 Z.toList) ∧ PgJ w g W.heap.size Y Z (w2.setCells W.heap.size 0 Z.toList) := by
  have hr : Rw w2 g Y 57 := Rw.bel (W := (W.alloc (.cells pgZ 57)).drew) (k.row.alloc _) hb
  have hz : Rw w2 W.heap.size pgZ 57 := Rw.bel (W := (W.alloc (.cells pgZ 57)).drew) (Rw.new W pgZ _) hb
  have hb2 : Bl w w2 := bnext (below_drew (bnew k.bel _)) hb
  have hn : g ≠ W.heap.size := Nat.ne_of_lt k.row.lt
  exact ⟨store_row5 _ _ pgZ Z hz rfl hs h1, ⟨hr.oputs hn _ _, hz.over (by rw [hs]; rfl), hb2.puts k.bel.size _ _, hn, k.bel.size⟩⟩
theorem cutO {G C : Prop} (h : Hid G → C) (g : G) : C := h (Lib.hid g)
set_option maxRecDepth 100000 in
set_option maxHeartbeats 8000000 in
theorem progressSound_any (w : World) (last : Nat) (A : Option Addr) (cp : Nat) (gs : List Pg.A) (hA : Lies w A (pas gs)) (hf : ∀ g ∈ gs, Pg.AFit g) (hn : gs.length ≤ maxLen) :
    Calls Try.prog 7 #[.int .u64 (last : Int), .slice A gs.length cp] w (RetP (.bool true) w) := by
  have HAw := Lib.hid awake12_any
  have HG := Lib.hid (great12_any w A cp gs hA hn)
  have G1 := Lib.hid (great1_any last)
  cases hgr : Pg.great gs with
  | true =>
    rw [hgr] at HG
    clear hgr hA hf hn
    go_enter Try.func7, Try.ntmps7
    go_wp2_with (first | (go_at_call 28; refine (HAw.out w1).mono ?_; rintro e w9 ⟨rfl, b9⟩) | (go_at_call 38; refine HG.out.mono ?_; rintro e w1 ⟨rfl, b1⟩))
    go_ret
    exact ⟨rfl, bnext b1 b9⟩
  | false =>
  rw [hgr] at HG
  obtain ⟨hn2, hal⟩ := pg_great_no hgr
  by_cases h1 : Pg.lim ≤ last
  · rw [decide_eq_true h1] at G1
    clear h1 hgr hA hf hn hal
    go_enter Try.func7, Try.ntmps7
    go_wp2_with (first | (go_at_call 28; refine (HAw.out w1).mono ?_; rintro e w9 ⟨rfl, b9⟩) | (go_at_call 27; refine (G1.out _).mono ?_; rintro e y1 ⟨rfl, hy1⟩; obtain rfl := hy1.symm) | (go_at_call 38; refine HG.out.mono ?_; rintro e w1 ⟨rfl, b1⟩))
    go_ret
    exact ⟨rfl, bnext b1 b9⟩
  rw [decide_eq_false h1] at G1
  have HA := Lib.hid hA
  have HFi := Lib.hid (fun j (hj : j < gs.length) => hf _ (List.getElem_mem hj))
  have HAl := Lib.hid (fun j (hj : j < gs.length) => hal _ (List.getElem_mem hj))
  have HNw : Hid (∀ W, Calls Try.prog 37 #[.int .u64 (last : Int)] W (RetP (.agg #[.int .u64 0, .int .u64 ((last : Int) + 1), .int .u64 0, .int .u64 0, .int .u8 0]) W)) := Lib.hid fun W => pnew_any last (by omega) W
  have HP0 : Hid (Pg.Sound (Pg.new last) ∧ Pg.Fits (Pg.new last)) := Lib.hid ⟨Pg.new_sound last, Pg.new_fits last (by omega)⟩
  have HE0 : Hid (#[.int .u64 0, .int .u64 ((last : Int) + 1), .int .u64 0, .int .u64 0, .int .u8 0] = pgC (Pg.new last)) := Lib.hid rfl
  obtain ⟨n, hnn⟩ : ∃ n, n = gs.length := ⟨_, rfl⟩
  have Hn := Lib.hid hnn
  rw [← hnn] at HG hn2 ⊢
  clear h1 hgr hA hf hn hal hnn
  go_enter Try.func7, Try.ntmps7
  go_upto_region 4 with (first
    | (go_at_call 37; refine (HNw.out _).mono ?_; rintro e w2 ⟨rfl, b2⟩)
    | (go_at_call 27; refine (G1.out _).mono ?_; rintro e y1 ⟨rfl, hy1⟩; obtain rfl := hy1.symm)
    | (go_at_call 38; refine HG.out.mono ?_; rintro e w1 ⟨rfl, b1⟩))
  have b12 := bnext b1 b2
  have HGe : Hid (w.heap.size ≤ w2.heap.size) := Lib.hid b12.size
  rw [HE0.out]
  refine forget (PgI w w2.heap.size (pgC (Pg.new last))) ⟨Rw.new w2 _ _, bnew b12 _⟩ ?_
  generalize w2.heap.size = g at HGe ⊢
  intro W3 H3
  have HI3 := Lib.hid H3
  clear H3 b1 b2 b12 HNw G1 HG HE0
  go_wp2_with fail
  go_loopw [6] (fun iv wr => ∃ (j : Nat) (p : Pg.P), j ≤ n ∧ iv = .int .i64 (j : Int) ∧ Pg.Sound p ∧ Pg.Fits p ∧ PgI w g (pgC p) wr) (fun iv _ => n - (intOf iv).toNat)
  case atStart => exact ⟨0, Pg.new last, Nat.zero_le _, rfl, HP0.out.1, HP0.out.2, HI3.out⟩
  case round =>
    obtain ⟨j, p, hjn, rfl, hS, hF, hI⟩ := hrel
    have HSn := Lib.hid hS
    have HF := Lib.hid hF
    have HI := Lib.hid hI
    clear hS hF hI
    by_cases hlt : j < n
    · have hje : j < gs.length := by rw [← Hn.out]; exact hlt
      obtain ⟨bl, off, rfl, hE⟩ := (HA.out.below HI.out.bel).act12 j hje
      have hfx := HFi.out j hje
      have hax := HAl.out j hje
      obtain ⟨x, hx⟩ : ∃ x, x = gs[j] := ⟨_, rfl⟩
      rw [← hx] at hE hfx hax
      obtain ⟨q, hq⟩ : ∃ q, q = Pg.does p x := ⟨_, rfl⟩
      have HD : Hid (∀ W, Calls Try.prog 39 #[.agg (pgC p), .agg (pa1 x).toArray] W (RetP (.agg (pgC q)) W)) := Lib.hid (by rw [hq]; exact does12_any p HF.out.m x hax)
      have HQ : Hid (Pg.Sound q ∧ Pg.Fits q) := Lib.hid (by rw [hq]; exact ⟨Pg.does_sound HSn.out x, Pg.does_fits HF.out hfx hax⟩)
      have hm : p.m ≤ q.m := by rw [hq]; exact Pg.does_m p x
      have hr : p.r ≤ q.r := by rw [hq]; exact Pg.does_r p x
      have hnx : ¬ (x.op = 0 ∧ x.ok = false) → p.n ≤ q.n := by rw [hq]; exact Pg.does_n p x
      have HSo : Hid (∀ W, Calls Try.prog 40 #[.agg (pgC q)] W (RetP (.bool true) W)) := Lib.hid (sound_any q HQ.out.1)
      have HGi := Lib.hid (given_any12 q)
      have HEx := Lib.hid hE
      obtain ⟨x0, x1, x2, x3, x4⟩ : wr.cell? ⟨bl, off + j * 5, none⟩ = some (.int .u8 (x.op : Int)) ∧ wr.cell? ⟨bl, off + j * 5 + 1, none⟩ = some (.bool x.ok) ∧ wr.cell? ⟨bl, off + j * 5 + 2, none⟩ = some (.int .u64 (x.a : Int)) ∧ wr.cell? ⟨bl, off + j * 5 + 3, none⟩ = some (.int .u64 (x.b : Int)) ∧ wr.cell? ⟨bl, off + j * 5 + 4, none⟩ = some (.int .u8 (x.c : Int)) := ⟨hE.c0, hE.c1, hE.c2, hE.c3, hE.c4⟩
      have hV : Below wr.heap.size wr ((wr.alloc (.cells pgZ 57)).drew) := below_drew (bnew (Below.refl _ _) _)
      have hEv := hE.bel hV
      obtain ⟨y0, y1, y2, y3, y4⟩ : ((wr.alloc (.cells pgZ 57)).drew).cell? ⟨bl, off + j * 5, none⟩ = some (.int .u8 (x.op : Int)) ∧ ((wr.alloc (.cells pgZ 57)).drew).cell? ⟨bl, off + j * 5 + 1, none⟩ = some (.bool x.ok) ∧ ((wr.alloc (.cells pgZ 57)).drew).cell? ⟨bl, off + j * 5 + 2, none⟩ = some (.int .u64 (x.a : Int)) ∧ ((wr.alloc (.cells pgZ 57)).drew).cell? ⟨bl, off + j * 5 + 3, none⟩ = some (.int .u64 (x.b : Int)) ∧ ((wr.alloc (.cells pgZ 57)).drew).cell? ⟨bl, off + j * 5 + 4, none⟩ = some (.int .u8 (x.c : Int)) := ⟨hEv.c0, hEv.c1, hEv.c2, hEv.c3, hEv.c4⟩
      obtain ⟨r0, r1, r2, r3, r4⟩ := pg_cells HI.out.row
      obtain ⟨s0, s1, s2, s3, s4⟩ := pg_cells (HI.out.row.bel hV)
      have HFa := Lib.hid (fun w2 (hb : Below wr.drew.heap.size wr.drew w2) => pgJ_a (Z := pgC q) HI.out hb rfl (pg_all q))
      have HFb := Lib.hid (fun w2 (hb : Below ((wr.alloc (.cells pgZ 57)).drew).heap.size ((wr.alloc (.cells pgZ 57)).drew) w2) => pgJ_b (Z := pgC q) HI.out hb rfl (pg_all q))
      obtain ⟨X, hX⟩ : ∃ X : Array Value, X = pgC q := ⟨_, rfl⟩
      have HXX := Lib.hid hX
      have hXs : X.size = 5 := by rw [hX]; rfl
      have hXo : X.all (·.oneCell') = true := by rw [hX]; exact pg_all q
      have hXi : (Try.prog.info? 57).map (·.size) = some X.size := by rw [hX]; exact sizePg
      rw [← hX] at HD HFa HFb HSo HGi
      have HDl : Hid (∀ W, Calls Try.prog 39 #[.agg #[.int .u64 (p.m : Int), .int .u64 (p.n : Int), .int .u64 (p.r : Int), .int .u64 (p.s : Int), .int .u8 (p.c : Int)], .agg #[.int .u8 (x.op : Int), .bool x.ok, .int .u64 (x.a : Int), .int .u64 (x.b : Int), .int .u8 (x.c : Int)]] W (RetP (.agg X) W)) := HD
      have HDa := Lib.hid (HDl.out wr.drew)
      have HDb := Lib.hid (HDl.out ((wr.alloc (.cells pgZ 57)).drew))
      unfold pgZ at y0 y1 y2 y3 y4 s0 s1 s2 s3 s4 HFa HFb HDb
      have HHx := Lib.hid hnx
      have Hxx := Lib.hid hx
      clear hx hq hX hE hEv hV HD hnx hfx hax
      go_upto_region 7 with fail
      apply cutO
      case h =>
        intro key
        go_region_law (first
          | (go_simp; go_at_call 39; refine HDa.out.mono ?_; rintro e w5 ⟨rfl, hb5⟩; obtain ⟨hst, hfin⟩ := HFa.out w5 hb5; have HFF := Lib.hid (And.intro hfin trivial); clear hfin hb5)
          | (go_simp; go_at_call 39; refine HDb.out.mono ?_; rintro e w5 ⟨rfl, hb5⟩; obtain ⟨hst, hfin⟩ := HFb.out w5 hb5; have HFF := Lib.hid (And.intro hfin trivial); clear hfin hb5))
        all_goals
          first
            | (refine forgetP (PgJ w g w5.heap.size (pgC p) X) HFF.out.1 ?_; clear hst HFF; generalize w5.heap.size = h; revert h; exact key.out)
            | (refine forgetP (PgJ w g wr.heap.size (pgC p) X) HFF.out.1 ?_; clear hst HFF; generalize wr.heap.size = h; revert h; exact key.out)
      case g =>
        intro h W8 H8
        have HJ := Lib.hid H8
        obtain ⟨bl', off', he, hE8⟩ := (HA.out.below H8.bel).act12 j hje
        obtain ⟨rfl, rfl⟩ : bl = bl' ∧ off = off' := by injection he with he; injection he with h1 h2; exact ⟨h1, h2⟩
        rw [← Hxx.out] at hE8
        have HE8 := Lib.hid hE8
        have HZq : Hid ((Try.prog.info? 59).map (·.size) = some X.size) := Lib.hid (by rw [HXX.out]; exact sizePg9)
        have HC8 : Hid (∀ W, Below W8.heap.size W8 W → W.cell? ⟨h, 0, none⟩ = some (.int .u64 (q.m : Int)) ∧ W.cell? ⟨h, 1, none⟩ = some (.int .u64 (q.n : Int)) ∧ W.cell? ⟨h, 2, none⟩ = some (.int .u64 (q.r : Int)) ∧ W.cell? ⟨g, 0, none⟩ = some (.int .u64 (p.m : Int)) ∧ W.cell? ⟨g, 1, none⟩ = some (.int .u64 (p.n : Int)) ∧ W.cell? ⟨g, 2, none⟩ = some (.int .u64 (p.r : Int)) ∧ W.cell? ⟨bl, off + j * 5, none⟩ = some (.int .u8 (x.op : Int)) ∧ W.cell? ⟨bl, off + j * 5 + 1, none⟩ = some (.bool x.ok)) := Lib.hid fun W hb => by
          have k := HJ.out.bl hb
          have kh := k.rh
          rw [HXX.out] at kh
          have ke := HE8.out.bel hb
          exact ⟨kh.cell 0 rfl, kh.cell 1 rfl, kh.cell 2 rfl, k.rg.cell 0 rfl, k.rg.cell 1 rfl, k.rg.cell 2 rfl, ke.c0, ke.c1⟩
        have v1 : decide (q.m < p.m) = false := decide_eq_false (by omega)
        have v2 : ((q.m : Int) < (p.m : Int)) = False := by simp; omega
        have v3 : decide (q.r < p.r) = false := decide_eq_false (by omega)
        have v4 : ((q.r : Int) < (p.r : Int)) = False := by simp; omega
        clear he hE8 H8 x0 x1 x2 x3 x4 y0 y1 y2 y3 y4 r0 r1 r2 r3 r4 s0 s1 s2 s3 s4 HFa HFb HDa HDb HDl HEx
        by_cases hqn : q.n < p.n
        · have v5 : decide (q.n < p.n) = true := decide_eq_true hqn
          have v6 : ((q.n : Int) < (p.n : Int)) = True := by simp; omega
          have hop : x.op = 0 ∧ x.ok = false := by
            by_cases h : x.op = 0 ∧ x.ok = false
            · exact h
            · have := HHx.out h; omega
          rw [hop.1, hop.2] at HC8
          clear hqn hop
          go_wp2_with (first
            | (refine wpList_store_sub rfl 57 _ _ rfl g 0 rfl 57 (pgC p) X rfl HJ7.out.rg (by rw [hXs]; exact Nat.le_refl 5) hXi hXo ?_)
            | (refine wpList_load_sub (by kernel_rfl) 57 _ rfl h 0 rfl 57 _ X (0, 0) _ HJ7.out.rh (fun j hj => by rw [Nat.zero_add]) Try.underlying57 rfl hXi ?_)
            | (go_at_call 40; refine (HSo.out _).mono ?_; rintro e w7 ⟨rfl, b7⟩; obtain ⟨z0, z1, z2, z3, z4, z5, z6, z7⟩ := HC8.out w7 (bnext b6 b7); have HJ7 := Lib.hid (HJ.out.bl (bnext b6 b7)))
            | (go_at_call 29; refine (HGi.out _).mono ?_; rintro e w6 ⟨rfl, b6⟩)
            | (refine wpList_load_sub (by kernel_rfl) 57 _ rfl h 0 rfl 57 _ X (0, 0) _ HJ.out.rh (fun j hj => by rw [Nat.zero_add]) Try.underlying57 rfl hXi ?_))
          go_roundw
          case rel => exact ⟨j + 1, q, by omega, by go_num, HQ.out.1, HQ.out.2, ⟨by rw [← HXX.out]; exact HJ7.out.rg.over (by rw [hXs]; rfl), setCells_below HGe.out _ _ _ HJ7.out.bel⟩⟩
          case measure => simp [intOf]; omega
        · have v5 : decide (q.n < p.n) = false := decide_eq_false hqn
          have v6 : ((q.n : Int) < (p.n : Int)) = False := by simp; omega
          clear hqn
          go_wp2_with (first
            | (refine wpList_store_sub rfl 57 _ _ rfl g 0 rfl 57 (pgC p) X rfl HJ7.out.rg (by rw [hXs]; exact Nat.le_refl 5) hXi hXo ?_)
            | (refine wpList_load_sub (by kernel_rfl) 57 _ rfl h 0 rfl 57 _ X (0, 0) _ HJ7.out.rh (fun j hj => by rw [Nat.zero_add]) Try.underlying57 rfl hXi ?_)
            | (go_at_call 40; refine (HSo.out _).mono ?_; rintro e w7 ⟨rfl, b7⟩; obtain ⟨z0, z1, z2, z3, z4, z5, z6, z7⟩ := HC8.out w7 (bnext b6 b7); have HJ7 := Lib.hid (HJ.out.bl (bnext b6 b7)))
            | (go_at_call 29; refine (HGi.out _).mono ?_; rintro e w6 ⟨rfl, b6⟩)
            | (refine wpList_load_sub (by kernel_rfl) 57 _ rfl h 0 rfl 57 _ X (0, 0) _ HJ.out.rh (fun j hj => by rw [Nat.zero_add]) Try.underlying57 rfl hXi ?_))
          go_roundw
          case rel => exact ⟨j + 1, q, by omega, by go_num, HQ.out.1, HQ.out.2, ⟨by rw [← HXX.out]; exact HJ7.out.rg.over (by rw [hXs]; rfl), setCells_below HGe.out _ _ _ HJ7.out.bel⟩⟩
          case measure => simp [intOf]; omega
    · obtain rfl : j = n := by omega
      go_wp2_with (go_at_call 28; refine (HAw.out _).mono ?_; rintro e w9 ⟨rfl, b9⟩)
      go_ret
      exact ⟨rfl, bnext HI.out.bel b9⟩
end Go.Proofs.Ytlnohjboldenpaa
