/-
  ProgressSections walked.
-/
import Derived.Test.YtlnohjboldenpaaRPgStore
import Derived.Test.YtlnohjboldenpaaRPgAwake
import Derived.Test.YtlnohjboldenpaaRDkB
import Derived.Lib.QuietBelow
import Derived.Deep.RegionLaw
set_option linter.unusedSimpArgs false
set_option linter.unusedVariables false
namespace Go.Proofs.Ytlnohjboldenpaa
open Go.RowKit Go.Sort
/-- Small numbers as cells. -/
def b12 (ns : List Nat) : List Value := ns.map fun (n : Nat) => Value.int .u8 (n : Int)
theorem Lies.b12 {w : World} {A : Option Addr} {ns : List Nat} (h : Lies w A (b12 ns)) (i : Nat) (hi : i < ns.length) : ∃ b off, A = some ⟨b, off, none⟩ ∧ b < w.heap.size ∧ w.cell? ⟨b, off + i, none⟩ = some (.int .u8 ((ns[i] : Nat) : Int)) := by
  rcases h with h | ⟨b, off, rfl, hlt, hc⟩
  · rw [Go.Proofs.Ytlnohjboldenpaa.b12, List.map_eq_nil_iff] at h
    rw [h] at hi; exact absurd hi (Nat.not_lt_zero _)
  · exact ⟨b, off, rfl, hlt, hc i _ (by rw [Go.Proofs.Ytlnohjboldenpaa.b12, List.getElem?_map, List.getElem?_eq_getElem hi]; rfl)⟩
theorem cutS {G C : Prop} (h : Hid G → C) (g : G) : C := h (Lib.hid g)
set_option maxRecDepth 100000 in
set_option maxHeartbeats 8000000 in
theorem progressSections_any (w : World) (last snap : Nat) (A : Option Addr) (cp : Nat) (ns : List Nat) (hA : Lies w A (b12 ns)) (hn : ns.length ≤ maxLen) (i : Nat) (h256 : ∀ n ∈ ns, n < 256) :
    Calls Try.prog 8 #[.int .u64 (last : Int), .int .u64 (snap : Int), .slice A ns.length cp, .int .u64 (i : Int)] w (RetP (.bool true) w) := by
  have HAw := Lib.hid awake12_any
  have G1 := Lib.hid (great1_any last)
  have G2 := Lib.hid (great1_any snap)
  have G3 := Lib.hid (great1_any i)
  have HA := Lib.hid hA
  have HF := Lib.hid (fun j (hj : j < ns.length) => h256 _ (List.getElem_mem hj))
  obtain ⟨n, hnn⟩ : ∃ n, n = ns.length := ⟨_, rfl⟩
  have Hn := Lib.hid hnn
  rw [← hnn] at hn ⊢
  simp only [maxLen] at hn
  clear hA hnn h256
  by_cases h0 : 300 < n
  · have q1 : decide ((300 : Int) < (n : Int)) = true := by simp; omega
    have q2 : ((300 : Int) < (n : Int)) = True := by simp; omega
    clear h0
    go_enter Try.func8, Try.ntmps8
    go_wp2_with (go_at_call 28; refine (HAw.out _).mono ?_; rintro e w9 ⟨rfl, b9⟩)
    go_ret
    exact ⟨rfl, b9⟩
  have q1 : decide ((300 : Int) < (n : Int)) = false := by simp; omega
  have q2 : ((300 : Int) < (n : Int)) = False := by simp; omega
  by_cases h1 : Pg.lim ≤ last
  · rw [decide_eq_true h1] at G1
    clear h1
    go_enter Try.func8, Try.ntmps8
    go_wp2_with (first | (go_at_call 28; refine (HAw.out _).mono ?_; rintro e w9 ⟨rfl, b9⟩) | (go_at_call 27; refine (G1.out _).mono ?_; rintro e y1 ⟨rfl, hy1⟩; obtain rfl := hy1.symm))
    go_ret
    exact ⟨rfl, b9⟩
  rw [decide_eq_false h1] at G1
  by_cases h2 : Pg.lim ≤ snap
  · rw [decide_eq_true h2] at G2
    clear h1 h2
    go_enter Try.func8, Try.ntmps8
    go_wp2_with (first | (go_at_call 28; refine (HAw.out _).mono ?_; rintro e w9 ⟨rfl, b9⟩) | (go_at_call 27; with_reducible refine (G1.out _).mono ?_; rintro e y1 ⟨rfl, hy1⟩; obtain rfl := hy1.symm) | (go_at_call 27; with_reducible refine (G2.out _).mono ?_; rintro e y2 ⟨rfl, hy2⟩; obtain rfl := hy2.symm))
    go_ret
    exact ⟨rfl, b9⟩
  rw [decide_eq_false h2] at G2
  by_cases h3 : Pg.lim ≤ i
  · rw [decide_eq_true h3] at G3
    clear h1 h2 h3
    go_enter Try.func8, Try.ntmps8
    go_wp2_with (first | (go_at_call 28; refine (HAw.out _).mono ?_; rintro e w9 ⟨rfl, b9⟩) | (go_at_call 27; with_reducible refine (G1.out _).mono ?_; rintro e y1 ⟨rfl, hy1⟩; obtain rfl := hy1.symm) | (go_at_call 27; with_reducible refine (G2.out _).mono ?_; rintro e y2 ⟨rfl, hy2⟩; obtain rfl := hy2.symm) | (go_at_call 27; with_reducible refine (G3.out _).mono ?_; rintro e y3 ⟨rfl, hy3⟩; obtain rfl := hy3.symm))
    go_ret
    exact ⟨rfl, b9⟩
  rw [decide_eq_false h3] at G3
  by_cases h4 : snap = 0
  · have c1 : ((snap : Int) == 0) = true := by simp; omega
    have c2 : ((snap : Int) = 0) = True := by simp; omega
    clear h1 h2 h3 h4
    go_enter Try.func8, Try.ntmps8
    go_wp2_with (first | (go_at_call 28; refine (HAw.out _).mono ?_; rintro e w9 ⟨rfl, b9⟩) | (go_at_call 27; with_reducible refine (G1.out _).mono ?_; rintro e y1 ⟨rfl, hy1⟩; obtain rfl := hy1.symm) | (go_at_call 27; with_reducible refine (G2.out _).mono ?_; rintro e y2 ⟨rfl, hy2⟩; obtain rfl := hy2.symm) | (go_at_call 27; with_reducible refine (G3.out _).mono ?_; rintro e y3 ⟨rfl, hy3⟩; obtain rfl := hy3.symm))
    go_ret
    exact ⟨rfl, b9⟩
  have c1 : ((snap : Int) == 0) = false := by simp; omega
  have c2 : ((snap : Int) = 0) = False := by simp; omega
  have HNw : Hid (∀ W, Calls Try.prog 37 #[.int .u64 (last : Int)] W (RetP (.agg #[.int .u64 0, .int .u64 ((last : Int) + 1), .int .u64 0, .int .u64 0, .int .u8 0]) W)) := Lib.hid fun W => pnew_any last (by omega) W
  have HS0 : Hid (∀ W, Calls Try.prog 32 #[.agg #[.int .u64 0, .int .u64 ((last : Int) + 1), .int .u64 0, .int .u64 0, .int .u8 0], .int .u64 (snap : Int)] W (RetP (.agg #[.int .u64 0, .int .u64 ((last : Int) + 1), .int .u64 0, .int .u64 (snap : Int), .int .u8 0]) W)) := Lib.hid fun W => by
    have := psend_any ⟨0, last + 1, 0, 0, 0⟩ snap W
    rw [show Pg.send ⟨0, last + 1, 0, 0, 0⟩ snap = ⟨0, last + 1, 0, snap, 0⟩ by unfold Pg.send; rw [if_neg (fun h => h4 h.symm)]] at this
    exact this
  have HS1 : Hid (∀ (d : Nat) W, Calls Try.prog 32 #[.agg #[.int .u64 0, .int .u64 ((last : Int) + 1), .int .u64 0, .int .u64 (snap : Int), .int .u8 (d : Int)], .int .u64 (snap : Int)] W (RetP (.agg #[.int .u64 0, .int .u64 ((last : Int) + 1), .int .u64 0, .int .u64 (snap : Int), .int .u8 (d : Int)]) W)) := Lib.hid fun d W => by
    have := psend_any ⟨0, last + 1, 0, snap, d⟩ snap W
    rw [show Pg.send ⟨0, last + 1, 0, snap, d⟩ snap = ⟨0, last + 1, 0, snap, d⟩ by unfold Pg.send; rw [if_pos rfl]] at this
    exact this
  have HC : Hid (∀ (d x : Nat) W, Calls Try.prog 35 #[.agg #[.int .u64 0, .int .u64 ((last : Int) + 1), .int .u64 0, .int .u64 (snap : Int), .int .u8 (d : Int)], .int .u64 (snap : Int), .int .u8 (x : Int)] W (RetP (.agg #[.int .u64 0, .int .u64 ((last : Int) + 1), .int .u64 0, .int .u64 (snap : Int), .int .u8 ((if x < 5 then x else d : Nat) : Int)]) W)) := Lib.hid fun d x W => by
    have := psect_any ⟨0, last + 1, 0, snap, d⟩ snap x W
    rw [show Pg.sect ⟨0, last + 1, 0, snap, d⟩ snap x = ⟨0, last + 1, 0, snap, if x < 5 then x else d⟩ by
      unfold Pg.sect
      by_cases hx : x < 5
      · rw [if_pos ⟨h4, rfl, hx⟩, if_pos hx]
      · rw [if_neg (fun h => hx h.2.2), if_neg hx]] at this
    exact this
  obtain ⟨K, hK⟩ : ∃ K, K = max last i := ⟨_, rfl⟩
  have eK : (if last < i then (i : Int) else (last : Int)) = (K : Int) := by split <;> omega
  have HT : Hid (∀ (d : Nat) W, Calls Try.prog 30 #[.agg #[.int .u64 0, .int .u64 ((last : Int) + 1), .int .u64 0, .int .u64 (snap : Int), .int .u8 (d : Int)], .bool true, .int .u64 (i : Int), .int .u64 0] W (RetP (.agg #[.int .u64 (i : Int), .int .u64 ((K : Int) + 1), .int .u64 0, .int .u64 ((if snap ≤ i then 0 else snap : Nat) : Int), .int .u8 ((if snap ≤ i then 0 else d : Nat) : Int)]) W)) := Lib.hid fun d W => by
    have := ptold_any ⟨0, last + 1, 0, snap, d⟩ (by show (0 : Nat) < Pg.lim; decide) true i 0 (by omega) W
    rw [show Pg.told ⟨0, last + 1, 0, snap, d⟩ true i 0 = ⟨i, K + 1, 0, if snap ≤ i then 0 else snap, if snap ≤ i then 0 else d⟩ by
      simp only [Pg.told, Pg.matched, if_true, Nat.zero_max, Nat.max_zero]
      rw [show max (last + 1) (i + 1) = K + 1 by omega]] at this
    exact this
  have HDu : Hid (∀ j (hj : j < ns.length), Pg.due ns (j + 1) = if ns[j] < 5 then ns[j] else Pg.due ns j) := Lib.hid fun j hj => by
    rw [Pg.due, List.getD_eq_getElem?_getD, List.getElem?_eq_getElem hj]; rfl
  have HD5 := Lib.hid (Pg.due_lt ns)
  have H4 := Lib.hid h4
  have hl : last < 4611686018427387904 := by unfold Pg.lim at h1; omega
  have hil : i < 4611686018427387904 := by unfold Pg.lim at h3; omega
  have hKl : K < 4611686018427387904 := by omega
  clear h1 h2 h3 h4 hK
  go_enter Try.func8, Try.ntmps8
  go_upto_region 4 with (first
    | (go_at_call 27; with_reducible refine (G1.out _).mono ?_; rintro e y1 ⟨rfl, hy1⟩; obtain rfl := hy1.symm)
    | (go_at_call 27; with_reducible refine (G2.out _).mono ?_; rintro e y2 ⟨rfl, hy2⟩; obtain rfl := hy2.symm)
    | (go_at_call 27; with_reducible refine (G3.out _).mono ?_; rintro e y3 ⟨rfl, hy3⟩; obtain rfl := hy3.symm)
    | (go_at_call 32; refine (HS0.out _).mono ?_; rintro e w2 ⟨rfl, b2⟩)
    | (go_at_call 37; refine (HNw.out _).mono ?_; rintro e w1 ⟨rfl, b1⟩))
  have b12 := bnext b1 b2
  have HI0 : Hid (PgI w w2.heap.size #[.int .u64 0, .int .u64 ((last : Int) + 1), .int .u64 0, .int .u64 (snap : Int), .int .u8 0] (w2.alloc (.cells #[.int .u64 0, .int .u64 ((last : Int) + 1), .int .u64 0, .int .u64 (snap : Int), .int .u8 0] 57))) := Lib.hid ⟨Rw.new w2 _ _, bnew b12 _⟩
  have HGe : Hid (w.heap.size ≤ w2.heap.size) := Lib.hid b12.size
  refine forget (PgI w w2.heap.size #[.int .u64 0, .int .u64 ((last : Int) + 1), .int .u64 0, .int .u64 (snap : Int), .int .u8 0]) HI0.out ?_
  generalize w2.heap.size = g at HGe ⊢
  intro W3 H3
  have HI3 := Lib.hid H3
  clear H3 b1 b2 b12 HI0 HNw HS0 G1 G2 G3 q1 q2 c1 c2
  go_wp2_with fail
  go_loopw [10, 11] (fun dv iv wr => ∃ (j : Nat), j ≤ n ∧ dv = .int .u8 ((Pg.due ns j : Nat) : Int) ∧ iv = .int .i64 (j : Int) ∧ PgI w g #[.int .u64 0, .int .u64 ((last : Int) + 1), .int .u64 0, .int .u64 (snap : Int), .int .u8 ((Pg.due ns j : Nat) : Int)] wr) (fun _ iv _ => n - (intOf iv).toNat)
  case atStart => exact ⟨0, Nat.zero_le _, rfl, rfl, HI3.out⟩
  case round =>
    obtain ⟨j, hjn, rfl, rfl, hI⟩ := hrel
    have HI := Lib.hid hI
    obtain ⟨r0, r1, r2, r3, r4⟩ := pg_cells hI.row
    have hd5 := HD5.out j
    obtain ⟨d, hd⟩ : ∃ d, d = Pg.due ns j := ⟨_, rfl⟩
    rw [← hd] at hd5 r4 HI ⊢
    clear hI
    by_cases hlt : j < n
    · have hje : j < ns.length := by rw [← Hn.out]; exact hlt
      obtain ⟨bl, off, rfl, hbl, hx⟩ := (HA.out.below HI.out.bel).b12 j hje
      have hDj := HDu.out j hje
      have hxl := HF.out j hje
      obtain ⟨x, hxx⟩ : ∃ x, x = ns[j] := ⟨_, rfl⟩
      rw [← hxx] at hx hDj hxl
      rw [← hd] at hDj
      obtain ⟨d2, hd2⟩ : ∃ d2, d2 = (if x < 5 then x else d) := ⟨_, rfl⟩
      rw [← hd2] at hDj
      have HDj := Lib.hid hDj
      have HCx : Hid (∀ W, Calls Try.prog 35 #[.agg #[.int .u64 0, .int .u64 ((last : Int) + 1), .int .u64 0, .int .u64 (snap : Int), .int .u8 (d : Int)], .int .u64 (snap : Int), .int .u8 (x : Int)] W (RetP (.agg #[.int .u64 0, .int .u64 ((last : Int) + 1), .int .u64 0, .int .u64 (snap : Int), .int .u8 (d2 : Int)]) W)) := Lib.hid (by rw [hd2]; exact HC.out d x)
      have HDD := Lib.hid hd2
      have HFn := Lib.hid (fun w2 (hb : Below wr.drew.heap.size wr.drew w2) => pgI_put (Z := #[.int .u64 0, .int .u64 ((last : Int) + 1), .int .u64 0, .int .u64 (snap : Int), .int .u8 (d2 : Int)]) HI.out HGe.out hb rfl rfl (pgl_all _ _ _ _ _))
      obtain ⟨X, hX⟩ : ∃ X : Array Value, X = #[.int .u64 0, .int .u64 ((last : Int) + 1), .int .u64 0, .int .u64 (snap : Int), .int .u8 (d2 : Int)] := ⟨_, rfl⟩
      have HXX := Lib.hid hX
      have hXs : X.size = 5 := by rw [hX]; rfl
      have hXo : X.all (·.oneCell') = true := by rw [hX]; exact pgl_all _ _ _ _ _
      have hXi : (Try.prog.info? 57).map (·.size) = some X.size := by rw [hX]; exact sizePg
      rw [← hX] at HCx HFn
      have Hxx := Lib.hid hxx
      clear hxx hDj hd hd2 hX hbl
      go_upto_region 8 with fail
      apply cutS
      case h =>
        intro key
        go_region_law (go_simp; go_at_call 35; refine (HCx.out _).mono ?_; rintro e w5 ⟨rfl, hb5⟩; obtain ⟨hst, hfin⟩ := HFn.out w5 hb5; have HFF := Lib.hid hfin; clear hfin hb5)
        all_goals
          refine forgetP (PgI w g X) HFF.out ?_
          exact key.out
      case g =>
        intro W8 H8
        clear HFn HCx r0 r1 r2 r3 r4 hXs hXo hXi hx
        obtain ⟨bl', off', he, _, hx8⟩ := (HA.out.below H8.bel).b12 j hje
        obtain ⟨rfl, rfl⟩ : bl = bl' ∧ off = off' := by injection he with he; injection he with h1 h2; exact ⟨h1, h2⟩
        rw [← Hxx.out] at hx8
        clear he
        by_cases hx5 : x < 5
        · have a1 : decide (x < 5) = true := decide_eq_true hx5
          have a2 : ((x : Int) < 5) = True := by simp; omega
          obtain rfl : d2 = x := by rw [HDD.out, if_pos hx5]
          have hrow := H8.row
          rw [HXX.out] at hrow
          have HI9 : Hid (PgI w g #[.int .u64 0, .int .u64 ((last : Int) + 1), .int .u64 0, .int .u64 (snap : Int), .int .u8 (d2 : Int)] W8) := Lib.hid ⟨hrow, H8.bel⟩
          obtain ⟨m0, m1, m2, m3, m4⟩ := pg_cells hrow
          have k0 := fun d os => cell_regrown m0 d os
          have k1 := fun d os => cell_regrown m1 d os
          have k3 := fun d os => cell_regrown m3 d os
          have k4 := fun d os => cell_regrown m4 d os
          have HRw := Lib.hid hrow
          have nq : ∀ W : World, (binOp .neq 57 (.agg #[.int .u64 0, .int .u64 ((last : Int) + 1), .int .u64 0, .int .u64 (snap : Int), .int .u8 (d2 : Int)]) (.agg #[.int .u64 0, .int .u64 ((last : Int) + 1), .int .u64 0, .int .u64 (snap : Int), .int .u8 (d2 : Int)])).run Try.prog W = .ok (.bool false) W := fun W => by
            have := pg_neq ⟨0, last + 1, 0, snap, d2⟩ ⟨0, last + 1, 0, snap, d2⟩ W
            rw [decide_eq_true rfl] at this
            exact this
          have HSd := Lib.hid (HS1.out d2)
          clear hx5 hrow H8 HXX HDD
          go_upto_region 11 with fail
          clear m0 m1 m2 m3 m4 a1 a2 hx8
          refine wp_region_quiet_below (by kernel_rfl) (by kernel_rfl) ?_
          repeat (first
            | (refine wpQuiet_load_sub (by kernel_rfl) 57 _ rfl g 0 rfl 57 _ #[.int .u64 0, .int .u64 ((last : Int) + 1), .int .u64 0, .int .u64 (snap : Int), .int .u8 (d2 : Int)] (0, 0) _ HRw.out (fun j hj => by rw [Nat.zero_add]) Try.underlying57 rfl sizePg ?_; (conv => arg 6; simp [Act.put]))
            | (go_big_quiet_step ((go_at_call 32; exact Calls.regrown_of (HSd.out _)))))
          refine wpQuiet_nil ?_
          intro _ hw'
          obtain ⟨pq, hw''⟩ := hw'
          subst hw''
          have hb9 := below_regrown W8 pq.d pq.os
          generalize Go.Sort.grow (redrawn W8 pq.d) pq.os = W9 at *
          have HB9 := Lib.hid hb9
          clear hb9 k0 k1 k3 k4 nq HRw HSd
          go_wp2_with fail
          go_roundw
          case rel => exact ⟨j + 1, by omega, by rw [HDj.out], by go_num, by rw [HDj.out]; exact ⟨HI9.out.row.bel HB9.out, bnext HI9.out.bel HB9.out⟩⟩
          case measure => simp [intOf]; omega
        · have a1 : decide (x < 5) = false := decide_eq_false hx5
          have a2 : ((x : Int) < 5) = False := by simp; omega
          obtain rfl : d2 = d := by rw [HDD.out, if_neg hx5]
          have hrow := H8.row
          rw [HXX.out] at hrow
          have HI9 : Hid (PgI w g #[.int .u64 0, .int .u64 ((last : Int) + 1), .int .u64 0, .int .u64 (snap : Int), .int .u8 (d2 : Int)] W8) := Lib.hid ⟨hrow, H8.bel⟩
          obtain ⟨m0, m1, m2, m3, m4⟩ := pg_cells hrow
          have k0 := fun d os => cell_regrown m0 d os
          have k1 := fun d os => cell_regrown m1 d os
          have k3 := fun d os => cell_regrown m3 d os
          have k4 := fun d os => cell_regrown m4 d os
          have HRw := Lib.hid hrow
          have nq : ∀ W : World, (binOp .neq 57 (.agg #[.int .u64 0, .int .u64 ((last : Int) + 1), .int .u64 0, .int .u64 (snap : Int), .int .u8 (d2 : Int)]) (.agg #[.int .u64 0, .int .u64 ((last : Int) + 1), .int .u64 0, .int .u64 (snap : Int), .int .u8 (d2 : Int)])).run Try.prog W = .ok (.bool false) W := fun W => by
            have := pg_neq ⟨0, last + 1, 0, snap, d2⟩ ⟨0, last + 1, 0, snap, d2⟩ W
            rw [decide_eq_true rfl] at this
            exact this
          have HSd := Lib.hid (HS1.out d2)
          clear hx5 hrow H8 HXX HDD
          go_upto_region 11 with fail
          clear m0 m1 m2 m3 m4 a1 a2 hx8
          refine wp_region_quiet_below (by kernel_rfl) (by kernel_rfl) ?_
          repeat (first
            | (refine wpQuiet_load_sub (by kernel_rfl) 57 _ rfl g 0 rfl 57 _ #[.int .u64 0, .int .u64 ((last : Int) + 1), .int .u64 0, .int .u64 (snap : Int), .int .u8 (d2 : Int)] (0, 0) _ HRw.out (fun j hj => by rw [Nat.zero_add]) Try.underlying57 rfl sizePg ?_; (conv => arg 6; simp [Act.put]))
            | (go_big_quiet_step ((go_at_call 32; exact Calls.regrown_of (HSd.out _)))))
          refine wpQuiet_nil ?_
          intro _ hw'
          obtain ⟨pq, hw''⟩ := hw'
          subst hw''
          have hb9 := below_regrown W8 pq.d pq.os
          generalize Go.Sort.grow (redrawn W8 pq.d) pq.os = W9 at *
          have HB9 := Lib.hid hb9
          clear hb9 k0 k1 k3 k4 nq HRw HSd
          go_wp2_with fail
          go_roundw
          case rel => exact ⟨j + 1, by omega, by rw [HDj.out], by go_num, by rw [HDj.out]; exact ⟨HI9.out.row.bel HB9.out, bnext HI9.out.bel HB9.out⟩⟩
          case measure => simp [intOf]; omega
    · obtain rfl : j = n := by omega
      have HSI : Hid (PgI w g #[.int .u64 0, .int .u64 ((last : Int) + 1), .int .u64 0, .int .u64 (snap : Int), .int .u8 (d : Int)] wr) := HI
      have HRw := Lib.hid HI.out.row
      clear HC HS1 HF HA HDu HD5 hd r0 r1 r2 r3 r4
      by_cases hsi : snap ≤ i
      · have a1 : decide (i < snap) = false := decide_eq_false (by omega)
        have a2 : ((i : Int) < (snap : Int)) = False := by simp; omega
        have HT2 : Hid (∀ W, Calls Try.prog 30 #[.agg #[.int .u64 0, .int .u64 ((last : Int) + 1), .int .u64 0, .int .u64 (snap : Int), .int .u8 (d : Int)], .bool true, .int .u64 (i : Int), .int .u64 0] W (RetP (.agg #[.int .u64 (i : Int), .int .u64 ((K : Int) + 1), .int .u64 0, .int .u64 0, .int .u8 0]) W)) := Lib.hid fun W => by
          have := HT.out d W
          rw [if_pos hsi, if_pos hsi] at this
          exact this
        clear HT hsi
        go_wp2_with (first
          | (go_at_call 28; refine (HAw.out _).mono ?_; rintro e w9 ⟨rfl, b9⟩)
          | (go_at_call 30; refine (HT2.out _).mono ?_; rintro e w6 ⟨rfl, b6⟩)
          | (refine wpList_load_sub (by kernel_rfl) 57 _ rfl g 0 rfl 57 _ #[.int .u64 0, .int .u64 ((last : Int) + 1), .int .u64 0, .int .u64 (snap : Int), .int .u8 (d : Int)] (0, 0) _ HRw.out (fun j hj => by rw [Nat.zero_add]) Try.underlying57 rfl sizePg ?_))
        go_ret
        exact ⟨rfl, bnext (bnext HSI.out.bel (bnew b6 _)) b9⟩
      · have a1 : decide (i < snap) = true := decide_eq_true (by omega)
        have a2 : ((i : Int) < (snap : Int)) = True := by simp; omega
        have HT2 : Hid (∀ W, Calls Try.prog 30 #[.agg #[.int .u64 0, .int .u64 ((last : Int) + 1), .int .u64 0, .int .u64 (snap : Int), .int .u8 (d : Int)], .bool true, .int .u64 (i : Int), .int .u64 0] W (RetP (.agg #[.int .u64 (i : Int), .int .u64 ((K : Int) + 1), .int .u64 0, .int .u64 (snap : Int), .int .u8 (d : Int)]) W)) := Lib.hid fun W => by
          have := HT.out d W
          rw [if_neg hsi, if_neg hsi] at this
          exact this
        clear HT hsi
        go_wp2_with (first
          | (go_at_call 28; refine (HAw.out _).mono ?_; rintro e w9 ⟨rfl, b9⟩)
          | (go_at_call 30; refine (HT2.out _).mono ?_; rintro e w6 ⟨rfl, b6⟩)
          | (refine wpList_load_sub (by kernel_rfl) 57 _ rfl g 0 rfl 57 _ #[.int .u64 0, .int .u64 ((last : Int) + 1), .int .u64 0, .int .u64 (snap : Int), .int .u8 (d : Int)] (0, 0) _ HRw.out (fun j hj => by rw [Nat.zero_add]) Try.underlying57 rfl sizePg ?_))
        go_ret
        exact ⟨rfl, bnext (bnext HSI.out.bel (bnew b6 _)) b9⟩
end Go.Proofs.Ytlnohjboldenpaa
