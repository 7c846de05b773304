/-
  ProgressTells walked. (gen_pgtells.py)
-/
import Derived.Test.YtlnohjboldenpaaRPgAwake
import Derived.Test.YtlnohjboldenpaaRPgAct
import Derived.Test.YtlnohjboldenpaaRPgRNo
import Derived.Test.YtlnohjboldenpaaRDkB
import Derived.Lib.QuietBelow
set_option linter.unusedSimpArgs false
set_option linter.unusedVariables false
namespace Go.Proofs.Ytlnohjboldenpaa
open Go.RowKit Go.Sort
theorem pg9_eq (W : World) (x y : Pg.P) : (Op.equalIn 10000 59 (.agg (pgC x)) (.agg (pgC y))).run Try.prog W = .ok (decide (x = y)) W := by
  rw [run_equalIn_agg W 9999 59 _ _ (by unfold Program.fieldsOf; rw [Try.underlying59]) (by kernel_rfl)]
  unfold Program.fieldsOf
  rw [Try.underlying59]
  unfold pgC
  simp only [Op.eqFields]
  simp [go_sem]
  cases x; cases y
  simp only [Pg.P.mk.injEq]
  repeat' split
  all_goals (simp_all <;> omega)
theorem pg9_neq (x : Pg.P) (W : World) : (binOp .neq 59 (.agg (pgC x)) (.agg (pgC x))).run Try.prog W = .ok (.bool false) W := by
  rw [run_neq_struct, pg9_eq, Result.andThen_ok, decide_eq_true rfl]; rfl
theorem pg9_eql (x : Pg.P) (W : World) : (binOp .eql 59 (.agg (pgC x)) (.agg (pgC x))).run Try.prog W = .ok (.bool true) W := by
  rw [run_eql_struct, pg9_eq, Result.andThen_ok, decide_eq_true rfl]
theorem rtold_any (p : Pg.P) (hm : p.m < Pg.lim) (ok : Bool) (i t : Nat) (hi : i < Pg.lim) (w : World) : Calls Try.prog 31 #[.agg (pgC p), .bool ok, .int .u64 (i : Int), .int .u64 (t : Int)] w (RetP (.agg (pgC (Pg.told p ok i t))) w) := by
  cases ok with
  | true => exact rtold_yes p hm i t hi w
  | false => exact rtold_no p hm i t hi w
set_option maxRecDepth 100000 in
set_option maxHeartbeats 8000000 in
theorem progressTells_any (w : World) (p : Pg.P) (ok : Bool) (i t s f c : Nat) :
    Calls Try.prog 5 #[.agg (pgC p), .bool ok, .int .u64 (i : Int), .int .u64 (t : Int), .int .u64 (s : Int), .int .u64 (f : Int), .int .u8 (c : Int)] w (RetP (.bool true) w) := by
  have HAw := Lib.hid awake12_any
  have HX : Hid (pgC p = #[.int .u64 (p.m : Int), .int .u64 (p.n : Int), .int .u64 (p.r : Int), .int .u64 (p.s : Int), .int .u8 (p.c : Int)]) := Lib.hid rfl
  have G1 := Lib.hid (great1_any (p.m))
  have G2 := Lib.hid (great1_any (p.n))
  have G3 := Lib.hid (great1_any (p.s))
  have G4 := Lib.hid (great1_any (i))
  have G5 := Lib.hid (great1_any (s))
  by_cases h1 : Pg.lim ≤ p.m
  · rw [decide_eq_true h1] at G1
    rw [HX.out]
    clear HX h1 G2 G3 G4 G5
    go_enter Try.func5, Try.ntmps5
    go_wp2_with (first | (go_at_call 28; refine (HAw.out _).mono ?_; rintro e w9 ⟨rfl, b9⟩) | (go_at_call 27; with_reducible refine (G1.out _).mono ?_; rintro e y0 ⟨rfl, hy⟩; obtain rfl := hy.symm))
    go_ret
    exact ⟨rfl, bnext (bnew (Below.refl _ _) _) b9⟩
  rw [decide_eq_false h1] at G1
  by_cases h2 : Pg.lim ≤ p.n
  · rw [decide_eq_true h2] at G2
    rw [HX.out]
    clear HX h1 h2 G3 G4 G5
    go_enter Try.func5, Try.ntmps5
    go_wp2_with (first | (go_at_call 28; refine (HAw.out _).mono ?_; rintro e w9 ⟨rfl, b9⟩) | (go_at_call 27; with_reducible refine (G1.out _).mono ?_; rintro e y0 ⟨rfl, hy⟩; obtain rfl := hy.symm) | (go_at_call 27; with_reducible refine (G2.out _).mono ?_; rintro e y1 ⟨rfl, hy⟩; obtain rfl := hy.symm))
    go_ret
    exact ⟨rfl, bnext (bnew (Below.refl _ _) _) b9⟩
  rw [decide_eq_false h2] at G2
  by_cases h3 : Pg.lim ≤ p.s
  · rw [decide_eq_true h3] at G3
    rw [HX.out]
    clear HX h1 h2 h3 G4 G5
    go_enter Try.func5, Try.ntmps5
    go_wp2_with (first | (go_at_call 28; refine (HAw.out _).mono ?_; rintro e w9 ⟨rfl, b9⟩) | (go_at_call 27; with_reducible refine (G1.out _).mono ?_; rintro e y0 ⟨rfl, hy⟩; obtain rfl := hy.symm) | (go_at_call 27; with_reducible refine (G2.out _).mono ?_; rintro e y1 ⟨rfl, hy⟩; obtain rfl := hy.symm) | (go_at_call 27; with_reducible refine (G3.out _).mono ?_; rintro e y2 ⟨rfl, hy⟩; obtain rfl := hy.symm))
    go_ret
    exact ⟨rfl, bnext (bnew (Below.refl _ _) _) b9⟩
  rw [decide_eq_false h3] at G3
  by_cases h4 : Pg.lim ≤ i
  · rw [decide_eq_true h4] at G4
    rw [HX.out]
    clear HX h1 h2 h3 h4 G5
    go_enter Try.func5, Try.ntmps5
    go_wp2_with (first | (go_at_call 28; refine (HAw.out _).mono ?_; rintro e w9 ⟨rfl, b9⟩) | (go_at_call 27; with_reducible refine (G1.out _).mono ?_; rintro e y0 ⟨rfl, hy⟩; obtain rfl := hy.symm) | (go_at_call 27; with_reducible refine (G2.out _).mono ?_; rintro e y1 ⟨rfl, hy⟩; obtain rfl := hy.symm) | (go_at_call 27; with_reducible refine (G3.out _).mono ?_; rintro e y2 ⟨rfl, hy⟩; obtain rfl := hy.symm) | (go_at_call 27; with_reducible refine (G4.out _).mono ?_; rintro e y3 ⟨rfl, hy⟩; obtain rfl := hy.symm))
    go_ret
    exact ⟨rfl, bnext (bnew (Below.refl _ _) _) b9⟩
  rw [decide_eq_false h4] at G4
  by_cases h5 : Pg.lim ≤ s
  · rw [decide_eq_true h5] at G5
    rw [HX.out]
    clear HX h1 h2 h3 h4 h5 
    go_enter Try.func5, Try.ntmps5
    go_wp2_with (first | (go_at_call 28; refine (HAw.out _).mono ?_; rintro e w9 ⟨rfl, b9⟩) | (go_at_call 27; with_reducible refine (G1.out _).mono ?_; rintro e y0 ⟨rfl, hy⟩; obtain rfl := hy.symm) | (go_at_call 27; with_reducible refine (G2.out _).mono ?_; rintro e y1 ⟨rfl, hy⟩; obtain rfl := hy.symm) | (go_at_call 27; with_reducible refine (G3.out _).mono ?_; rintro e y2 ⟨rfl, hy⟩; obtain rfl := hy.symm) | (go_at_call 27; with_reducible refine (G4.out _).mono ?_; rintro e y3 ⟨rfl, hy⟩; obtain rfl := hy.symm) | (go_at_call 27; with_reducible refine (G5.out _).mono ?_; rintro e y4 ⟨rfl, hy⟩; obtain rfl := hy.symm))
    go_ret
    exact ⟨rfl, bnext (bnew (Below.refl _ _) _) b9⟩
  rw [decide_eq_false h5] at G5
  obtain ⟨XP, hXP⟩ : ∃ X, X = pgC p := ⟨_, rfl⟩
  obtain ⟨X1, hX1⟩ : ∃ X, X = pgC (Pg.told p ok i t) := ⟨_, rfl⟩
  obtain ⟨X2, hX2⟩ : ∃ X, X = pgC (Pg.send p s) := ⟨_, rfl⟩
  obtain ⟨X5, hX5⟩ : ∃ X, X = pgC (Pg.sect p s c) := ⟨_, rfl⟩
  have HGp : Hid (∀ W, Calls Try.prog 29 #[.agg XP] W (RetP (.agg XP) W)) := Lib.hid (by rw [hXP]; exact given_any12 p)
  have HG1 : Hid (∀ W, Calls Try.prog 29 #[.agg X1] W (RetP (.agg X1) W)) := Lib.hid (by rw [hX1]; exact given_any12 _)
  have HG2 : Hid (∀ W, Calls Try.prog 29 #[.agg X2] W (RetP (.agg X2) W)) := Lib.hid (by rw [hX2]; exact given_any12 _)
  have HG5 : Hid (∀ W, Calls Try.prog 29 #[.agg X5] W (RetP (.agg X5) W)) := Lib.hid (by rw [hX5]; exact given_any12 _)
  have HT1 : Hid (∀ W, Calls Try.prog 30 #[.agg XP, .bool ok, .int .u64 (i : Int), .int .u64 (t : Int)] W (RetP (.agg X1) W)) := Lib.hid (by rw [hXP, hX1]; exact ptold_any p (by omega) ok i t (by omega))
  have HU1 : Hid (∀ W, Calls Try.prog 31 #[.agg XP, .bool ok, .int .u64 (i : Int), .int .u64 (t : Int)] W (RetP (.agg X1) W)) := Lib.hid (by rw [hXP, hX1]; exact rtold_any p (by omega) ok i t (by omega))
  have HT2 : Hid (∀ W, Calls Try.prog 32 #[.agg XP, .int .u64 (s : Int)] W (RetP (.agg X2) W)) := Lib.hid (by rw [hXP, hX2]; exact psend_any p s)
  have HU2 : Hid (∀ W, Calls Try.prog 33 #[.agg XP, .int .u64 (s : Int)] W (RetP (.agg X2) W)) := Lib.hid (by rw [hXP, hX2]; exact rsend_any p s)
  have HT5 : Hid (∀ W, Calls Try.prog 35 #[.agg XP, .int .u64 (s : Int), .int .u8 (c : Int)] W (RetP (.agg X5) W)) := Lib.hid (by rw [hXP, hX5]; exact psect_any p s c)
  have HU5 : Hid (∀ W, Calls Try.prog 36 #[.agg XP, .int .u64 (s : Int), .int .u8 (c : Int)] W (RetP (.agg X5) W)) := Lib.hid (by rw [hXP, hX5]; exact rsect_any p s c)
  have HNe : Hid (∀ W, Calls Try.prog 34 #[.agg XP, .int .u64 (f : Int)] W (RetP (.bool (decide (p.n ≤ f))) W)) := Lib.hid (by rw [hXP]; exact needs_any p f)
  have HNw : Hid (∀ W, Calls Try.prog 37 #[.int .u64 (i : Int)] W (RetP (.agg #[.int .u64 0, .int .u64 ((i : Int) + 1), .int .u64 0, .int .u64 0, .int .u8 0]) W)) := Lib.hid fun W => pnew_any i (by omega) W
  have HS3 : Hid (∀ k W, Calls Try.prog 35 #[.agg XP, .int .u64 (p.s : Int), .int .u8 ((k : Nat) : Int)] W (RetP (.agg (pgC (Pg.sect p p.s k))) W)) := Lib.hid (by rw [hXP]; exact fun k => psect_any p p.s k)
  have HU3 : Hid (∀ k W, Calls Try.prog 36 #[.agg XP, .int .u64 (p.s : Int), .int .u8 ((k : Nat) : Int)] W (RetP (.agg (pgC (Pg.sect p p.s k))) W)) := Lib.hid (by rw [hXP]; exact fun k => rsect_any p p.s k)
  have n1 : ∀ W : World, (binOp .neq 59 (.agg X1) (.agg X1)).run Try.prog W = .ok (.bool false) W := by rw [hX1]; exact pg9_neq _
  have n2 : ∀ W : World, (binOp .neq 59 (.agg X2) (.agg X2)).run Try.prog W = .ok (.bool false) W := by rw [hX2]; exact pg9_neq _
  have n5 : ∀ W : World, (binOp .eql 59 (.agg X5) (.agg X5)).run Try.prog W = .ok (.bool true) W := by rw [hX5]; exact pg9_eql _
  have n6 : ∀ W : World, (binOp .eql 57 (.agg #[.int .u64 0, .int .u64 ((i : Int) + 1), .int .u64 0, .int .u64 0, .int .u8 0]) (.agg #[.int .u64 0, .int .u64 ((i : Int) + 1), .int .u64 0, .int .u64 0, .int .u8 0])).run Try.prog W = .ok (.bool true) W := fun W => by
    have := pg_eql ⟨0, i + 1, 0, 0, 0⟩ ⟨0, i + 1, 0, 0, 0⟩ W
    rw [decide_eq_true rfl] at this
    exact this
  have hi : i < 4611686018427387904 := by unfold Pg.lim at h4; omega
  have HXP := Lib.hid hXP
  have hZ : (Try.prog.info? 57).map (·.size) = some XP.size := by rw [hXP]; exact sizePg
  have hZ9 : (Try.prog.info? 59).map (·.size) = some XP.size := by rw [hXP]; exact sizePg9
  have HZ := Lib.hid hZ
  have HZ9 := Lib.hid hZ9
  clear h1 h2 h3 h4 h5 hX1 hX2 hX5 hZ hZ9
  rw [HX.out]
  go_enter Try.func5, Try.ntmps5
  go_upto_region 3 with (first | (go_at_call 27; with_reducible refine (G1.out _).mono ?_; rintro e y0 ⟨rfl, hy⟩; obtain rfl := hy.symm) | (go_at_call 27; with_reducible refine (G2.out _).mono ?_; rintro e y1 ⟨rfl, hy⟩; obtain rfl := hy.symm) | (go_at_call 27; with_reducible refine (G3.out _).mono ?_; rintro e y2 ⟨rfl, hy⟩; obtain rfl := hy.symm) | (go_at_call 27; with_reducible refine (G4.out _).mono ?_; rintro e y3 ⟨rfl, hy⟩; obtain rfl := hy.symm) | (go_at_call 27; with_reducible refine (G5.out _).mono ?_; rintro e y4 ⟨rfl, hy⟩; obtain rfl := hy.symm))
  have HXP2 : Hid (#[.int .u64 (p.m : Int), .int .u64 (p.n : Int), .int .u64 (p.r : Int), .int .u64 (p.s : Int), .int .u8 (p.c : Int)] = XP) := Lib.hid (by rw [hXP]; rfl)
  rw [HXP2.out]
  refine forget (fun W => Rw W w.heap.size XP 57 ∧ Bl w W) ⟨Rw.new w _ _, bnew (Below.refl _ _) _⟩ ?_
  obtain ⟨g, hg⟩ : ∃ g, g = w.heap.size := ⟨_, rfl⟩
  rw [← hg]
  clear hg G1 G2 G3 G4 G5 hXP
  intro W3 ⟨r3, b3⟩
  have HR3 := Lib.hid r3
  have HB3 := Lib.hid b3
  clear r3 b3
  go_upto_region 4 with (first
    | (go_at_call 29; refine (HGp.out _).mono ?_; rintro e w4 ⟨rfl, b4⟩)
    | (refine wpList_load_sub (by kernel_rfl) 57 _ rfl g 0 rfl 57 _ XP (0, 0) _ HR3.out (fun j hj => by rw [Nat.zero_add]) Try.underlying57 rfl HZ.out ?_)
    | (refine wpList_store_sub rfl 59 _ _ rfl w4.heap.size 0 rfl 59 pgZ XP rfl (Rw.new w4 pgZ 59) (by rw [HXP.out]; exact Nat.le_refl 5) HZ9.out (by rw [HXP.out]; exact pg_all p) ?_))
  refine forget (fun W => Rw W g XP 57 ∧ Rw W w4.heap.size XP 59 ∧ Bl w W) ⟨(HR3.out.bel (bnew b4 _)).oputs (Nat.ne_of_lt (Nat.lt_of_lt_of_le HR3.out.lt b4.size)) _ _, (Rw.new w4 pgZ 59).over (by rw [HXP.out]; rfl), setCells_below (Nat.le_trans (Below.size HB3.out) b4.size) _ _ _ (bnew (bnext HB3.out b4) _)⟩ ?_
  generalize w4.heap.size = h
  clear b4 HR3 HB3
  intro W4 ⟨r4, r9, b4⟩
  have HR : Hid (∀ W, Below W4.heap.size W4 W → Rw W g XP 57 ∧ Rw W h XP 59) := Lib.hid fun W hb => ⟨r4.bel hb, r9.bel hb⟩
  have HCl : Hid (∀ W, Below W4.heap.size W4 W → W.cell? ⟨g, 1, none⟩ = some (.int .u64 (p.n : Int)) ∧ W.cell? ⟨g, 3, none⟩ = some (.int .u64 (p.s : Int))) := Lib.hid fun W hb => ⟨(r4.bel hb).cell 1 (by rw [HXP.out]; rfl), (r4.bel hb).cell 3 (by rw [HXP.out]; rfl)⟩
  have HB4 := Lib.hid b4
  clear r4 r9 b4
  have HR4 := Lib.hid (HR.out W4 (Below.refl _ _)).1
  have HR9 := Lib.hid (HR.out W4 (Below.refl _ _)).2
  obtain ⟨c1, c3⟩ := HCl.out W4 (Below.refl _ _)
  have k1 := fun d os => cell_regrown c1 d os
  clear c1 c3
  refine wp_region_quiet_below (by kernel_rfl) (by kernel_rfl) ?_
  repeat (first
    | (refine wpQuiet_load_sub (by kernel_rfl) 57 _ rfl g 0 rfl 57 _ XP (0, 0) _ HR4.out (fun j hj => by rw [Nat.zero_add]) Try.underlying57 rfl HZ.out ?_; (conv => arg 6; simp [Act.put]))
    | (refine wpQuiet_load_sub (by kernel_rfl) 59 _ rfl h 0 rfl 59 _ XP (0, 0) _ HR9.out (fun j hj => by rw [Nat.zero_add]) Try.underlying59 rfl HZ9.out ?_; (conv => arg 6; simp [Act.put]))
    | (go_big_quiet_step ((first
        | (go_at_call 30; exact Calls.regrown_of (HT1.out _))
        | (go_at_call 31; exact Calls.regrown_of (HU1.out _))
        | (go_at_call 32; exact Calls.regrown_of (HT2.out _))
        | (go_at_call 33; exact Calls.regrown_of (HU2.out _))
        | (go_at_call 34; exact Calls.regrown_of (HNe.out _))
        | (go_at_call 29; with_reducible exact Calls.regrown_of (HG1.out _))
        | (go_at_call 29; with_reducible exact Calls.regrown_of (HG2.out _))))))
  refine wpQuiet_nil ?_
  intro _ hw'
  obtain ⟨pq, hw''⟩ := hw'
  subst hw''
  have hb5 := below_regrown W4 pq.d pq.os
  generalize Go.Sort.grow (redrawn W4 pq.d) pq.os = W5 at *
  have HB5 := Lib.hid hb5
  clear hb5 k1 n1 n2 HR4 HR9 HT1 HU1 HT2 HU2 HG1 HG2 HNe
  go_wp2_with fail
  go_loopw [16] (fun iv wr => ∃ (k : Nat), k ≤ 5 ∧ iv = .int .u8 (k : Int) ∧ Below W4.heap.size W4 wr) (fun iv _ => 5 - (intOf iv).toNat)
  case atStart => exact ⟨0, Nat.zero_le _, rfl, HB5.out⟩
  case round =>
    obtain ⟨k, hk5, rfl, hW⟩ := hrel
    have HW := Lib.hid hW
    clear hW
    by_cases hlt : k < 5
    · have a1 : decide (k < 5) = true := decide_eq_true hlt
      have a2 : ((k : Int) < 5) = True := by simp; omega
      obtain ⟨X3, hX3⟩ : ∃ X, X = pgC (Pg.sect p p.s k) := ⟨_, rfl⟩
      have H3 := Lib.hid (HS3.out k)
      have U3 := Lib.hid (HU3.out k)
      rw [← hX3] at H3 U3
      have HG3 : Hid (∀ W, Calls Try.prog 29 #[.agg X3] W (RetP (.agg X3) W)) := Lib.hid (by rw [hX3]; exact given_any12 _)
      have n3 : ∀ W : World, (binOp .neq 59 (.agg X3) (.agg X3)).run Try.prog W = .ok (.bool false) W := by rw [hX3]; exact pg9_neq _
      have HR4 := Lib.hid (HR.out wr HW.out).1
      have HR9 := Lib.hid (HR.out wr HW.out).2
      obtain ⟨c1, c3⟩ := HCl.out wr HW.out
      have k3 := fun d os => cell_regrown c3 d os
      clear hX3 c1 c3
      go_upto_region 9 with fail
      refine wp_region_quiet_below (by kernel_rfl) (by kernel_rfl) ?_
      repeat (first
        | (refine wpQuiet_load_sub (by kernel_rfl) 57 _ rfl g 0 rfl 57 _ XP (0, 0) _ HR4.out (fun j hj => by rw [Nat.zero_add]) Try.underlying57 rfl HZ.out ?_; (conv => arg 6; simp [Act.put]))
        | (refine wpQuiet_load_sub (by kernel_rfl) 59 _ rfl h 0 rfl 59 _ XP (0, 0) _ HR9.out (fun j hj => by rw [Nat.zero_add]) Try.underlying59 rfl HZ9.out ?_; (conv => arg 6; simp [Act.put]))
        | (go_big_quiet_step ((first
            | (go_at_call 35; exact Calls.regrown_of (H3.out _))
            | (go_at_call 36; exact Calls.regrown_of (U3.out _))
            | (go_at_call 29; exact Calls.regrown_of (HG3.out _))))))
      refine wpQuiet_nil ?_
      intro _ hw'
      obtain ⟨pq, hw''⟩ := hw'
      subst hw''
      have hb6 := below_regrown wr pq.d pq.os
      generalize Go.Sort.grow (redrawn wr pq.d) pq.os = W6 at *
      go_wp2_with fail
      go_roundw
      case rel => exact ⟨k + 1, by omega, by go_num, bnext HW.out hb6⟩
      case measure => simp [intOf]; omega
    · obtain rfl : k = 5 := by omega
      have HR4 := Lib.hid (HR.out wr HW.out).1
      have HR9 := Lib.hid (HR.out wr HW.out).2
      go_upto_region 11 with fail
      refine wp_region_quiet_below (by kernel_rfl) (by kernel_rfl) ?_
      repeat (first
        | (refine wpQuiet_load_sub (by kernel_rfl) 57 _ rfl g 0 rfl 57 _ XP (0, 0) _ HR4.out (fun j hj => by rw [Nat.zero_add]) Try.underlying57 rfl HZ.out ?_; (conv => arg 6; simp [Act.put]))
        | (refine wpQuiet_load_sub (by kernel_rfl) 59 _ rfl h 0 rfl 59 _ XP (0, 0) _ HR9.out (fun j hj => by rw [Nat.zero_add]) Try.underlying59 rfl HZ9.out ?_; (conv => arg 6; simp [Act.put]))
        | (go_big_quiet_step ((first
            | (go_at_call 35; exact Calls.regrown_of (HT5.out _))
            | (go_at_call 36; exact Calls.regrown_of (HU5.out _))
            | (go_at_call 29; exact Calls.regrown_of (HG5.out _))
            | (go_at_call 37; exact Calls.regrown_of (HNw.out _))
            | (go_at_call 28; exact Calls.regrown_of (HAw.out _))))))
      refine wpQuiet_nil ?_
      intro _ hw'
      obtain ⟨pq, hw''⟩ := hw'
      subst hw''
      have hb6 := below_regrown wr pq.d pq.os
      generalize Go.Sort.grow (redrawn wr pq.d) pq.os = W6 at *
      go_wp2_with fail
      go_ret
      exact ⟨rfl, bnext (bnext HB4.out HW.out) hb6⟩
end Go.Proofs.Ytlnohjboldenpaa
