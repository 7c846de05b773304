/-
  Layer 11's law: awake walked.
-/
import Derived.Test.YtlnohjboldenpaaLLgZ
import Derived.Lib.QuietBelow
set_option linter.unusedSimpArgs false
set_option linter.unusedVariables false
namespace Go.Proofs.Ytlnohjboldenpaa
open Go.RowKit Go.Sort
set_option maxRecDepth 100000 in
set_option maxHeartbeats 4000000 in
theorem awake_any (w : World) : Calls Try.prog 16 #[] w (RetL (.bool true) w) := by
  have HNw : Hid (Calls Try.prog 17 #[.int .u64 0, .int .u64 0, .int .u8 7, .slice none 0 0] w fun e w' => ∃ p, e = .returned (.tuple #[.pointer (some ⟨p, 0, none⟩), .int .i64 0]) ∧ NewI w w' p ⟨0, 0, 7, []⟩) :=
    Lib.hid (new_nil w 0 0 7 (by decide) (by decide) (by decide))
  have HAd : Hid (∀ W p, NewI w W p ⟨0, 0, 7, []⟩ → Calls Try.prog 51 #[.pointer (some ⟨p, 0, none⟩), .agg #[.int .u64 0, .int .u64 1, .int .u8 1, .int .u8 0, .int .u8 0, .int .u8 0, .int .u8 0, .int .u8 0, .int .u8 0, .int .u8 0, .int .u8 0, .int .u8 0, .string ⟨#[]⟩]] W fun r w' => r = .returned (.agg (entC (Lg.one 1 1))) ∧ NewI w w' p ⟨0, 0, 7, [Lg.one 1 1]⟩) :=
    Lib.hid fun W p h => add_newI h (Lg.one 0 1) (one_fits 0 1 (by decide) (by decide)) (by decide) (by decide)
  have HOn : Hid (∀ W (i t : Nat), Calls Try.prog 52 #[.int .u64 (i : Int), .int .u64 (t : Int)] W fun r w' => r = .returned (.agg #[.int .u64 (i : Int), .int .u64 (t : Int), .int .u8 1, .int .u8 0, .int .u8 0, .int .u8 0, .int .u8 0, .int .u8 0, .int .u8 0, .int .u8 0, .int .u8 0, .int .u8 0, .string ⟨#[]⟩]) ∧ Below W.heap.size W w') := Lib.hid fun W i t => one_any W i t
  have H21 := Lib.hid fun W => HOn.out W 2 1
  have H32 := Lib.hid fun W => HOn.out W 3 2
  have H33 := Lib.hid fun W => HOn.out W 3 3
  have H11 := Lib.hid fun W => HOn.out W 1 1
  have HZ := sizeEntL (Lg.one 1 1)
  have HO := (entF (Lg.one 1 1)).one
  obtain ⟨X, hX⟩ : ∃ X, X = entC (Lg.one 1 1) := ⟨_, rfl⟩
  have HX := Lib.hid hX
  rw [← hX] at HZ HO HAd
  have hXs : X.size = 13 := by rw [hX]; rfl
  clear hX HOn
  go_enter Try.func16, Try.ntmps16
  go_upto_region 4 with (go_at_call 17; refine HNw.out.mono ?_; rintro r w2 ⟨p, rfl, hI⟩)
  have HA4 := Lib.hid (HAd.out _ _ hI)
  clear hI HNw HAd
  go_upto_region 5 with (first
    | (go_at_call 51; refine HA4.out.mono ?_; rintro r w3 ⟨rfl, hI3⟩)
    | (refine wpList_store_sub rfl 49 _ _ rfl w3.heap.size 0 rfl 49 (entC En.zero) X rfl (Rw.new w3 (entC En.zero) 49) (by rw [hXs]; decide) HZ HO ?_))
  refine forget (fun W => NewZ w W p ⟨0, 0, 7, [Lg.one 1 1]⟩ (fun k => k = w3.heap.size) ∧ Rw W w3.heap.size X 49) ⟨(hI3.z (((Bl.refl w3).alloc _).puts (Nat.le_refl _) _ _)).sub fun k hk => by rw [hk]; exact Nat.le_refl _, (Rw.new w3 (entC En.zero) 49).over (by rw [hXs]; rfl)⟩ ?_
  clear hI3 HZ HO hXs HA4
  generalize w3.heap.size = g
  intro W5 H5
  have H5' := Lib.hid H5
  clear H5
  have HP5 : Hid (∀ w3, Below W5.heap.size W5 w3 → Calls Try.prog 26 #[.pointer (some ⟨p, 0, none⟩), .int .u64 1, .int .u64 1, .slice (some ⟨w3.heap.size, 0, none⟩) 2 2] (w3.alloc (.cells (ec [Lg.one 2 1, Lg.one 3 2]).toArray 49)) fun r w' =>
      ∃ A c, r = .returned (.tuple #[.bool true, .int .u64 3, .slice A 2 c]) ∧ NewZ w w' p ⟨0, 0, 7, [Lg.one 1 1, Lg.one 2 1, Lg.one 3 2]⟩ (fun k => k = g) ∧ Rw w' g X 49) := Lib.hid fun w3 hb =>
    (put_ones H5'.out.1 H5'.out.2.lt 1 1 (by decide) (by decide) [Lg.one 2 1, Lg.one 3 2] (fun e he => by
      rcases List.mem_cons.1 he with rfl | he
      · exact one_fits 2 1 (by decide) (by decide)
      · rw [List.mem_singleton.1 he]; exact one_fits 3 2 (by decide) (by decide)) (by decide) (by decide) (by decide) hb).mono fun r w' ⟨A, c, r1, r2, r3, r4⟩ => ⟨A, c, r1, r2, r3.trans H5'.out.2⟩
  go_upto_region 6 with (first
    | (go_at_call 52; refine (H21.out _).mono ?_; rintro r w6 ⟨rfl, hb6⟩)
    | (go_at_call 52; refine (H32.out _).mono ?_; rintro r w7 ⟨rfl, hb7⟩)
    | (go_at_call 26; refine (HP5.out _ (bnext hb6 hb7)).mono ?_; rintro r w8 ⟨A8, c8, rfl, h8, k8⟩))
  have H8 := Lib.hid (And.intro h8 k8)
  clear h8 k8 hb6 hb7 HP5 H5' H21 H32
  have HP6 : Hid (∀ w3, Below w8.heap.size w8 w3 → Calls Try.prog 26 #[.pointer (some ⟨p, 0, none⟩), .int .u64 2, .int .u64 1, .slice (some ⟨w3.heap.size, 0, none⟩) 1 1] (w3.alloc (.cells (ec [Lg.one 3 3]).toArray 49)) fun r w' =>
      ∃ A c, r = .returned (.tuple #[.bool true, .int .u64 3, .slice A 1 c]) ∧ NewZ w w' p ⟨0, 0, 7, [Lg.one 1 1, Lg.one 2 1, Lg.one 3 3]⟩ (fun k => k = g) ∧ Rw w' g X 49) := Lib.hid fun w3 hb =>
    (put_ones H8.out.1 H8.out.2.lt 2 1 (by decide) (by decide) [Lg.one 3 3] (fun e he => by
      rw [List.mem_singleton.1 he]; exact one_fits 3 3 (by decide) (by decide)) (by decide) (by decide) (by decide) hb).mono fun r w' ⟨A, c, r1, r2, r3, r4⟩ => ⟨A, c, r1, r2, r3.trans H8.out.2⟩
  go_upto_region 7 with (first
    | (go_at_call 52; refine (H33.out _).mono ?_; rintro r w9 ⟨rfl, hb9⟩)
    | (go_at_call 26; refine (HP6.out _ hb9).mono ?_; rintro r w10 ⟨A10, c10, rfl, h10, k10⟩))
  have H10 := Lib.hid (And.intro h10 k10)
  clear h10 k10 hb9 HP6 H8 H33
  have HL : Hid (Calls Try.prog 25 #[.pointer (some ⟨p, 0, none⟩)] w10 (RetL (.tuple #[.int .u64 3, .int .u64 3]) w10)) := by
    obtain ⟨⟨S, h1, _⟩, _⟩ := H10.out.1
    exact Lib.hid (last_any w10 h1)
  go_upto_region 8 with (go_at_call 25; refine HL.out.mono ?_; rintro r w11 ⟨rfl, hb11⟩)
  have hr11 := H10.out.2.bel hb11
  have HC : Hid (∀ W', Below w11.heap.size w11 W' → W'.cell? ⟨g, 0, none⟩ = some (.int .u64 1) ∧ W'.cell? ⟨g, 1, none⟩ = some (.int .u64 1) ∧ W'.cell? ⟨g, 2, none⟩ = some (.int .u8 1) ∧ W'.cell? ⟨g, 3, none⟩ = some (.int .u8 0) ∧ W'.cell? ⟨g, 4, none⟩ = some (.int .u8 0) ∧ W'.cell? ⟨g, 5, none⟩ = some (.int .u8 0) ∧ W'.cell? ⟨g, 6, none⟩ = some (.int .u8 0) ∧ W'.cell? ⟨g, 7, none⟩ = some (.int .u8 0) ∧ W'.cell? ⟨g, 8, none⟩ = some (.int .u8 0) ∧ W'.cell? ⟨g, 9, none⟩ = some (.int .u8 0) ∧ W'.cell? ⟨g, 10, none⟩ = some (.int .u8 0) ∧ W'.cell? ⟨g, 11, none⟩ = some (.int .u8 0) ∧ W'.cell? ⟨g, 12, none⟩ = some (.string ⟨#[]⟩)) := Lib.hid fun W' hb => by
    have r := hr11.bel hb
    rw [HX.out] at r
    exact ⟨r.cell 0 rfl, r.cell 1 rfl, r.cell 2 rfl, r.cell 3 rfl, r.cell 4 rfl, r.cell 5 rfl, r.cell 6 rfl, r.cell 7 rfl, r.cell 8 rfl, r.cell 9 rfl, r.cell 10 rfl, r.cell 11 rfl, r.cell 12 rfl⟩
  obtain ⟨q0, q1, q2, q3, q4, q5, q6, q7, q8, q9, q10, q11, q12⟩ := HC.out _ (Below.refl _ _)
  have k0 := fun d os => cell_regrown q0 d os
  have k1 := fun d os => cell_regrown q1 d os
  have k2 := fun d os => cell_regrown q2 d os
  have k3 := fun d os => cell_regrown q3 d os
  have k4 := fun d os => cell_regrown q4 d os
  have k5 := fun d os => cell_regrown q5 d os
  have k6 := fun d os => cell_regrown q6 d os
  have k7 := fun d os => cell_regrown q7 d os
  have k8 := fun d os => cell_regrown q8 d os
  have k9 := fun d os => cell_regrown q9 d os
  have k10 := fun d os => cell_regrown q10 d os
  have k11 := fun d os => cell_regrown q11 d os
  have k12 := fun d os => cell_regrown q12 d os
  have HB11 := Lib.hid (bnext H10.out.1.bl hb11)
  clear hb11 hr11 H10 HL HX HC q0 q1 q2 q3 q4 q5 q6 q7 q8 q9 q10 q11 q12
  have heq : ∀ W : World, (binOp .eql 49 (.agg #[.int .u64 1, .int .u64 1, .int .u8 1, .int .u8 0, .int .u8 0, .int .u8 0, .int .u8 0, .int .u8 0, .int .u8 0, .int .u8 0, .int .u8 0, .int .u8 0, .string ⟨#[]⟩]) (.agg #[.int .u64 1, .int .u64 1, .int .u8 1, .int .u8 0, .int .u8 0, .int .u8 0, .int .u8 0, .int .u8 0, .int .u8 0, .int .u8 0, .int .u8 0, .int .u8 0, .string ⟨#[]⟩])).run Try.prog W = .ok (.bool true) W := fun W => by
    have := ent_eql (Lg.one 1 1) (Lg.one 1 1) W
    rw [decide_eq_true rfl] at this
    exact this
  refine wp_region_quiet_below (by kernel_rfl) (by kernel_rfl) ?_
  repeat (go_big_quiet_step ((go_at_call 52; exact Calls.regrown_of (H11.out _))))
  refine wpQuiet_nil ?_
  intro _ hw'
  obtain ⟨pq, hw''⟩ := hw'
  subst hw''
  have hb1 := below_regrown w11 pq.d pq.os
  go_wp2_with fail
  go_ret
  exact ⟨rfl, bnext HB11.out hb1⟩
end Go.Proofs.Ytlnohjboldenpaa
