/-
  wapentakeref06.plain and WriteReply walked. WRITTEN BY wip/tools/gen_frrefw.py.
-/
import Derived.Test.YtlcgjlganmblpaaRFrB
import Derived.Test.YtlcgjlganmblpaaRFrW
import Derived.Test.YtlcgjlganmblpaaRWords
set_option linter.unusedSimpArgs false
set_option linter.unusedVariables false
namespace Go.Proofs.Ytlcgjlganmblpaa
open Go.RowKit
set_option linter.unusedVariables false
namespace Fr
def plain (r : R) : R := if r.kind = 1 then ⟨1, 0, 0, 0, Rs.zero⟩ else if r.kind = 3 then ⟨3, r.ses, r.seq, r.lead, Rs.zero⟩ else if r.kind = 6 then ⟨6, r.ses, r.seq, 0, r.res⟩ else ⟨r.kind, r.ses, r.seq, 0, Rs.zero⟩
def plA (r : R) (A : Option Addr) : Option Addr := if r.kind = 6 then A else none
def plc (r : R) (cap : Nat) : Nat := if r.kind = 6 then cap else 0
theorem noRes_f {x : Rs.Res} (h : ¬ x = Rs.zero) : noRes x = false := by
  rcases hn : noRes x with _ | _
  · rfl
  · exact absurd ((noRes_iff x).1 hn) h
theorem right_plain (r : R) (h1 : 1 ≤ r.kind) (h6 : r.kind ≤ 6) (hl : r.lead ≤ 5) : rsame r (plain r) = right r := by
  rw [Bool.eq_iff_iff, rsame_iff]
  obtain ⟨k, s, q, d, x⟩ := r
  simp only at h1 h6 hl
  have hk : k = 1 ∨ k = 2 ∨ k = 3 ∨ k = 4 ∨ k = 5 ∨ k = 6 := by omega
  rcases hk with rfl | rfl | rfl | rfl | rfl | rfl <;> simp [plain, right, noRes_iff, hl]
theorem right_in {r : R} (h : right r = true) : 1 ≤ r.kind ∧ r.kind ≤ 6 ∧ r.lead ≤ 5 := by
  unfold right at h
  repeat' split at h
  all_goals first
    | (simp only [Bool.and_eq_true, beq_iff_eq, decide_eq_true_eq] at h; omega)
    | (simp only [beq_iff_eq] at h; omega)
    | cases h
end Fr
theorem plain_lies {w : World} {A : Option Addr} (r : Fr.R) (h : Lies w A (rc r.res.rows)) : Lies w (Fr.plA r A) (rc (Fr.plain r).res.rows) := by
  unfold Fr.plA Fr.plain
  by_cases k1 : r.kind = 1
  · rw [if_neg (by omega), if_pos k1]; exact .inl rfl
  by_cases k3 : r.kind = 3
  · rw [if_neg (by omega), if_neg k1, if_pos k3]; exact .inl rfl
  by_cases k6 : r.kind = 6
  · rw [if_pos k6, if_neg k1, if_neg k3, if_pos k6]; exact h
  · rw [if_neg k6, if_neg k1, if_neg k3, if_neg k6]; exact .inl rfl
set_option maxRecDepth 100000 in
set_option maxHeartbeats 4000000 in
theorem plain_any (r : Fr.R) (A : Option Addr) (cap : Nat) (w : World) : Calls Try.prog 43 #[.agg (rpC r A cap)] w fun e w' => e = .returned (.agg (rpC (Fr.plain r) (Fr.plA r A) (Fr.plc r cap))) ∧ Below w.heap.size w w' := by
  obtain ⟨X, hX⟩ : ∃ X, X = rpC r A cap := ⟨_, rfl⟩
  rw [← hX]
  have HX := Lib.hid hX
  clear hX
  by_cases k1 : r.kind = 1
  case pos =>
    have e1 : ((r.kind : Int) == 1) = true := kd_t k1
    have E : Hid (rpC (Fr.plain r) (Fr.plA r A) (Fr.plc r cap) = rpC ⟨1, 0, 0, 0, Rs.zero⟩ none 0) := Lib.hid (by simp [Fr.plain, Fr.plA, Fr.plc, k1])
    clear k1
    go_enter Try.func43, Try.ntmps43
    go_upto_region 1 with (fail)
    refine forget (fun W => Below w.heap.size w W ∧ W.heap[w.heap.size]? = some (.cells X 39 (0, 0)) ∧ W.heap[w.heap.size + 1]? = some (.cells (rpC Fr.R.zero none 0) 39 (0, 0))) (two_rows w X (rpC Fr.R.zero none 0) 39) ?_
    rintro W1 ⟨hb1, hx1, hz1⟩
    rw [HX.out] at hx1
    obtain ⟨g, hg⟩ : ∃ g, g = w.heap.size := ⟨_, rfl⟩
    have HG := Lib.hid hg
    rw [← hg] at hx1 hz1 ⊢
    have HM := Lib.hid (And.intro hb1 (And.intro hx1 hz1))
    obtain ⟨a0, a1, a2, a3, a4, a5, a6, a7, _⟩ := rpAt hx1
    clear hb1 hx1 hz1 hg
    go_wp2_with (refine wpList_store_sub rfl 39 _ _ rfl (g + 1) 0 rfl 39 (rpC Fr.R.zero none 0) (rpC ⟨1, 0, 0, 0, Rs.zero⟩ none 0) rfl ?_ (Nat.le_refl 8) (sizeRpC _ _ _) (rpC_one _ _ _) ?_; exact HM.out.2.2)
    refine bodyPost_ret (results_cell_row (P := Try.prog) (fn := Try.f43) rfl _ _ (g + 1) 39 (rpC ⟨1, 0, 0, 0, Rs.zero⟩ none 0) (0, 0) _ rfl ((row_setCells _ 0 _ _ HM.out.2.2).trans (by rw [layRp])) Try.underlying39 rfl sizeRp) rfl ?_
    exact ⟨by rw [E.out], setCells_below (by rw [HG.out]; omega) _ _ _ HM.out.1⟩
  by_cases k3 : r.kind = 3
  case pos =>
    have e1 : ((r.kind : Int) == 1) = false := kd_f k1
    have e3 : ((r.kind : Int) == 3) = true := kd_t k3
    have E : Hid (rpC (Fr.plain r) (Fr.plA r A) (Fr.plc r cap) = rpC ⟨3, r.ses, r.seq, r.lead, Rs.zero⟩ none 0) := Lib.hid (by simp [Fr.plain, Fr.plA, Fr.plc, k1, k3])
    clear k1 k3
    go_enter Try.func43, Try.ntmps43
    go_upto_region 1 with (fail)
    refine forget (fun W => Below w.heap.size w W ∧ W.heap[w.heap.size]? = some (.cells X 39 (0, 0)) ∧ W.heap[w.heap.size + 1]? = some (.cells (rpC Fr.R.zero none 0) 39 (0, 0))) (two_rows w X (rpC Fr.R.zero none 0) 39) ?_
    rintro W1 ⟨hb1, hx1, hz1⟩
    rw [HX.out] at hx1
    obtain ⟨g, hg⟩ : ∃ g, g = w.heap.size := ⟨_, rfl⟩
    have HG := Lib.hid hg
    rw [← hg] at hx1 hz1 ⊢
    have HM := Lib.hid (And.intro hb1 (And.intro hx1 hz1))
    obtain ⟨a0, a1, a2, a3, a4, a5, a6, a7, _⟩ := rpAt hx1
    clear hb1 hx1 hz1 hg
    go_wp2_with (refine wpList_store_sub rfl 39 _ _ rfl (g + 1) 0 rfl 39 (rpC Fr.R.zero none 0) (rpC ⟨3, r.ses, r.seq, r.lead, Rs.zero⟩ none 0) rfl ?_ (Nat.le_refl 8) (sizeRpC _ _ _) (rpC_one _ _ _) ?_; exact HM.out.2.2)
    refine bodyPost_ret (results_cell_row (P := Try.prog) (fn := Try.f43) rfl _ _ (g + 1) 39 (rpC ⟨3, r.ses, r.seq, r.lead, Rs.zero⟩ none 0) (0, 0) _ rfl ((row_setCells _ 0 _ _ HM.out.2.2).trans (by rw [layRp])) Try.underlying39 rfl sizeRp) rfl ?_
    exact ⟨by rw [E.out], setCells_below (by rw [HG.out]; omega) _ _ _ HM.out.1⟩
  by_cases k6 : r.kind = 6
  case pos =>
    have e1 : ((r.kind : Int) == 1) = false := kd_f k1
    have e3 : ((r.kind : Int) == 3) = false := kd_f k3
    have e6 : ((r.kind : Int) == 6) = true := kd_t k6
    have E : Hid (rpC (Fr.plain r) (Fr.plA r A) (Fr.plc r cap) = rpC ⟨6, r.ses, r.seq, 0, r.res⟩ A cap) := Lib.hid (by simp [Fr.plain, Fr.plA, Fr.plc, k1, k3, k6])
    clear k1 k3 k6
    go_enter Try.func43, Try.ntmps43
    go_upto_region 1 with (fail)
    refine forget (fun W => Below w.heap.size w W ∧ W.heap[w.heap.size]? = some (.cells X 39 (0, 0)) ∧ W.heap[w.heap.size + 1]? = some (.cells (rpC Fr.R.zero none 0) 39 (0, 0))) (two_rows w X (rpC Fr.R.zero none 0) 39) ?_
    rintro W1 ⟨hb1, hx1, hz1⟩
    rw [HX.out] at hx1
    obtain ⟨g, hg⟩ : ∃ g, g = w.heap.size := ⟨_, rfl⟩
    have HG := Lib.hid hg
    rw [← hg] at hx1 hz1 ⊢
    have HM := Lib.hid (And.intro hb1 (And.intro hx1 hz1))
    obtain ⟨a0, a1, a2, a3, a4, a5, a6, a7, _⟩ := rpAt hx1
    clear hb1 hx1 hz1 hg
    go_wp2_with (refine wpList_store_sub rfl 39 _ _ rfl (g + 1) 0 rfl 39 (rpC Fr.R.zero none 0) (rpC ⟨6, r.ses, r.seq, 0, r.res⟩ A cap) rfl ?_ (Nat.le_refl 8) (sizeRpC _ _ _) (rpC_one _ _ _) ?_; exact HM.out.2.2)
    refine bodyPost_ret (results_cell_row (P := Try.prog) (fn := Try.f43) rfl _ _ (g + 1) 39 (rpC ⟨6, r.ses, r.seq, 0, r.res⟩ A cap) (0, 0) _ rfl ((row_setCells _ 0 _ _ HM.out.2.2).trans (by rw [layRp])) Try.underlying39 rfl sizeRp) rfl ?_
    exact ⟨by rw [E.out], setCells_below (by rw [HG.out]; omega) _ _ _ HM.out.1⟩
  have e1 : ((r.kind : Int) == 1) = false := kd_f k1
  have e3 : ((r.kind : Int) == 3) = false := kd_f k3
  have e6 : ((r.kind : Int) == 6) = false := kd_f k6
  have E : Hid (rpC (Fr.plain r) (Fr.plA r A) (Fr.plc r cap) = rpC ⟨r.kind, r.ses, r.seq, 0, Rs.zero⟩ none 0) := Lib.hid (by simp [Fr.plain, Fr.plA, Fr.plc, k1, k3, k6])
  clear k1 k3 k6
  go_enter Try.func43, Try.ntmps43
  go_upto_region 1 with (fail)
  refine forget (fun W => Below w.heap.size w W ∧ W.heap[w.heap.size]? = some (.cells X 39 (0, 0)) ∧ W.heap[w.heap.size + 1]? = some (.cells (rpC Fr.R.zero none 0) 39 (0, 0))) (two_rows w X (rpC Fr.R.zero none 0) 39) ?_
  rintro W1 ⟨hb1, hx1, hz1⟩
  rw [HX.out] at hx1
  obtain ⟨g, hg⟩ : ∃ g, g = w.heap.size := ⟨_, rfl⟩
  have HG := Lib.hid hg
  rw [← hg] at hx1 hz1 ⊢
  have HM := Lib.hid (And.intro hb1 (And.intro hx1 hz1))
  obtain ⟨a0, a1, a2, a3, a4, a5, a6, a7, _⟩ := rpAt hx1
  clear hb1 hx1 hz1 hg
  go_wp2_with (refine wpList_store_sub rfl 39 _ _ rfl (g + 1) 0 rfl 39 (rpC Fr.R.zero none 0) (rpC ⟨r.kind, r.ses, r.seq, 0, Rs.zero⟩ none 0) rfl ?_ (Nat.le_refl 8) (sizeRpC _ _ _) (rpC_one _ _ _) ?_; exact HM.out.2.2)
  refine bodyPost_ret (results_cell_row (P := Try.prog) (fn := Try.f43) rfl _ _ (g + 1) 39 (rpC ⟨r.kind, r.ses, r.seq, 0, Rs.zero⟩ none 0) (0, 0) _ rfl ((row_setCells _ 0 _ _ HM.out.2.2).trans (by rw [layRp])) Try.underlying39 rfl sizeRp) rfl ?_
  exact ⟨by rw [E.out], setCells_below (by rw [HG.out]; omega) _ _ _ HM.out.1⟩
theorem refv_two (a b : Nat) (ha : a < Nm.top) (hb : b < Nm.top) (A : Option Addr) (W : World) (h : Lies W A (uc [a, b])) : Calls Try.prog 44 #[.slice A 2 2] W fun r w' => r = .returned (.string ⟨(Nm.grp a ++ Nm.grp b).toArray⟩) ∧ Below W.heap.size W w' := by
  have := refV_any [a, b] (fun n hn => by simp at hn; rcases hn with rfl | rfl; exact ha; exact hb) A 2 W h (by simp)
  unfold RetS at this
  rw [show vs [a, b] = Nm.grp a ++ Nm.grp b by simp [vs]] at this
  exact this
theorem str_one (n : Nat) (h : n < 256) (W : World) : (convert 60 9 (.slice (some ⟨W.heap.size, 0, none⟩) 1 1)).run Try.prog (W.alloc (.cells #[.int .u8 (n : Int)] 5)) = .ok (.string ⟨(Cm.one n).toArray⟩) (W.alloc (.cells #[.int .u8 (n : Int)] 5)) :=
  str1 W (n : Int) (Nm.b8 n) (by rw [Nm.b8_toNat n h])
set_option maxRecDepth 100000 in
set_option maxHeartbeats 4000000 in
theorem rwreply_any (r : Fr.R) (hf : Fr.RFit r) (hrf : RFits r.res) (hn : r.res.rows.length ≤ 1000000) (hz : (Rs.bytes r.res).length ≤ 50000000) (A : Option Addr) (cap : Nat) (w : World) (hA : Lies w A (rc r.res.rows)) :
    Calls Try.prog 19 #[.agg (rpC r A cap)] w (RetS (Fr.rwrite r) w) := by
  have hRes := fun W (hb : Below w.heap.size w W) => writeResult_any r.res hrf A cap W (hA.below hb) hn hz
  have hP := fun W => plain_any r A cap W
  have hS := fun W (hb : Below w.heap.size w W) => rpsame_any r (Fr.plain r) A (Fr.plA r A) cap (Fr.plc r cap) W (hA.below hb) (plain_lies r (hA.below hb)) hn
  unfold RetTr at hS
  unfold RetS at hRes ⊢
  unfold resC at hRes
  obtain ⟨u, hu⟩ : ∃ u : ByteArray, u = ⟨(Cm.one r.kind).toArray⟩ := ⟨_, rfl⟩
  obtain ⟨v, hv⟩ : ∃ u : ByteArray, u = ⟨(Nm.grp r.ses ++ Nm.grp r.seq).toArray⟩ := ⟨_, rfl⟩
  obtain ⟨d, hd⟩ : ∃ u : ByteArray, u = ⟨(Cm.one r.lead).toArray⟩ := ⟨_, rfl⟩
  obtain ⟨q, hq⟩ : ∃ u : ByteArray, u = ⟨(Rs.bytes r.res).toArray⟩ := ⟨_, rfl⟩
  have zu : u.size = 1 := by rw [hu]; rfl
  have zd : d.size = 1 := by rw [hd]; rfl
  have zv : v.size ≤ 20 := by
    rw [hv, Lib.size_eq]
    have := grp_len r.ses hf.ses
    have := grp_len r.seq hf.seq
    simp only [List.length_append]; omega
  have zq : q.size ≤ 50000000 := by rw [hq, Lib.size_eq]; exact hz
  have hU := fun W => str_one r.kind hf.kind W
  have hD := fun W => str_one r.lead hf.lead W
  have hV := refv_two r.ses r.seq hf.ses hf.seq
  rw [← hu] at hU
  rw [← hd] at hD
  rw [← hv] at hV
  rw [← hq] at hRes
  have HU := Lib.hid hU
  have HD := Lib.hid hD
  have HV := Lib.hid hV
  have HQ := Lib.hid hRes
  have ha1 : ∀ W : World, (Op.stringOp .add u v).run Try.prog W = .ok (.string (u ++ v)) W := fun W => run_string_add_sum W _ _ (by omega)
  have ha2 : ∀ W : World, (Op.stringOp .add (u ++ v) d).run Try.prog W = .ok (.string (u ++ v ++ d)) W := fun W => run_string_add_sum W _ _ (by simp only [ByteArray.size_append]; omega)
  have ha3 : ∀ W : World, (Op.stringOp .add (u ++ v) q).run Try.prog W = .ok (.string (u ++ v ++ q)) W := fun W => run_string_add_sum W _ _ (by simp only [ByteArray.size_append]; omega)
  have HE : Fr.right r = true → (⟨(Fr.rwrite r).toArray⟩ : ByteArray) = if r.kind = 1 then u else if r.kind = 3 then u ++ v ++ d else if r.kind = 6 then u ++ v ++ q else u ++ v := fun h => by
    unfold Fr.rwrite; rw [if_pos h]; unfold Fr.bytes Fr.tail
    repeat' split
    all_goals (rw [hu]; try rw [hv]
               try rw [hd]
               try rw [hq]
               simp [ByteArray.mk_append_mk])
  have Hin := Lib.hid (fun h => Fr.right_in (r := r) h)
  obtain ⟨X, hX⟩ : ∃ X, X = rpC r A cap := ⟨_, rfl⟩
  obtain ⟨Y, hY⟩ : ∃ X, X = rpC (Fr.plain r) (Fr.plA r A) (Fr.plc r cap) := ⟨_, rfl⟩
  rw [← hY] at hP hS
  have HP := Lib.hid hP
  have hl : rpC r A cap = #[.int .u8 (r.kind : Int), .int .u64 (r.ses : Int), .int .u64 (r.seq : Int), .int .u8 (r.lead : Int), .int .u8 (r.res.code : Int), .int .u64 (r.res.n : Int), .string r.res.val, .slice A r.res.rows.length cap] := rfl
  rw [hl] at hP hS
  have HP := Lib.hid hP
  have S0 : RpS w (w.alloc (.cells X 39)) w.heap.size r A cap := ⟨bnew (Below.refl _ _) _, by rw [← hX]; exact heap_alloc_new w _⟩
  have HS0 := Lib.hid S0
  rw [← hX]
  have HE2 : Hid (1 ≤ r.kind → r.kind ≤ 6 → r.lead ≤ 5 → Fr.rsame r (Fr.plain r) = Fr.right r) := Lib.hid (Fr.right_plain r)
  have HSm := Lib.hid hS
  have Hha1 := Lib.hid ha1
  have Hha2 := Lib.hid ha2
  have Hha3 := Lib.hid ha3
  clear S0 hX hY hl hu hv hd hq hU hD hV hRes zu zd zv zq hf hz hP hS hA hn hrf ha1 ha2 ha3
  by_cases h1 : 1 ≤ r.kind
  case neg =>
    have d1 : decide ((r.kind : Int) < 1) = true := by simp; omega
    have d1' : ((r.kind : Int) < 1) = True := by simp; omega
    have d1'' : decide (r.kind < 1) = true := by simp; omega
    have E : Hid (Fr.rwrite r = []) := Lib.hid (by
      unfold Fr.rwrite
      rw [if_neg (fun h => by have := Hin.out h; omega)])
    clear HE h1
    go_enter Try.func19, Try.ntmps19
    go_upto_region 1 with (fail)
    refine forget (fun W => RpS w W w.heap.size r A cap) HS0.out ?_
    obtain ⟨g, hg⟩ : ∃ g, g = w.heap.size := ⟨_, rfl⟩
    rw [← hg]
    clear hg HS0
    intro W1 S1
    have HS1 := Lib.hid S1
    have k0 := fun d os => cell_regrown S1.at.c0 d os
    have k1 := fun d os => cell_regrown S1.at.c1 d os
    have k2 := fun d os => cell_regrown S1.at.c2 d os
    have k3 := fun d os => cell_regrown S1.at.c3 d os
    have k4 := fun d os => cell_regrown S1.at.c4 d os
    have k5 := fun d os => cell_regrown S1.at.c5 d os
    have k6 := fun d os => cell_regrown S1.at.c6 d os
    have k7 := fun d os => cell_regrown S1.at.c7 d os
    clear S1
    refine wp_region_quiet_below (by kernel_rfl) (by kernel_rfl) ?_
    repeat (go_big_quiet_step (fail))
    refine wpQuiet_nil ?_
    intro _ hw'
    obtain ⟨pq, hw''⟩ := hw'
    subst hw''
    have HS2 := Lib.hid (HS1.out.grow (below_regrown W1 pq.d pq.os))
    clear k0 k1 k2 k3 k4 k5 k6 k7 HS1
    generalize Go.Sort.grow (redrawn W1 pq.d) pq.os = W2 at *
    go_wp2_with fail
    go_ret
    exact ⟨by rw [E.out]; rfl, HS2.out.b⟩
  have d1 : decide ((r.kind : Int) < 1) = false := by simp; omega
  have d1' : ((r.kind : Int) < 1) = False := by simp; omega
  have d1'' : decide (r.kind < 1) = false := by simp; omega
  by_cases h6 : r.kind ≤ 6
  case neg =>
    have d6 : decide ((6 : Int) < (r.kind : Int)) = true := by simp; omega
    have d6' : ((6 : Int) < (r.kind : Int)) = True := by simp; omega
    have d6'' : decide (6 < r.kind) = true := by simp; omega
    have E : Hid (Fr.rwrite r = []) := Lib.hid (by
      unfold Fr.rwrite
      rw [if_neg (fun h => by have := Hin.out h; omega)])
    clear HE h1 h6
    go_enter Try.func19, Try.ntmps19
    go_upto_region 1 with (fail)
    refine forget (fun W => RpS w W w.heap.size r A cap) HS0.out ?_
    obtain ⟨g, hg⟩ : ∃ g, g = w.heap.size := ⟨_, rfl⟩
    rw [← hg]
    clear hg HS0
    intro W1 S1
    have HS1 := Lib.hid S1
    have k0 := fun d os => cell_regrown S1.at.c0 d os
    have k1 := fun d os => cell_regrown S1.at.c1 d os
    have k2 := fun d os => cell_regrown S1.at.c2 d os
    have k3 := fun d os => cell_regrown S1.at.c3 d os
    have k4 := fun d os => cell_regrown S1.at.c4 d os
    have k5 := fun d os => cell_regrown S1.at.c5 d os
    have k6 := fun d os => cell_regrown S1.at.c6 d os
    have k7 := fun d os => cell_regrown S1.at.c7 d os
    clear S1
    refine wp_region_quiet_below (by kernel_rfl) (by kernel_rfl) ?_
    repeat (go_big_quiet_step (fail))
    refine wpQuiet_nil ?_
    intro _ hw'
    obtain ⟨pq, hw''⟩ := hw'
    subst hw''
    have HS2 := Lib.hid (HS1.out.grow (below_regrown W1 pq.d pq.os))
    clear k0 k1 k2 k3 k4 k5 k6 k7 HS1
    generalize Go.Sort.grow (redrawn W1 pq.d) pq.os = W2 at *
    go_wp2_with fail
    go_ret
    exact ⟨by rw [E.out]; rfl, HS2.out.b⟩
  have d6 : decide ((6 : Int) < (r.kind : Int)) = false := by simp; omega
  have d6' : ((6 : Int) < (r.kind : Int)) = False := by simp; omega
  have d6'' : decide (6 < r.kind) = false := by simp; omega
  by_cases h5 : r.lead ≤ 5
  case neg =>
    have d5 : decide ((5 : Int) < (r.lead : Int)) = true := by simp; omega
    have d5' : ((5 : Int) < (r.lead : Int)) = True := by simp; omega
    have d5'' : decide (5 < r.lead) = true := by simp; omega
    have E : Hid (Fr.rwrite r = []) := Lib.hid (by
      unfold Fr.rwrite
      rw [if_neg (fun h => by have := Hin.out h; omega)])
    clear HE h1 h6 h5
    go_enter Try.func19, Try.ntmps19
    go_upto_region 1 with (fail)
    refine forget (fun W => RpS w W w.heap.size r A cap) HS0.out ?_
    obtain ⟨g, hg⟩ : ∃ g, g = w.heap.size := ⟨_, rfl⟩
    rw [← hg]
    clear hg HS0
    intro W1 S1
    have HS1 := Lib.hid S1
    have k0 := fun d os => cell_regrown S1.at.c0 d os
    have k1 := fun d os => cell_regrown S1.at.c1 d os
    have k2 := fun d os => cell_regrown S1.at.c2 d os
    have k3 := fun d os => cell_regrown S1.at.c3 d os
    have k4 := fun d os => cell_regrown S1.at.c4 d os
    have k5 := fun d os => cell_regrown S1.at.c5 d os
    have k6 := fun d os => cell_regrown S1.at.c6 d os
    have k7 := fun d os => cell_regrown S1.at.c7 d os
    clear S1
    refine wp_region_quiet_below (by kernel_rfl) (by kernel_rfl) ?_
    repeat (go_big_quiet_step (fail))
    refine wpQuiet_nil ?_
    intro _ hw'
    obtain ⟨pq, hw''⟩ := hw'
    subst hw''
    have HS2 := Lib.hid (HS1.out.grow (below_regrown W1 pq.d pq.os))
    clear k0 k1 k2 k3 k4 k5 k6 k7 HS1
    generalize Go.Sort.grow (redrawn W1 pq.d) pq.os = W2 at *
    go_wp2_with fail
    go_ret
    exact ⟨by rw [E.out]; rfl, HS2.out.b⟩
  have d5 : decide ((5 : Int) < (r.lead : Int)) = false := by simp; omega
  have d5' : ((5 : Int) < (r.lead : Int)) = False := by simp; omega
  have d5'' : decide (5 < r.lead) = false := by simp; omega
  rw [HE2.out h1 h6 h5] at HSm
  rcases hr : Fr.right r with _ | _
  · have E : Hid (Fr.rwrite r = []) := Lib.hid (by unfold Fr.rwrite; rw [hr]; rfl)
    rw [hr] at HSm
    clear HE h1 h6 h5 hr
    go_enter Try.func19, Try.ntmps19
    go_upto_region 1 with (fail)
    refine forget (fun W => RpS w W w.heap.size r A cap) HS0.out ?_
    obtain ⟨g, hg⟩ : ∃ g, g = w.heap.size := ⟨_, rfl⟩
    rw [← hg]
    clear hg HS0
    intro W1 S1
    have HS1 := Lib.hid S1
    have k0 := fun d os => cell_regrown S1.at.c0 d os
    have k1 := fun d os => cell_regrown S1.at.c1 d os
    have k2 := fun d os => cell_regrown S1.at.c2 d os
    have k3 := fun d os => cell_regrown S1.at.c3 d os
    have k4 := fun d os => cell_regrown S1.at.c4 d os
    have k5 := fun d os => cell_regrown S1.at.c5 d os
    have k6 := fun d os => cell_regrown S1.at.c6 d os
    have k7 := fun d os => cell_regrown S1.at.c7 d os
    clear S1
    refine wp_region_quiet_below (by kernel_rfl) (by kernel_rfl) ?_
    repeat (go_big_quiet_step (fail))
    go_big_quiet_step ((go_at_call 43; exact Calls.regrown_of (HP.out _)))
    repeat (go_big_quiet_step (fail))
    go_big_quiet_step ((go_at_call 23; exact Calls.regrown_of (HSm.out _ (bnext HS1.out.b (below_regrown _ _ _)))))
    repeat (go_big_quiet_step (fail))
    refine wpQuiet_nil ?_
    intro _ hw'
    obtain ⟨pq, hw''⟩ := hw'
    subst hw''
    have HS2 := Lib.hid (HS1.out.grow (below_regrown W1 pq.d pq.os))
    clear k0 k1 k2 k3 k4 k5 k6 k7 HS1
    generalize Go.Sort.grow (redrawn W1 pq.d) pq.os = W2 at *
    go_wp2_with fail
    go_ret
    exact ⟨by rw [E.out]; rfl, HS2.out.b⟩
  have HE' := HE hr
  rw [hr] at HSm
  clear hr HE h6 h5
  by_cases k1 : r.kind = 1
  case pos =>
    have e1 : ((r.kind : Int) == 1) = true := kd_t k1
    have e3 : ((r.kind : Int) == 3) = false := kd_f (m := 3) (by omega)
    have e6 : ((r.kind : Int) == 6) = false := kd_f (m := 6) (by omega)
    have E : Hid ((⟨(Fr.rwrite r).toArray⟩ : ByteArray) = u) := Lib.hid (by rw [HE']; simp [k1])
    have m1 : decide ((1 : Int) < (r.kind : Int)) = false := by simp; omega
    have m1' : ((1 : Int) < (r.kind : Int)) = False := by simp; omega
    have m1'' : decide (1 < r.kind) = false := by simp; omega
    clear HE' h1 k1
    go_enter Try.func19, Try.ntmps19
    go_upto_region 1 with (fail)
    refine forget (fun W => RpS w W w.heap.size r A cap) HS0.out ?_
    obtain ⟨g, hg⟩ : ∃ g, g = w.heap.size := ⟨_, rfl⟩
    rw [← hg]
    clear hg HS0
    intro W1 S1
    have HS1 := Lib.hid S1
    have k0 := fun d os => cell_regrown S1.at.c0 d os
    have k1 := fun d os => cell_regrown S1.at.c1 d os
    have k2 := fun d os => cell_regrown S1.at.c2 d os
    have k3 := fun d os => cell_regrown S1.at.c3 d os
    have k4 := fun d os => cell_regrown S1.at.c4 d os
    have k5 := fun d os => cell_regrown S1.at.c5 d os
    have k6 := fun d os => cell_regrown S1.at.c6 d os
    have k7 := fun d os => cell_regrown S1.at.c7 d os
    clear S1
    refine wp_region_quiet_below (by kernel_rfl) (by kernel_rfl) ?_
    repeat (go_big_quiet_step (fail))
    go_big_quiet_step ((go_at_call 43; exact Calls.regrown_of (HP.out _)))
    repeat (go_big_quiet_step (fail))
    go_big_quiet_step ((go_at_call 23; exact Calls.regrown_of (HSm.out _ (bnext HS1.out.b (below_regrown _ _ _)))))
    repeat (go_big_quiet_step (fail))
    refine wpQuiet_nil ?_
    intro _ hw'
    obtain ⟨pq, hw''⟩ := hw'
    subst hw''
    have HS2 := Lib.hid (HS1.out.grow (below_regrown W1 pq.d pq.os))
    clear k0 k1 k2 k3 k4 k5 k6 k7 HS1
    generalize Go.Sort.grow (redrawn W1 pq.d) pq.os = W2 at *
    have c0_HS2 := HS2.out.at.c0
    have c1_HS2 := HS2.out.at.c1
    have c2_HS2 := HS2.out.at.c2
    have c3_HS2 := HS2.out.at.c3
    have c4_HS2 := HS2.out.at.c4
    have c5_HS2 := HS2.out.at.c5
    have c6_HS2 := HS2.out.at.c6
    have c7_HS2 := HS2.out.at.c7
    have hcv := HU.out W2
    go_upto_region 4 with (fail)
    refine forget (fun W => RpS w W g r A cap) (HS2.out.new _) ?_
    clear hcv HS2 c0_HS2 c1_HS2 c2_HS2 c3_HS2 c4_HS2 c5_HS2 c6_HS2 c7_HS2
    intro W3 S3
    have HS3 := Lib.hid S3
    clear S3
    have c0_HS3 := HS3.out.at.c0
    have c1_HS3 := HS3.out.at.c1
    have c2_HS3 := HS3.out.at.c2
    have c3_HS3 := HS3.out.at.c3
    have c4_HS3 := HS3.out.at.c4
    have c5_HS3 := HS3.out.at.c5
    have c6_HS3 := HS3.out.at.c6
    have c7_HS3 := HS3.out.at.c7
    go_wp2_with fail
    go_ret
    exact ⟨by rw [E.out]; rfl, HS3.out.b⟩
  by_cases k3 : r.kind = 3
  case pos =>
    have e1 : ((r.kind : Int) == 1) = false := kd_f k1
    have e3 : ((r.kind : Int) == 3) = true := kd_t k3
    have e6 : ((r.kind : Int) == 6) = false := kd_f (m := 6) (by omega)
    have E : Hid ((⟨(Fr.rwrite r).toArray⟩ : ByteArray) = u ++ v ++ d) := Lib.hid (by rw [HE']; simp [k1, k3])
    have m1 : decide ((1 : Int) < (r.kind : Int)) = true := by simp; omega
    have m1' : ((1 : Int) < (r.kind : Int)) = True := by simp; omega
    have m1'' : decide (1 < r.kind) = true := by simp; omega
    clear HE' h1 k1 k3
    go_enter Try.func19, Try.ntmps19
    go_upto_region 1 with (fail)
    refine forget (fun W => RpS w W w.heap.size r A cap) HS0.out ?_
    obtain ⟨g, hg⟩ : ∃ g, g = w.heap.size := ⟨_, rfl⟩
    rw [← hg]
    clear hg HS0
    intro W1 S1
    have HS1 := Lib.hid S1
    have k0 := fun d os => cell_regrown S1.at.c0 d os
    have k1 := fun d os => cell_regrown S1.at.c1 d os
    have k2 := fun d os => cell_regrown S1.at.c2 d os
    have k3 := fun d os => cell_regrown S1.at.c3 d os
    have k4 := fun d os => cell_regrown S1.at.c4 d os
    have k5 := fun d os => cell_regrown S1.at.c5 d os
    have k6 := fun d os => cell_regrown S1.at.c6 d os
    have k7 := fun d os => cell_regrown S1.at.c7 d os
    clear S1
    refine wp_region_quiet_below (by kernel_rfl) (by kernel_rfl) ?_
    repeat (go_big_quiet_step (fail))
    go_big_quiet_step ((go_at_call 43; exact Calls.regrown_of (HP.out _)))
    repeat (go_big_quiet_step (fail))
    go_big_quiet_step ((go_at_call 23; exact Calls.regrown_of (HSm.out _ (bnext HS1.out.b (below_regrown _ _ _)))))
    repeat (go_big_quiet_step (fail))
    refine wpQuiet_nil ?_
    intro _ hw'
    obtain ⟨pq, hw''⟩ := hw'
    subst hw''
    have HS2 := Lib.hid (HS1.out.grow (below_regrown W1 pq.d pq.os))
    clear k0 k1 k2 k3 k4 k5 k6 k7 HS1
    generalize Go.Sort.grow (redrawn W1 pq.d) pq.os = W2 at *
    have c0_HS2 := HS2.out.at.c0
    have c1_HS2 := HS2.out.at.c1
    have c2_HS2 := HS2.out.at.c2
    have c3_HS2 := HS2.out.at.c3
    have c4_HS2 := HS2.out.at.c4
    have c5_HS2 := HS2.out.at.c5
    have c6_HS2 := HS2.out.at.c6
    have c7_HS2 := HS2.out.at.c7
    have hcv := HU.out W2
    go_upto_region 4 with (fail)
    refine forget (fun W => RpS w W g r A cap) (HS2.out.new _) ?_
    clear hcv HS2 c0_HS2 c1_HS2 c2_HS2 c3_HS2 c4_HS2 c5_HS2 c6_HS2 c7_HS2
    intro W3 S3
    have HS3 := Lib.hid S3
    clear S3
    have c0_HS3 := HS3.out.at.c0
    have c1_HS3 := HS3.out.at.c1
    have c2_HS3 := HS3.out.at.c2
    have c3_HS3 := HS3.out.at.c3
    have c4_HS3 := HS3.out.at.c4
    have c5_HS3 := HS3.out.at.c5
    have c6_HS3 := HS3.out.at.c6
    have c7_HS3 := HS3.out.at.c7
    have hadd := Hha1.out
    go_wp2_with fail
    refine (HV.out _ _ (Lies.at_ _ [.int .u64 (r.ses : Int), .int .u64 (r.seq : Int)] _ _ rfl)).mono ?_
    rintro e w4 ⟨rfl, hb⟩
    have HS4 := Lib.hid ((HS3.out.new _).grow hb)
    clear hb
    clear c0_HS3 c1_HS3 c2_HS3 c3_HS3 c4_HS3 c5_HS3 c6_HS3 c7_HS3
    have c0_HS4 := HS4.out.at.c0
    have c1_HS4 := HS4.out.at.c1
    have c2_HS4 := HS4.out.at.c2
    have c3_HS4 := HS4.out.at.c3
    have c4_HS4 := HS4.out.at.c4
    have c5_HS4 := HS4.out.at.c5
    have c6_HS4 := HS4.out.at.c6
    have c7_HS4 := HS4.out.at.c7
    go_upto_region 7 with (fail)
    clear hadd
    have hadd := Hha2.out
    have hcv := HD.out w4
    go_upto_region 8 with (fail)
    refine forget (fun W => RpS w W g r A cap) (HS4.out.new _) ?_
    clear hcv HS4 c0_HS4 c1_HS4 c2_HS4 c3_HS4 c4_HS4 c5_HS4 c6_HS4 c7_HS4
    intro W5 S5
    have HS5 := Lib.hid S5
    clear S5
    have c0_HS5 := HS5.out.at.c0
    go_wp2_with fail
    go_ret
    exact ⟨by rw [E.out]; rfl, HS5.out.b⟩
  by_cases k6 : r.kind = 6
  case pos =>
    have e1 : ((r.kind : Int) == 1) = false := kd_f k1
    have e3 : ((r.kind : Int) == 3) = false := kd_f k3
    have e6 : ((r.kind : Int) == 6) = true := kd_t k6
    have E : Hid ((⟨(Fr.rwrite r).toArray⟩ : ByteArray) = u ++ v ++ q) := Lib.hid (by rw [HE']; simp [k1, k3, k6])
    have m1 : decide ((1 : Int) < (r.kind : Int)) = true := by simp; omega
    have m1' : ((1 : Int) < (r.kind : Int)) = True := by simp; omega
    have m1'' : decide (1 < r.kind) = true := by simp; omega
    clear HE' h1 k1 k3 k6
    go_enter Try.func19, Try.ntmps19
    go_upto_region 1 with (fail)
    refine forget (fun W => RpS w W w.heap.size r A cap) HS0.out ?_
    obtain ⟨g, hg⟩ : ∃ g, g = w.heap.size := ⟨_, rfl⟩
    rw [← hg]
    clear hg HS0
    intro W1 S1
    have HS1 := Lib.hid S1
    have k0 := fun d os => cell_regrown S1.at.c0 d os
    have k1 := fun d os => cell_regrown S1.at.c1 d os
    have k2 := fun d os => cell_regrown S1.at.c2 d os
    have k3 := fun d os => cell_regrown S1.at.c3 d os
    have k4 := fun d os => cell_regrown S1.at.c4 d os
    have k5 := fun d os => cell_regrown S1.at.c5 d os
    have k6 := fun d os => cell_regrown S1.at.c6 d os
    have k7 := fun d os => cell_regrown S1.at.c7 d os
    clear S1
    refine wp_region_quiet_below (by kernel_rfl) (by kernel_rfl) ?_
    repeat (go_big_quiet_step (fail))
    go_big_quiet_step ((go_at_call 43; exact Calls.regrown_of (HP.out _)))
    repeat (go_big_quiet_step (fail))
    go_big_quiet_step ((go_at_call 23; exact Calls.regrown_of (HSm.out _ (bnext HS1.out.b (below_regrown _ _ _)))))
    repeat (go_big_quiet_step (fail))
    refine wpQuiet_nil ?_
    intro _ hw'
    obtain ⟨pq, hw''⟩ := hw'
    subst hw''
    have HS2 := Lib.hid (HS1.out.grow (below_regrown W1 pq.d pq.os))
    clear k0 k1 k2 k3 k4 k5 k6 k7 HS1
    generalize Go.Sort.grow (redrawn W1 pq.d) pq.os = W2 at *
    have c0_HS2 := HS2.out.at.c0
    have c1_HS2 := HS2.out.at.c1
    have c2_HS2 := HS2.out.at.c2
    have c3_HS2 := HS2.out.at.c3
    have c4_HS2 := HS2.out.at.c4
    have c5_HS2 := HS2.out.at.c5
    have c6_HS2 := HS2.out.at.c6
    have c7_HS2 := HS2.out.at.c7
    have hcv := HU.out W2
    go_upto_region 4 with (fail)
    refine forget (fun W => RpS w W g r A cap) (HS2.out.new _) ?_
    clear hcv HS2 c0_HS2 c1_HS2 c2_HS2 c3_HS2 c4_HS2 c5_HS2 c6_HS2 c7_HS2
    intro W3 S3
    have HS3 := Lib.hid S3
    clear S3
    have c0_HS3 := HS3.out.at.c0
    have c1_HS3 := HS3.out.at.c1
    have c2_HS3 := HS3.out.at.c2
    have c3_HS3 := HS3.out.at.c3
    have c4_HS3 := HS3.out.at.c4
    have c5_HS3 := HS3.out.at.c5
    have c6_HS3 := HS3.out.at.c6
    have c7_HS3 := HS3.out.at.c7
    have hadd := Hha1.out
    go_wp2_with fail
    refine (HV.out _ _ (Lies.at_ _ [.int .u64 (r.ses : Int), .int .u64 (r.seq : Int)] _ _ rfl)).mono ?_
    rintro e w4 ⟨rfl, hb⟩
    have HS4 := Lib.hid ((HS3.out.new _).grow hb)
    clear hb
    clear c0_HS3 c1_HS3 c2_HS3 c3_HS3 c4_HS3 c5_HS3 c6_HS3 c7_HS3
    have c0_HS4 := HS4.out.at.c0
    have c1_HS4 := HS4.out.at.c1
    have c2_HS4 := HS4.out.at.c2
    have c3_HS4 := HS4.out.at.c3
    have c4_HS4 := HS4.out.at.c4
    have c5_HS4 := HS4.out.at.c5
    have c6_HS4 := HS4.out.at.c6
    have c7_HS4 := HS4.out.at.c7
    go_upto_region 9 with (fail)
    clear hadd
    have hadd := Hha3.out
    go_wp2_with fail
    refine (HQ.out _ HS4.out.b).mono ?_
    rintro e w5 ⟨rfl, hb⟩
    have HS5 := Lib.hid (HS4.out.grow hb)
    clear hb
    go_wp2_with fail
    go_ret
    exact ⟨by rw [E.out]; rfl, HS5.out.b⟩
  have e1 : ((r.kind : Int) == 1) = false := kd_f k1
  have e3 : ((r.kind : Int) == 3) = false := kd_f k3
  have e6 : ((r.kind : Int) == 6) = false := kd_f k6
  have E : Hid ((⟨(Fr.rwrite r).toArray⟩ : ByteArray) = u ++ v) := Lib.hid (by rw [HE']; simp [k1, k3, k6])
  have m1 : decide ((1 : Int) < (r.kind : Int)) = true := by simp; omega
  have m1' : ((1 : Int) < (r.kind : Int)) = True := by simp; omega
  have m1'' : decide (1 < r.kind) = true := by simp; omega
  clear HE' h1 k1 k3 k6
  go_enter Try.func19, Try.ntmps19
  go_upto_region 1 with (fail)
  refine forget (fun W => RpS w W w.heap.size r A cap) HS0.out ?_
  obtain ⟨g, hg⟩ : ∃ g, g = w.heap.size := ⟨_, rfl⟩
  rw [← hg]
  clear hg HS0
  intro W1 S1
  have HS1 := Lib.hid S1
  have k0 := fun d os => cell_regrown S1.at.c0 d os
  have k1 := fun d os => cell_regrown S1.at.c1 d os
  have k2 := fun d os => cell_regrown S1.at.c2 d os
  have k3 := fun d os => cell_regrown S1.at.c3 d os
  have k4 := fun d os => cell_regrown S1.at.c4 d os
  have k5 := fun d os => cell_regrown S1.at.c5 d os
  have k6 := fun d os => cell_regrown S1.at.c6 d os
  have k7 := fun d os => cell_regrown S1.at.c7 d os
  clear S1
  refine wp_region_quiet_below (by kernel_rfl) (by kernel_rfl) ?_
  repeat (go_big_quiet_step (fail))
  go_big_quiet_step ((go_at_call 43; exact Calls.regrown_of (HP.out _)))
  repeat (go_big_quiet_step (fail))
  go_big_quiet_step ((go_at_call 23; exact Calls.regrown_of (HSm.out _ (bnext HS1.out.b (below_regrown _ _ _)))))
  repeat (go_big_quiet_step (fail))
  refine wpQuiet_nil ?_
  intro _ hw'
  obtain ⟨pq, hw''⟩ := hw'
  subst hw''
  have HS2 := Lib.hid (HS1.out.grow (below_regrown W1 pq.d pq.os))
  clear k0 k1 k2 k3 k4 k5 k6 k7 HS1
  generalize Go.Sort.grow (redrawn W1 pq.d) pq.os = W2 at *
  have c0_HS2 := HS2.out.at.c0
  have c1_HS2 := HS2.out.at.c1
  have c2_HS2 := HS2.out.at.c2
  have c3_HS2 := HS2.out.at.c3
  have c4_HS2 := HS2.out.at.c4
  have c5_HS2 := HS2.out.at.c5
  have c6_HS2 := HS2.out.at.c6
  have c7_HS2 := HS2.out.at.c7
  have hcv := HU.out W2
  go_upto_region 4 with (fail)
  refine forget (fun W => RpS w W g r A cap) (HS2.out.new _) ?_
  clear hcv HS2 c0_HS2 c1_HS2 c2_HS2 c3_HS2 c4_HS2 c5_HS2 c6_HS2 c7_HS2
  intro W3 S3
  have HS3 := Lib.hid S3
  clear S3
  have c0_HS3 := HS3.out.at.c0
  have c1_HS3 := HS3.out.at.c1
  have c2_HS3 := HS3.out.at.c2
  have c3_HS3 := HS3.out.at.c3
  have c4_HS3 := HS3.out.at.c4
  have c5_HS3 := HS3.out.at.c5
  have c6_HS3 := HS3.out.at.c6
  have c7_HS3 := HS3.out.at.c7
  have hadd := Hha1.out
  go_wp2_with fail
  refine (HV.out _ _ (Lies.at_ _ [.int .u64 (r.ses : Int), .int .u64 (r.seq : Int)] _ _ rfl)).mono ?_
  rintro e w4 ⟨rfl, hb⟩
  have HS4 := Lib.hid ((HS3.out.new _).grow hb)
  clear hb
  clear c0_HS3 c1_HS3 c2_HS3 c3_HS3 c4_HS3 c5_HS3 c6_HS3 c7_HS3
  have c0_HS4 := HS4.out.at.c0
  have c1_HS4 := HS4.out.at.c1
  have c2_HS4 := HS4.out.at.c2
  have c3_HS4 := HS4.out.at.c3
  have c4_HS4 := HS4.out.at.c4
  have c5_HS4 := HS4.out.at.c5
  have c6_HS4 := HS4.out.at.c6
  have c7_HS4 := HS4.out.at.c7
  go_wp2_with fail
  go_ret
  exact ⟨by rw [E.out]; rfl, HS4.out.b⟩
end Go.Proofs.Ytlcgjlganmblpaa
