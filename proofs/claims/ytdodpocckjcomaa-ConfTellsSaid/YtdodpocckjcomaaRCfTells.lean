/-
  Members, majorities, levels, what is near, and what is more or less by one, are the document's: walked.
-/
import Derived.Test.YtdodpocckjcomaaRCfSteps
import Derived.Test.YtdodpocckjcomaaRCfRefL
import Derived.Test.YtdodpocckjcomaaRDkB
import Derived.Deep.CutBlock
import Derived.Deep.DeepCutAuto
set_option linter.unusedSimpArgs false
set_option linter.unusedVariables false
namespace Go.Proofs.Ytdodpocckjcomaa
open Go.RowKit Go.Sort
theorem info6t : (Try.prog.info? 23).map (·.size) = some 6 := by kernel_rfl
theorem level_is (m : Nat) (x : Nat → Nat) : ∃ v, Cf.IsLevel m x v := by
  by_cases h : (Cf.mem m).map x = []
  · exact ⟨0, .inl ⟨by simpa using h, rfl⟩⟩
  · obtain ⟨v, hv⟩ := Cf.lvl_exists h
    exact ⟨v, .inr hv⟩
set_option maxRecDepth 100000 in
set_option maxHeartbeats 8000000 in
theorem confTells_walk (w : World) (a0 : Int) (w0 : (Lit.int .u8 a0).wf = true) (a1 : Int) (w1 : (Lit.int .u8 a1).wf = true) (a2 : Int) (w2 : (Lit.int .u8 a2).wf = true) (a3 : Int) (w3 : (Lit.int .u8 a3).wf = true)
    (cs : Array Value) (x : Nat → Nat) (hM : Mk cs x) (A : Option Addr) (cap : Nat) (ns : List Nat) (hA : Lies w A (nc ns)) (hns : ∀ n ∈ ns, n < 256) (hlen : ns.length ≤ maxLen) :
    Calls Try.prog 3 #[.int .u8 a0, .int .u8 a1, .int .u8 a2, .int .u8 a3, .agg cs, .slice A ns.length cap] w fun e w' => e = .returned (.bool true) ∧ Below w.heap.size w w' := by
  obtain ⟨a, rfl, ha⟩ := c_u8 w0
  obtain ⟨b, rfl, hb⟩ := c_u8 w1
  obtain ⟨v, rfl, hv⟩ := c_u8 w2
  obtain ⟨n, rfl, hn⟩ := c_u8 w3
  clear w0 w1 w2 w3
  have HW := Lib.hid (fun w => cawake_any w)
  have hcsz := hM.size
  have HS : Hid ((Try.prog.info? 23).map (·.size) = some cs.size) := Lib.hid (by rw [hcsz]; exact info6t)
  have HXX : Hid (∀ j, j < cs.size → cs[0 + j]? = cs[j]?) := Lib.hid fun j _ => by rw [Nat.zero_add]
  by_cases hbig : 100 < ns.length
  · have d1 : decide ((100 : Int) < (ns.length : Int)) = true := by simp; omega
    have d2 : ((100 : Int) < (ns.length : Int)) = True := by simp; omega
    clear hM hA hns
    go_enter Try.func3, Try.ntmps3
    have HB := Lib.hid (bnew (Below.refl w.heap.size w) (.cells cs 23))
    go_wp2_with fail
    refine (HW.out _).mono ?_
    rintro e w4 ⟨rfl, hb4⟩
    have H4 := Lib.hid (bnext HB.out hb4)
    clear hb4
    go_wp2_with fail
    go_ret
    exact ⟨rfl, H4.out⟩
  · have d1 : decide ((100 : Int) < (ns.length : Int)) = false := by simp; omega
    have d2 : ((100 : Int) < (ns.length : Int)) = False := by simp; omega
    have hlen2 : ns.length ≤ 140737488355328 := by omega
    have HL := Lib.hid (fun w => list_any10 a ha w)
    have HR := Lib.hid (fun w => rlist_any10 a ha w)
    have HOf := Lib.hid (fun w (h : Lies w A (nc ns)) => of_any ns hns A cap w h hlen2)
    have HROf := Lib.hid (fun w (h : Lies w A (nc ns)) => rof_any ns A cap w h hlen2)
    have HH := Lib.hid (fun w => has_any a n ha hn w)
    have HRH := Lib.hid (fun w => rhas_any a n ha w)
    have HAd : Hid (∀ w, Calls Try.prog 15 #[.int .u8 (a : Int), .int .u8 (n : Int)] w fun e w' => e = .returned (.tuple #[.int .u8 ((Cf.add a n).1 : Int), .int .i64 ((Cf.add a n).2 : Int)]) ∧ w = w') := Lib.hid (fun w => add_any10 a n ha hn w)
    have HRAd : Hid (∀ w, Calls Try.prog 16 #[.int .u8 (a : Int), .int .u8 (n : Int)] w fun e w' => e = .returned (.tuple #[.int .u8 ((Cf.add a n).1 : Int), .int .i64 ((Cf.add a n).2 : Int)]) ∧ Below w.heap.size w w') := Lib.hid (fun w => radd_any a n ha hn w)
    have HOu : Hid (∀ w, Calls Try.prog 17 #[.int .u8 (a : Int), .int .u8 (n : Int)] w fun e w' => e = .returned (.tuple #[.int .u8 ((Cf.out a n).1 : Int), .int .i64 ((Cf.out a n).2 : Int)]) ∧ w = w') := Lib.hid (fun w => out_any10 a n ha hn w)
    have HROu : Hid (∀ w, Calls Try.prog 18 #[.int .u8 (a : Int), .int .u8 (n : Int)] w fun e w' => e = .returned (.tuple #[.int .u8 ((Cf.out a n).1 : Int), .int .i64 ((Cf.out a n).2 : Int)]) ∧ Below w.heap.size w w') := Lib.hid (fun w => rout_any a n ha hn w)
    obtain ⟨p, hp⟩ : ∃ p, p = Cf.add a n := ⟨_, rfl⟩
    obtain ⟨q, hq⟩ : ∃ q, q = Cf.out a n := ⟨_, rfl⟩
    rw [← hp] at HAd HRAd
    rw [← hq] at HOu HROu
    obtain ⟨p1, p2⟩ := p
    obtain ⟨q1, q2⟩ := q
    simp only at HAd HRAd HOu HROu
    have HWo := Lib.hid (fun w => won_any a v ha hv w)
    have HRWo := Lib.hid (fun w => rwon_any a v ha hv w)
    have HN := Lib.hid (fun w => near_any a b ha hb w)
    have HRN := Lib.hid (fun w => rnear_any a b ha hb w)
    obtain ⟨lv, hlv⟩ := level_is a x
    have HLv : Hid (∀ w, Calls Try.prog 21 #[.int .u8 (a : Int), .agg cs] w (RetW (.int .u64 (lv : Int)) w)) := Lib.hid fun w => (level_any a ha cs x hM w).mono fun e w' ⟨u, h1, h2, _, h4⟩ => by
      obtain rfl := h2.unique hlv
      exact ⟨h1, h4⟩
    have HRLv : Hid (∀ w, Calls Try.prog 22 #[.int .u8 (a : Int), .agg cs] w (RetW (.int .u64 (lv : Int)) w)) := Lib.hid fun w => (rlevel_any a ha cs x hM w).mono fun e w' ⟨u, h1, h2, h4⟩ => by
      obtain rfl := h2.unique hlv
      exact ⟨h1, h4⟩
    obtain ⟨o, ho⟩ : ∃ o, o = Cf.of ns := ⟨_, rfl⟩
    rw [← ho] at HOf HROf
    obtain ⟨hh, hhe⟩ : ∃ hh, hh = Cf.has a n := ⟨_, rfl⟩
    rw [← hhe] at HH HRH
    obtain ⟨wo, hwo⟩ : ∃ wo, wo = Cf.won a v := ⟨_, rfl⟩
    rw [← hwo] at HWo HRWo
    obtain ⟨ne, hne⟩ : ∃ ne, ne = Cf.near a b := ⟨_, rfl⟩
    rw [← hne] at HN HRN
    have hl5 := Cf.mem_len a
    obtain ⟨l, hl⟩ : ∃ l, l = Cf.mem a := ⟨_, rfl⟩
    rw [← hl] at HL HR hl5
    have HA := Lib.hid hA
    clear hM hlv ho hhe hwo hne hp hq hl hns hA ha hb hv hn
    go_enter Try.func3, Try.ntmps3
    have HX : Hid (Below w.heap.size w (w.alloc (.cells cs 23)) ∧ (w.alloc (.cells cs 23)).heap[w.heap.size]? = some (.cells cs 23 (0, 0))) := Lib.hid ⟨bnew (Below.refl w.heap.size w) _, heap_alloc_new w _⟩
    go_wp2_with fail
    refine (HL.out _).mono ?_
    rintro e w1 ⟨lv1, rfl, hlo, hb1⟩
    obtain ⟨L1, c1, rfl, hli⟩ := hlo.lies
    have H1 : Hid (Below w.heap.size w w1 ∧ w1.heap[w.heap.size]? = some (.cells cs 23 (0, 0)) ∧ Lies w1 L1 (nc l)) := Lib.hid ⟨HX.out.1.trans (hb1.mono HX.out.1.size), (hb1.block w.heap.size (Array.getElem?_eq_some_iff.1 HX.out.2).1).trans HX.out.2, hli⟩
    clear hb1 HX hli hlo
    go_wp2_with fail
    refine (HR.out _).mono ?_
    rintro e w2 ⟨lv2, rfl, hlo, hb2⟩
    obtain ⟨L2, c2, rfl, hli⟩ := hlo.lies
    have H2 : Hid (Below w.heap.size w w2 ∧ w2.heap[w.heap.size]? = some (.cells cs 23 (0, 0)) ∧ Lies w2 L1 (nc l) ∧ Lies w2 L2 (nc l)) := Lib.hid ⟨H1.out.1.trans (hb2.mono H1.out.1.size), (hb2.block w.heap.size (Array.getElem?_eq_some_iff.1 H1.out.2.1).1).trans H1.out.2.1, H1.out.2.2.below hb2, hli⟩
    have HO2 := Lib.hid (HOf.out w2 (HA.out.below H2.out.1))
    have HRO2 := Lib.hid (HROf.out w2 (HA.out.below H2.out.1))
    clear hb2 hli hlo H1
    have e0 : (hh != hh) = false := by cases hh <;> rfl
    have e1 : ((o : Int) != (o : Int)) = false := by simp
    have e2 : ((l.length : Int) != (l.length : Int)) = false := by simp
    go_wp2_with fail
    refine HO2.out.mono ?_
    rintro e wx ⟨rfl, rfl⟩
    go_wp2_with fail
    refine HRO2.out.mono ?_
    rintro e wx ⟨rfl, rfl⟩
    go_wp2_with fail
    refine (HH.out _).mono ?_
    rintro e wx ⟨rfl, rfl⟩
    go_wp2_with fail
    refine (HRH.out _).mono ?_
    rintro e w3 ⟨rfl, hb3⟩
    have H3 : Hid (Below w.heap.size w w3 ∧ w3.heap[w.heap.size]? = some (.cells cs 23 (0, 0)) ∧ Lies w3 L1 (nc l) ∧ Lies w3 L2 (nc l)) := Lib.hid ⟨bnext H2.out.1 hb3, (hb3.block w.heap.size (Array.getElem?_eq_some_iff.1 H2.out.2.1).1).trans H2.out.2.1, H2.out.2.2.1.below hb3, H2.out.2.2.2.below hb3⟩
    clear hb3 H2 HO2 HRO2
    go_wp2_with fail
    go_loopw [15] (fun i wr => ∃ j, j ≤ l.length ∧ i = .int .i64 (j : Int) ∧ ∃ nq, wr = w3.drewN nq) (fun i _ => l.length - (intOf i).toNat)
    case atStart => exact ⟨0, Nat.zero_le _, rfl, 0, rfl⟩
    case round =>
      obtain ⟨j, hj, rfl, k, rfl⟩ := hrel
      by_cases hlt : j < l.length
      · obtain ⟨y, hy⟩ : ∃ y, y = l[j] := ⟨_, rfl⟩
        obtain ⟨b1, o1, rfl, hc1⟩ := nc_cell H3.out.2.2.1 hlt hy
        obtain ⟨b2, o2, rfl, hc2⟩ := nc_cell H3.out.2.2.2 hlt hy
        have e3 : ((y : Int) != (y : Int)) = false := by simp
        clear hy
        have hc1' : (w3.drewN k).cell? ⟨b1, o1 + j, none⟩ = some (.int .u8 (y : Int)) := hc1
        have hc2' : (w3.drewN k).cell? ⟨b2, o2 + j, none⟩ = some (.int .u8 (y : Int)) := hc2
        go_wp2_with fail
        go_quiet (fail)
        go_wp2_with fail
        go_roundw
        case rel => exact ⟨j + 1, by omega, by go_num, k + nq, by first | rfl | rw [World.drewN_drewN]⟩
        case measure => simp [intOf]; omega
      · obtain rfl : j = l.length := by omega
        have H4 : Hid (Below w.heap.size w (w3.drewN k) ∧ (w3.drewN k).heap[w.heap.size]? = some (.cells cs 23 (0, 0))) := Lib.hid ⟨below_drewN H3.out.1 k, H3.out.2.1⟩
        obtain ⟨W4, hW4⟩ : ∃ W4, W4 = w3.drewN k := ⟨_, rfl⟩
        rw [← hW4] at H4 ⊢
        clear hW4 H3
        have f1 : ((p1 : Int) != (p1 : Int)) = false := by simp
        have f2 : ((p2 : Int) != (p2 : Int)) = false := by simp
        have f3 : ((q1 : Int) != (q1 : Int)) = false := by simp
        have f4 : ((q2 : Int) != (q2 : Int)) = false := by simp
        go_wp2_with fail
        refine (HAd.out _).mono ?_
        rintro e wx ⟨rfl, rfl⟩
        go_wp2_with fail
        refine (HRAd.out _).mono ?_
        rintro e w5 ⟨rfl, hb5⟩
        have H5 : Hid (Below w.heap.size w w5 ∧ w5.heap[w.heap.size]? = some (.cells cs 23 (0, 0))) := Lib.hid ⟨bnext H4.out.1 hb5, (hb5.block w.heap.size (Array.getElem?_eq_some_iff.1 H4.out.2).1).trans H4.out.2⟩
        clear hb5 H4
        go_wp2_with fail
        refine (HOu.out _).mono ?_
        rintro e wx ⟨rfl, rfl⟩
        go_wp2_with fail
        refine (HROu.out _).mono ?_
        rintro e w6 ⟨rfl, hb6⟩
        have H6 : Hid (Below w.heap.size w w6 ∧ w6.heap[w.heap.size]? = some (.cells cs 23 (0, 0))) := Lib.hid ⟨bnext H5.out.1 hb6, (hb6.block w.heap.size (Array.getElem?_eq_some_iff.1 H5.out.2).1).trans H5.out.2⟩
        clear hb6 H5
        have g1 : ((lv : Int) == (lv : Int)) = true := by simp
        have HWoB : Hid (∀ w, Calls Try.prog 19 #[.int .u8 (a : Int), .int .u8 (v : Int)] w (RetW (.bool wo) w)) := Lib.hid fun w => (HWo.out w).mono fun e w' ⟨h1, h2⟩ => ⟨h1, by rw [← h2]; exact Below.refl _ _⟩
        have HNB : Hid (∀ w, Calls Try.prog 23 #[.int .u8 (a : Int), .int .u8 (b : Int)] w (RetW (.bool ne) w)) := Lib.hid fun w => (HN.out w).mono fun e w' ⟨h1, h2⟩ => ⟨h1, by rw [← h2]; exact Below.refl _ _⟩
        go_upto_region 18 with (fail)
        clear HL HR HOf HROf HH HRH HAd HRAd HOu HROu HWo HN
        cases wo <;> cases ne
        all_goals
          refine wp_region_quiet_below (by kernel_rfl) (by kernel_rfl) ?_
          repeat (first | (refine wpQuiet_load_sub rfl 23 _ rfl w.heap.size 0 rfl 23 cs cs (0, 0) _ H6.out.2 HXX.out Try.underlying23 rfl HS.out ?_; (conv => arg 6; simp [Act.put])) | go_big_quiet_step (first | (go_at_call 19; exact Calls.regrown_of (HWoB.out _)) | (go_at_call 20; exact Calls.regrown_of (HRWo.out _)) | (go_at_call 21; exact Calls.regrown_of (HLv.out _)) | (go_at_call 22; exact Calls.regrown_of (HRLv.out _)) | (go_at_call 23; exact Calls.regrown_of (HNB.out _)) | (go_at_call 24; exact Calls.regrown_of (HRN.out _)) | (go_at_call 8; exact Calls.regrown_of (HW.out _))))
          refine wpQuiet_nil ?_
          intro _ hw'
          obtain ⟨pq, hw''⟩ := hw'
          subst hw''
          have hfin := Lib.hid (bnext H6.out.1 (below_regrown w6 pq.d pq.os))
          generalize grow (redrawn w6 pq.d) pq.os = W9 at *
          go_wp2_with fail
          go_ret
          exact ⟨rfl, hfin.out⟩
end Go.Proofs.Ytdodpocckjcomaa
