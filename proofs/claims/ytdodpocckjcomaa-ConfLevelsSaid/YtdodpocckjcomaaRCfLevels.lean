/-
  Just those who have reached the level are a majority; a mark that grows never lowers it: walked.
-/
import Derived.Test.YtdodpocckjcomaaRCfSteps
import Derived.Test.YtdodpocckjcomaaRDkB
set_option linter.unusedSimpArgs false
set_option linter.unusedVariables false
namespace Go.Proofs.Ytdodpocckjcomaa
open Go.RowKit
namespace Cf
/-- These bits are just those nodes below a number of which P holds. -/
def Bits (P : Nat → Bool) (n a : Nat) : Prop := a < 32 ∧ ∀ k, 1 ≤ k → k ≤ 5 → has a k = (decide (k < n) && P k)
theorem Bits.start (P : Nat → Bool) : Bits P 1 0 := ⟨by decide, fun k h1 h2 => by rw [has_zero, decide_eq_false (by omega)]; rfl⟩
theorem Bits.on {P : Nat → Bool} {n a : Nat} (h : Bits P n a) (h1 : 1 ≤ n) (h5 : n ≤ 5) (hP : P n = true) : Bits P (n + 1) (a ||| bit n) := by
  refine ⟨Nat.or_lt_two_pow (n := 5) h.1 (bit_lt n), fun k k1 k5 => ?_⟩
  rw [has_or, has_bit, h.2 k k1 k5, decide_eq_true (⟨h1, h5⟩ : 1 ≤ n ∧ n ≤ 5), Bool.and_true]
  by_cases e : k = n
  · subst e; simp [hP]
  · have : decide (k < n + 1) = decide (k < n) := by rw [decide_eq_decide]; omega
    rw [this, decide_eq_false e, Bool.or_false]
theorem Bits.off {P : Nat → Bool} {n a : Nat} (h : Bits P n a) (hP : P n = false) : Bits P (n + 1) a := by
  refine ⟨h.1, fun k k1 k5 => ?_⟩
  rw [h.2 k k1 k5]
  by_cases e : k = n
  · subst e; simp [hP]
  · have : decide (k < n + 1) = decide (k < n) := by rw [decide_eq_decide]; omega
    rw [this]
theorem Bits.count {P : Nat → Bool} {a : Nat} (h : Bits P 6 a) (m : Nat) : (mem m).countP (has a) = (mem m).countP P := by
  refine List.countP_congr fun k hk => ?_
  have := mem_le m k hk
  rw [h.2 k this.1 this.2.1, decide_eq_true (by omega : k < 6), Bool.true_and]
theorem level_at {m v a : Nat} {x : Nat → Nat} (h : Lvl ((mem m).map x) v) (ha : Bits (fun k => decide (v ≤ x k)) 6 a) : won m a = true := by
  rw [won_eq, decide_eq_true_iff, ha.count]
  have := h.won
  rw [List.countP_map, List.length_map] at this
  exact this
theorem level_above {m v a : Nat} {x : Nat → Nat} (h : Lvl ((mem m).map x) v) (ha : Bits (fun k => decide (v < x k)) 6 a) : won m a = false := by
  rw [won_eq, decide_eq_false_iff_not, ha.count]
  have := h.not
  rw [List.countP_map, List.length_map] at this
  have e : (mem m).countP (fun k => decide (v < x k)) = (mem m).countP ((fun z => decide (v < z)) ∘ x) := rfl
  unfold count
  omega
end Cf
/-- One mark is another one. -/
def upd (x : Nat → Nat) (k y : Nat) : Nat → Nat := fun n => if n = k then y else x n
theorem Mk.upd {cs : Array Value} {x : Nat → Nat} (h : Mk cs x) {k y : Nat} (hk : k < 6) (hy : y < 18446744073709551616) : Mk (cs.setIfInBounds k (.int .u64 (y : Int))) (upd x k y) := by
  refine ⟨by rw [Array.size_setIfInBounds]; exact h.size, fun n hn => ?_, fun n hn => ?_⟩
  · rw [Array.getElem?_setIfInBounds]
    unfold Proofs.Ytdodpocckjcomaa.upd
    by_cases e : n = k
    · subst e; rw [if_pos rfl, if_pos (by rw [h.size]; exact hn), if_pos rfl]
    · rw [if_neg (fun q => e q.symm), if_neg e]; exact h.at_ n hn
  · unfold Proofs.Ytdodpocckjcomaa.upd
    by_cases e : n = k
    · rw [if_pos e]; exact hy
    · rw [if_neg e]; exact h.top n hn
theorem of_oneg (n : Nat) (hn : n < 256) (g : Nat) (w : World) (hg : g = w.heap.size) : Calls Try.prog 11 #[.slice (some ⟨g, 0, none⟩) 1 1] (w.alloc (.cells #[.int .u8 (n : Int)] 5)) fun e w' => e = .returned (.int .u8 (Cf.bit n : Int)) ∧ w.alloc (.cells #[.int .u8 (n : Int)] 5) = w' := by
  subst hg; exact of_one n hn w
theorem info6 : (Try.prog.info? 23).map (·.size) = some 6 := by kernel_rfl
set_option maxRecDepth 100000 in
set_option maxHeartbeats 4000000 in
theorem confLevels_walk (w : World) (a0 : Int) (w0 : (Lit.int .u8 a0).wf = true) (cs : Array Value) (x : Nat → Nat) (hM : Mk cs x) (a2 : Int) (w2 : (Lit.int .u8 a2).wf = true) (a3 : Int) (w3 : (Lit.int .u64 a3).wf = true) :
    Calls Try.prog 7 #[.int .u8 a0, .agg cs, .int .u8 a2, .int .u64 a3] w fun e w' => e = .returned (.bool true) ∧ Below w.heap.size w w' := by
  obtain ⟨m, rfl, hm⟩ := c_u8 w0
  obtain ⟨nd, rfl, hnd⟩ := c_u8 w2
  obtain ⟨more, rfl, hmore⟩ := u64_nat w3
  unfold Nm.top at hmore
  clear w0 w2 w3
  have HLv := Lib.hid (fun cs x (hM : Mk cs x) w => level_any m hm cs x hM w)
  have HL := Lib.hid (fun w => list_any10 m hm w)
  have HWon := Lib.hid (fun v (hv : v < 256) w => won_any m v hm hv w)
  have HOn := Lib.hid (fun n (hn : n < 256) g w (hg : g = w.heap.size) => of_oneg n hn g w hg)
  have HW := Lib.hid (fun w => cawake_any w)
  have HM := Lib.hid hM
  have hcsz := hM.size
  have HS : Hid ((Try.prog.info? 23).map (·.size) = some cs.size) := Lib.hid (by rw [hcsz]; exact info6)
  have HXX : Hid (∀ j, j < cs.size → cs[0 + j]? = cs[j]?) := Lib.hid fun j _ => by rw [Nat.zero_add]
  have hlen := Cf.mem_len m
  have HLE := Lib.hid (Cf.mem_le m)
  clear hM
  go_enter Try.func7, Try.ntmps7
  have HX : Hid ((w.alloc (.cells cs 23)).heap[w.heap.size]? = some (.cells cs 23 (0, 0))) := Lib.hid (heap_alloc_new w _)
  go_wp2_with (refine wpList_load_sub rfl 23 _ rfl w.heap.size 0 rfl 23 cs cs (0, 0) _ HX.out HXX.out Try.underlying23 rfl HS.out ?_)
  refine (HLv.out cs x HM.out _).mono ?_
  rintro e w1 ⟨v, rfl, hlv, hvt, hb1⟩
  have H1 : Hid (Below w.heap.size w w1 ∧ w1.heap[w.heap.size]? = some (.cells cs 23 (0, 0)) ∧ Cf.IsLevel m x v) := Lib.hid ⟨((Below.refl w.heap.size w).alloc (Nat.le_refl _) _).trans (hb1.mono (by simp)), (hb1.block w.heap.size (by simp)).trans HX.out, hlv⟩
  clear hb1 HX hlv
  go_wp2_with fail
  refine (HL.out _).mono ?_
  rintro e w2 ⟨lv, rfl, hlo, hb2⟩
  obtain ⟨A, cap, rfl, hli⟩ := hlo.lies
  have H2 : Hid (Below w.heap.size w w2 ∧ w2.heap[w.heap.size]? = some (.cells cs 23 (0, 0))) := Lib.hid ⟨H1.out.1.trans (hb2.mono H1.out.1.size), (hb2.block _ (Array.getElem?_eq_some_iff.1 H1.out.2.1).1).trans H1.out.2.1⟩
  clear hb2 hlo hli
  obtain ⟨N, hN⟩ : ∃ N, N = (Cf.mem m).length := ⟨_, rfl⟩
  have HN := Lib.hid hN
  rw [← hN] at hlen ⊢
  clear hN
  by_cases h0 : N = 0
  · have hz : ((N : Int) == 0) = true := by simp; omega
    have hnil : Cf.mem m = [] := List.eq_nil_of_length_eq_zero (by rw [← HN.out]; exact h0)
    have hv0 : v = 0 := by
      rcases H1.out.2.2 with h | h
      · exact h.2
      · have := h.mem; rw [hnil] at this; simp at this
    subst hv0
    clear h0 hnil
    go_wp2_with fail
    refine (HW.out _).mono ?_
    rintro e w4 ⟨rfl, hb4⟩
    have H4 := Lib.hid (bnext H2.out.1 hb4)
    clear hb4
    go_wp2_with fail
    go_ret
    exact ⟨rfl, H4.out⟩
  · have hz : ((N : Int) == 0) = false := by simp; omega
    have HLvl : Hid (Cf.Lvl ((Cf.mem m).map x) v) := Lib.hid (by
      rcases H1.out.2.2 with h | h
      · exact absurd (by rw [HN.out, h.1]; rfl) h0
      · exact h)
    clear h0
    go_wp2_with fail
    go_loopw [10, 11, 12] (fun a b i wr => ∃ n p q : Nat, 1 ≤ n ∧ n ≤ 6 ∧ i = .int .u8 (n : Int) ∧ a = .int .u8 (p : Int) ∧ b = .int .u8 (q : Int) ∧ Cf.Bits (fun k => decide (v ≤ x k)) n p ∧ Cf.Bits (fun k => decide (v < x k)) n q ∧ Below w2.heap.size w2 wr) (fun _ _ i _ => 6 - (intOf i).toNat)
    case atStart => exact ⟨1, 0, 0, by omega, by omega, rfl, rfl, rfl, Cf.Bits.start _, Cf.Bits.start _, Below.refl _ _⟩
    case round =>
      obtain ⟨n, p, q, h1, h6, rfl, rfl, rfl, hp, hq, hb⟩ := hrel
      have hp32 := hp.1
      have hq32 := hq.1
      by_cases hlt : n ≤ 5
      · have hl1 : decide (n ≤ 5) = true := decide_eq_true hlt
        have hl2 : ((n : Int) ≤ 5) = True := by simp; omega
        obtain ⟨y, hy⟩ : ∃ y, y = x n := ⟨_, rfl⟩
        have hcb : wr.cell? ⟨w.heap.size, n, none⟩ = some (.int .u64 (y : Int)) := by rw [cell_of_row _ w.heap.size n _ _ _ ((hb.block _ (Array.getElem?_eq_some_iff.1 H2.out.2).1).trans H2.out.2), hy]; exact HM.out.at_ n (by omega)
        have hcb2 : ∀ o, (wr.alloc o).cell? ⟨w.heap.size, n, none⟩ = some (.int .u64 (y : Int)) := fun o => later (bnew (Below.refl _ _) o) hcb
        have HPon : Hid (v ≤ y → Cf.Bits (fun k => decide (v ≤ x k)) (n + 1) (p ||| Cf.bit n)) := Lib.hid fun h => hp.on h1 hlt (by simpa [hy] using h)
        have HPoff : Hid (¬ v ≤ y → Cf.Bits (fun k => decide (v ≤ x k)) (n + 1) p) := Lib.hid fun h => hp.off (by simpa [hy] using h)
        have HQon : Hid (v < y → Cf.Bits (fun k => decide (v < x k)) (n + 1) (q ||| Cf.bit n)) := Lib.hid fun h => hq.on h1 hlt (by simpa [hy] using h)
        have HQoff : Hid (¬ v < y → Cf.Bits (fun k => decide (v < x k)) (n + 1) q) := Lib.hid fun h => hq.off (by simpa [hy] using h)
        have HO := Lib.hid (HOn.out n (by omega))
        have hbb := Cf.bit_lt n
        obtain ⟨b, hbe⟩ : ∃ b, b = Cf.bit n := ⟨_, rfl⟩
        rw [← hbe] at HPon HQon HO hbb
        have e1 : bits .or .u8 (p : Int) (b : Int) = ((p ||| b : Nat) : Int) := u8_or_nat _ _ (by omega) (by omega)
        have e2 : bits .or .u8 (q : Int) (b : Int) = ((q ||| b : Nat) : Int) := u8_or_nat _ _ (by omega) (by omega)
        obtain ⟨pb, hpb⟩ : ∃ pb, pb = p ||| b := ⟨_, rfl⟩
        obtain ⟨qb, hqb⟩ : ∃ qb, qb = q ||| b := ⟨_, rfl⟩
        rw [← hpb] at HPon e1
        rw [← hqb] at HQon e2
        have HB := Lib.hid hb
        clear hp hq hb hy hbe hpb hqb
        by_cases c1 : v ≤ y
        · have d1 : ((v : Int) ≤ (y : Int)) = True := by simp; omega
          have d1' : decide (v ≤ y) = true := decide_eq_true c1
          have HP2 := Lib.hid (HPon.out c1)
          have HBa := Lib.hid (bnew HB.out (.cells #[.int .u8 (n : Int)] 5))
          by_cases c2 : v < y
          · have d2 : ((v : Int) < (y : Int)) = True := by simp; omega
            have d2' : decide (v < y) = true := decide_eq_true c2
            have HQ2 := Lib.hid (HQon.out c2)
            have HBb := Lib.hid (bnew HBa.out (.cells #[.int .u8 (n : Int)] 5))
            clear c1 c2 HPon HPoff HQon HQoff
            go_wp2_with fail
            refine (HO.out _ _ (by simp)).mono ?_
            rintro e wx ⟨rfl, rfl⟩
            go_wp2_with fail
            refine (HO.out _ _ (by simp)).mono ?_
            rintro e wx ⟨rfl, rfl⟩
            go_wp2_with fail
            go_roundw
            case rel => exact ⟨n + 1, pb, qb, by omega, by omega, by go_num, rfl, rfl, HP2.out, HQ2.out, HBb.out⟩
            case measure => simp [intOf]; omega
          · have d2 : ((v : Int) < (y : Int)) = False := by simp; omega
            have d2' : decide (v < y) = false := decide_eq_false c2
            have HQ2 := Lib.hid (HQoff.out c2)
            clear c1 c2 HPon HPoff HQon HQoff
            go_wp2_with fail
            refine (HO.out _ _ (by simp)).mono ?_
            rintro e wx ⟨rfl, rfl⟩
            go_wp2_with fail
            go_roundw
            case rel => exact ⟨n + 1, pb, q, by omega, by omega, by go_num, rfl, rfl, HP2.out, HQ2.out, HBa.out⟩
            case measure => simp [intOf]; omega
        · have d1 : ((v : Int) ≤ (y : Int)) = False := by simp; omega
          have d1' : decide (v ≤ y) = false := decide_eq_false c1
          have HP2 := Lib.hid (HPoff.out c1)
          have c2 : ¬ v < y := by omega
          have d2 : ((v : Int) < (y : Int)) = False := by simp; omega
          have d2' : decide (v < y) = false := decide_eq_false c2
          have HQ2 := Lib.hid (HQoff.out c2)
          clear c1 c2 HPon HPoff HQon HQoff
          go_wp2_with fail
          go_roundw
          case rel => exact ⟨n + 1, p, q, by omega, by omega, by go_num, rfl, rfl, HP2.out, HQ2.out, HB.out⟩
          case measure => simp [intOf]; omega
      · obtain rfl : n = 6 := by omega
        have HWp := Lib.hid (HWon.out p (by omega))
        have HWq := Lib.hid (HWon.out q (by omega))
        rw [Cf.level_at HLvl.out hp] at HWp
        rw [Cf.level_above HLvl.out hq] at HWq
        have HB := Lib.hid hb
        obtain ⟨k, hk⟩ : ∃ k, k = nd % 6 := ⟨_, rfl⟩
        have ek : (nd : Int) % 6 = (k : Int) := by rw [hk]; omega
        have ek2 : (nd : Int).tmod 6 = (k : Int) := by rw [hk, Int.tmod_eq_emod_of_nonneg (by omega)]; omega
        have hk6 : k < 6 := by omega
        obtain ⟨y, hy⟩ : ∃ y, y = x k := ⟨_, rfl⟩
        have hrow : wr.heap[w.heap.size]? = some (.cells cs 23 (0, 0)) := (hb.block _ (Array.getElem?_eq_some_iff.1 H2.out.2).1).trans H2.out.2
        have hyt : y < 18446744073709551616 := by rw [hy]; exact HM.out.top k hk6
        have hcb : wr.cell? ⟨w.heap.size, k, none⟩ = some (.int .u64 (y : Int)) := by rw [cell_of_row _ w.heap.size k _ _ _ hrow, hy]; exact HM.out.at_ k hk6
        have hfb : wr.frozen? ⟨w.heap.size, k, none⟩ = false := frozen_of_row wr w.heap.size k _ _ hrow
        by_cases hym : y < more
        · have f1 : ((y : Int) < (more : Int)) = True := by simp; omega
          have f1' : decide ((y : Int) < (more : Int)) = true := by simp; omega
          have f2 : max (y : Int) (more : Int) = (more : Int) := by omega
          have hzt : more < 18446744073709551616 := by omega
          have hyz : y ≤ more := by omega
          obtain ⟨cs2, hcs2⟩ : ∃ cs2, cs2 = cs.setIfInBounds k (.int .u64 (more : Int)) := ⟨_, rfl⟩
          have hrow2 : (wr.setCell ⟨w.heap.size, k, none⟩ (.int .u64 (more : Int))).heap[w.heap.size]? = some (.cells cs2 23 (0, 0)) := by rw [hcs2]; exact heap_setCell_same wr w.heap.size k cs 23 _ hrow
          have hM2 : Mk cs2 (upd x k more) := by rw [hcs2]; exact HM.out.upd hk6 hzt
          have HS2 : Hid ((Try.prog.info? 23).map (·.size) = some cs2.size) := Lib.hid (by rw [hM2.size]; exact info6)
          have HXX2 : Hid (∀ j, j < cs2.size → cs2[0 + j]? = cs2[j]?) := Lib.hid fun j _ => by rw [Nat.zero_add]
          have HR2 := Lib.hid hrow2
          have HLv2 := Lib.hid (fun w => HLv.out cs2 (upd x k more) hM2 w)
          have HGe : Hid (∀ u, Cf.IsLevel m (upd x k more) u → v ≤ u) := Lib.hid fun u hu => by
            rcases hu with h | h
            · have := HLvl.out.mem; rw [h.1] at this; simp at this
            · refine HLvl.out.mono h fun n hn => ?_
              unfold upd
              split
              · rename_i e; rw [e, ← hy]; exact hyz
              · exact Nat.le_refl _
          have HB2 : Hid (Below w.heap.size w (wr.setCell ⟨w.heap.size, k, none⟩ (.int .u64 (more : Int)))) := Lib.hid ((H2.out.1.trans (hb.mono H2.out.1.size)).setCell (p := ⟨w.heap.size, k, none⟩) (Nat.le_refl _) _)
          clear hp hq hb hk hy hrow hcs2 hrow2 hM2 hyz
          go_wp2_with fail
          refine (HWp.out _).mono ?_
          rintro e wx ⟨rfl, rfl⟩
          go_wp2_with fail
          refine (HWq.out _).mono ?_
          rintro e wx ⟨rfl, rfl⟩
          go_wp2_with (refine wpList_load_sub rfl 23 _ rfl w.heap.size 0 rfl 23 cs2 cs2 (0, 0) _ HR2.out HXX2.out Try.underlying23 rfl HS2.out ?_)
          refine (HLv2.out _).mono ?_
          rintro e w5 ⟨u, rfl, hu, hut, hb5⟩
          have hvu := HGe.out u hu
          have d1 : ((v : Int) ≤ (u : Int)) = True := by simp; omega
          have d1' : decide (v ≤ u) = true := decide_eq_true hvu
          have H5 := Lib.hid (HB2.out.trans (hb5.mono HB2.out.size))
          clear hb5 hu hvu
          go_wp2_with fail
          refine (HW.out _).mono ?_
          rintro e w6 ⟨rfl, hb6⟩
          have H6 := Lib.hid (bnext H5.out hb6)
          clear hb6
          go_wp2_with fail
          go_ret
          exact ⟨rfl, H6.out⟩
        · have f1 : ((y : Int) < (more : Int)) = False := by simp; omega
          have f1' : decide ((y : Int) < (more : Int)) = false := by simp; omega
          have f2 : max (y : Int) (more : Int) = (y : Int) := by omega
          have hzt : y < 18446744073709551616 := by omega
          have hyz : y ≤ y := by omega
          obtain ⟨cs2, hcs2⟩ : ∃ cs2, cs2 = cs.setIfInBounds k (.int .u64 (y : Int)) := ⟨_, rfl⟩
          have hrow2 : (wr.setCell ⟨w.heap.size, k, none⟩ (.int .u64 (y : Int))).heap[w.heap.size]? = some (.cells cs2 23 (0, 0)) := by rw [hcs2]; exact heap_setCell_same wr w.heap.size k cs 23 _ hrow
          have hM2 : Mk cs2 (upd x k y) := by rw [hcs2]; exact HM.out.upd hk6 hzt
          have HS2 : Hid ((Try.prog.info? 23).map (·.size) = some cs2.size) := Lib.hid (by rw [hM2.size]; exact info6)
          have HXX2 : Hid (∀ j, j < cs2.size → cs2[0 + j]? = cs2[j]?) := Lib.hid fun j _ => by rw [Nat.zero_add]
          have HR2 := Lib.hid hrow2
          have HLv2 := Lib.hid (fun w => HLv.out cs2 (upd x k y) hM2 w)
          have HGe : Hid (∀ u, Cf.IsLevel m (upd x k y) u → v ≤ u) := Lib.hid fun u hu => by
            rcases hu with h | h
            · have := HLvl.out.mem; rw [h.1] at this; simp at this
            · refine HLvl.out.mono h fun n hn => ?_
              unfold upd
              split
              · rename_i e; rw [e, ← hy]; exact hyz
              · exact Nat.le_refl _
          have HB2 : Hid (Below w.heap.size w (wr.setCell ⟨w.heap.size, k, none⟩ (.int .u64 (y : Int)))) := Lib.hid ((H2.out.1.trans (hb.mono H2.out.1.size)).setCell (p := ⟨w.heap.size, k, none⟩) (Nat.le_refl _) _)
          clear hp hq hb hk hy hrow hcs2 hrow2 hM2 hyz
          go_wp2_with fail
          refine (HWp.out _).mono ?_
          rintro e wx ⟨rfl, rfl⟩
          go_wp2_with fail
          refine (HWq.out _).mono ?_
          rintro e wx ⟨rfl, rfl⟩
          go_wp2_with (refine wpList_load_sub rfl 23 _ rfl w.heap.size 0 rfl 23 cs2 cs2 (0, 0) _ HR2.out HXX2.out Try.underlying23 rfl HS2.out ?_)
          refine (HLv2.out _).mono ?_
          rintro e w5 ⟨u, rfl, hu, hut, hb5⟩
          have hvu := HGe.out u hu
          have d1 : ((v : Int) ≤ (u : Int)) = True := by simp; omega
          have d1' : decide (v ≤ u) = true := decide_eq_true hvu
          have H5 := Lib.hid (HB2.out.trans (hb5.mono HB2.out.size))
          clear hb5 hu hvu
          go_wp2_with fail
          refine (HW.out _).mono ?_
          rintro e w6 ⟨rfl, hb6⟩
          have H6 := Lib.hid (bnext H5.out hb6)
          clear hb6
          go_wp2_with fail
          go_ret
          exact ⟨rfl, H6.out⟩
end Go.Proofs.Ytdodpocckjcomaa
