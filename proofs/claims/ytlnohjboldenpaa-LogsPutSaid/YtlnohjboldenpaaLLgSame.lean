/-
  Layer 11's law: one, GreatEntries, Same walked.
-/
import Derived.Test.YtlnohjboldenpaaLLgCutW
import Derived.Test.YtlnohjboldenpaaLLgPutW
set_option linter.unusedSimpArgs false
set_option linter.unusedVariables false
namespace Go.Proofs.Ytlnohjboldenpaa
open Go.RowKit
/-- An entry of this index and term, and of kind 1. -/
def Lg.one (i t : Nat) : En.E := { En.zero with idx := i, trm := t, kind := 1 }
set_option maxRecDepth 100000 in
theorem one_any (W : World) (i t : Nat) : Calls Try.prog 52 #[.int .u64 (i : Int), .int .u64 (t : Int)] W fun r w' => r = .returned (.agg (entC (Lg.one i t))) ∧ Below W.heap.size W w' := by
  have HZ := sizeEntL (Lg.one i t)
  have HO := (entF (Lg.one i t)).one
  have hs : (entC (Lg.one i t)).size = 13 := rfl
  go_enter Try.func52, Try.ntmps52
  go_upto_region 1 with (fail)
  refine forget (fun W2 => Rw W2 W.heap.size (entC En.zero) 49 ∧ Bl W W2) ⟨Rw.new W _ _, (Bl.refl W).alloc _⟩ ?_
  intro W2 H2
  obtain ⟨g, hg⟩ : ∃ g, g = W.heap.size := ⟨_, rfl⟩
  have hg2 : W.heap.size ≤ g := by omega
  rw [← hg] at H2 ⊢
  have HK := Lib.hid H2
  clear H2 hg
  go_wp2_with (refine wpList_store_sub rfl 49 _ _ rfl g 0 rfl 49 (entC En.zero) (entC (Lg.one i t)) rfl HK.out.1 (by rw [hs]; decide) HZ HO ?_)
  refine forgetX (fun W3 => Rw W3 g (entC (Lg.one i t)) 49 ∧ Bl W W3) ⟨HK.out.1.over rfl, HK.out.2.puts hg2 _ _⟩ ?_
  intro W3 H3
  have HK3 := Lib.hid H3
  clear H3 HK
  obtain ⟨Y, hY⟩ : ∃ Y, Y = entC (Lg.one i t) := ⟨_, rfl⟩
  rw [← hY] at HK3 HZ ⊢
  refine bodyPost_ret (results_cell_row (P := Try.prog) (fn := Try.f52) rfl _ _ g 49 Y (0, 0) _ rfl HK3.out.1 Try.underlying49 rfl HZ) rfl ?_
  exact ⟨rfl, HK3.out.2⟩
/-- Are entries more than the statements go through? -/
def Lg.great (es : List En.E) : Bool := decide (40 < es.length) || es.any fun e => decide (100 < e.body.size)
set_option maxRecDepth 100000 in
set_option maxHeartbeats 2000000 in
theorem great_any (w : World) (A : Option Addr) (cp : Nat) (es : List En.E) (hA : Lies w A (ec es)) (hn : es.length ≤ maxLen) (hz : ∀ e ∈ es, e.body.size ≤ maxLen) :
    Calls Try.prog 15 #[.slice A es.length cp] w (RetL (.bool (Lg.great es)) w) := by
  have HA := Lib.hid hA
  have HF := Lib.hid (fun i (hi : i < es.length) => hz _ (List.getElem_mem hi))
  have HG : Hid (Lg.great es = (decide (40 < es.length) || es.any fun e => decide (100 < e.body.size))) := Lib.hid rfl
  have HD : Hid (∀ i (h : i < es.length), (es.drop i).any (fun e => decide (100 < e.body.size)) = (decide (100 < es[i].body.size) || (es.drop (i + 1)).any fun e => decide (100 < e.body.size))) := Lib.hid fun i h => by rw [List.drop_eq_getElem_cons h, List.any_cons]
  have H0 : Hid (es.any (fun e => decide (100 < e.body.size)) = (es.drop 0).any fun e => decide (100 < e.body.size)) := Lib.hid rfl
  obtain ⟨n, hnn⟩ : ∃ n, n = es.length := ⟨_, rfl⟩
  have Hn := Lib.hid hnn
  have HE : Hid ((es.drop n).any (fun e => decide (100 < e.body.size)) = false) := Lib.hid (by rw [List.drop_eq_nil_of_le (by omega)]; rfl)
  rw [← hnn] at HG hn ⊢
  obtain ⟨T, hT⟩ : ∃ T, T = Lg.great es := ⟨_, rfl⟩
  rw [← hT] at HG ⊢
  simp only [maxLen] at hn
  clear hA hz hnn hT
  go_enter Try.func15, Try.ntmps15
  by_cases hg : 40 < n
  · have q1 : decide ((40 : Int) < (n : Int)) = true := by simp; omega
    have q2 : ((40 : Int) < (n : Int)) = True := by simp; omega
    have E : Hid (T = true) := Lib.hid (by rw [HG.out, decide_eq_true hg, Bool.true_or])
    go_wp2_with fail
    go_ret
    rw [E.out]
    exact ⟨rfl, Below.refl _ _⟩
  have q1 : decide ((40 : Int) < (n : Int)) = false := by simp; omega
  have q2 : ((40 : Int) < (n : Int)) = False := by simp; omega
  rw [decide_eq_false hg, Bool.false_or, H0.out] at HG
  have HGi := Lib.hid HG
  go_wp2_with fail
  clear q1 q2
  go_loopw [3] (fun iv wr => ∃ (i : Nat), i ≤ n ∧ iv = .int .i64 (i : Int) ∧ T = ((es.drop i).any fun e => decide (100 < e.body.size)) ∧ wr = w) (fun iv _ => n - (intOf iv).toNat)
  case atStart => exact ⟨0, Nat.zero_le _, rfl, HG.out, rfl⟩
  case round =>
    obtain ⟨i, hin, rfl, hT, rfl⟩ := hrel
    have HT := Lib.hid hT
    by_cases hlt : i < n
    · have hie : i < es.length := by rw [← Hn.out]; exact hlt
      obtain ⟨bl, off, rfl, hE⟩ := HA.out.ent i hie
      have HDi := Lib.hid (HD.out i hie)
      have hxs := HF.out i hie
      obtain ⟨x, hx⟩ : ∃ x, x = es[i] := ⟨_, rfl⟩
      rw [← hx] at hE HDi hxs
      have hc := hE.c12
      simp only [maxLen] at hxs
      clear hx hE hT
      by_cases hb : 100 < x.body.size
      · have q1 : decide ((100 : Int) < (x.body.size : Int)) = true := by simp; omega
        have q2 : ((100 : Int) < (x.body.size : Int)) = True := by simp; omega
        have E : Hid (T = true) := Lib.hid (by rw [HT.out, HDi.out, decide_eq_true hb, Bool.true_or])
        go_wp2_with fail
        go_ret
        rw [E.out]
        exact ⟨rfl, Below.refl _ _⟩
      · have q1 : decide ((100 : Int) < (x.body.size : Int)) = false := by simp; omega
        have q2 : ((100 : Int) < (x.body.size : Int)) = False := by simp; omega
        have E : Hid (T = ((es.drop (i + 1)).any fun e => decide (100 < e.body.size))) := Lib.hid (by rw [HT.out, HDi.out, decide_eq_false hb, Bool.false_or])
        go_wp2_with fail
        go_roundw
        case rel => exact ⟨i + 1, by omega, by go_num, E.out, by first | rfl | trivial⟩
        case measure => simp [intOf]; omega
    · obtain rfl : i = n := by omega
      have E : Hid (T = false) := Lib.hid (by rw [HT.out, HE.out])
      go_wp2_with fail
      go_ret
      rw [E.out]
      exact ⟨rfl, Below.refl _ _⟩
theorem same_step {xs ys : List En.E} {n i : Nat} (hx : n = xs.length) (hy : n = ys.length) (h : i < n) (hi : ∀ j, j < i → xs[j]? = ys[j]?) : ((∀ j, j < i + 1 → xs[j]? = ys[j]?) ↔ xs[i]'(by omega) = ys[i]'(by omega)) := by
  constructor
  · intro hj
    have := hj i (by omega)
    rw [List.getElem?_eq_getElem (by omega), List.getElem?_eq_getElem (by omega)] at this
    exact Option.some.inj this
  · intro he j hj
    by_cases hji : j < i
    · exact hi j hji
    · obtain rfl : j = i := by omega
      rw [List.getElem?_eq_getElem (by omega), List.getElem?_eq_getElem (by omega), he]
set_option maxRecDepth 100000 in
set_option maxHeartbeats 4000000 in
theorem same_any (w : World) (A B : Option Addr) (ca cb : Nat) (xs ys : List En.E) (hA : Lies w A (ec xs)) (hB : Lies w B (ec ys)) (hn : xs.length ≤ maxLen) (hm : ys.length ≤ maxLen) :
    Calls Try.prog 21 #[.slice A xs.length ca, .slice B ys.length cb] w (RetL (.bool (decide (xs = ys))) w) := by
  have HA := Lib.hid hA
  have HB := Lib.hid hB
  obtain ⟨n, hnn⟩ : ∃ n, n = xs.length := ⟨_, rfl⟩
  have Hn := Lib.hid hnn
  obtain ⟨m, hmm⟩ : ∃ m, m = ys.length := ⟨_, rfl⟩
  have Hm := Lib.hid hmm
  rw [← hnn] at hn ⊢
  rw [← hmm] at hm ⊢
  simp only [maxLen] at hn hm
  obtain ⟨T, hT⟩ : ∃ T, T = decide (xs = ys) := ⟨_, rfl⟩
  rw [← hT]
  have HT := Lib.hid hT
  clear hA hB hnn hmm hT
  go_enter Try.func21, Try.ntmps21
  by_cases hne : n = m
  case neg =>
    have q1 : ((n : Int) != (m : Int)) = true := by simp; omega
    have q2 : ((n : Int) = (m : Int)) = False := by simp; omega
    have E : Hid (T = false) := Lib.hid (by rw [HT.out]; exact decide_eq_false fun h => hne (by rw [Hn.out, Hm.out, h]))
    clear hne
    go_wp2_with fail
    go_ret
    rw [E.out]
    exact ⟨rfl, Below.refl _ _⟩
  subst hne
  have q1 : ((n : Int) != (n : Int)) = false := by simp
  go_wp2_with fail
  clear q1
  go_loopw [5] (fun iv wr => ∃ (i : Nat), i ≤ n ∧ iv = .int .i64 (i : Int) ∧ (∀ j, j < i → xs[j]? = ys[j]?) ∧ Bl w wr) (fun iv _ => n - (intOf iv).toNat)
  case atStart => exact ⟨0, Nat.zero_le _, rfl, (fun j hj => absurd hj (Nat.not_lt_zero _)), Bl.refl w⟩
  case round =>
    obtain ⟨i, hin, rfl, hJ, hW⟩ := hrel
    have HJ := Lib.hid hJ
    have HW := Lib.hid hW
    by_cases hlt : i < n
    · obtain ⟨b1, o1, rfl, hE1⟩ := (HA.out.below hW).ent i (by rw [← Hn.out]; exact hlt)
      obtain ⟨b2, o2, rfl, hE2⟩ := (HB.out.below hW).ent i (by rw [← Hm.out]; exact hlt)
      have HSt := Lib.hid (same_step Hn.out Hm.out hlt hJ)
      obtain ⟨x, hx⟩ : ∃ x, x = xs[i]'(by rw [← Hn.out]; exact hlt) := ⟨_, rfl⟩
      obtain ⟨y, hy⟩ : ∃ y, y = ys[i]'(by rw [← Hm.out]; exact hlt) := ⟨_, rfl⟩
      rw [← hx] at hE1 HSt
      rw [← hy] at hE2 HSt
      have HXY : Hid (xs = ys → x = y) := Lib.hid fun h => by rw [hx, hy]; simp only [h]
      have hne := ent_neq x y
      unfold entC at hne
      obtain ⟨_, k0, k1, k2, k3, k4, k5, k6, k7, k8, k9, k10, k11, k12⟩ := hE1
      obtain ⟨_, m0, m1, m2, m3, m4, m5, m6, m7, m8, m9, m10, m11, m12⟩ := hE2
      clear hx hy hJ hW
      by_cases hxy : x = y
      · have HXy := Lib.hid hxy
        rw [decide_eq_true hxy] at hne
        clear hxy
        go_upto_region 6 with (fail)
        go_quiet (fail)
        go_wp2_with fail
        go_roundw
        case rel => exact ⟨i + 1, by omega, by go_num, HSt.out.2 HXy.out, HW.out.drewN _⟩
        case measure => simp [intOf]; omega
      · have E : Hid (T = false) := Lib.hid (by rw [HT.out]; exact decide_eq_false fun h => hxy (HXY.out h))
        rw [decide_eq_false hxy] at hne
        clear hxy
        go_upto_region 6 with (fail)
        go_quiet (fail)
        go_wp2_with fail
        go_ret
        rw [E.out]
        exact ⟨rfl, (HW.out.drewN _).bel⟩
    · obtain rfl : i = n := by omega
      have E : Hid (T = true) := Lib.hid (by
        rw [HT.out]
        refine decide_eq_true (List.ext_getElem? fun j => ?_)
        by_cases hj : j < i
        · exact HJ.out j hj
        · rw [List.getElem?_eq_none (by rw [← Hn.out]; omega), List.getElem?_eq_none (by rw [← Hm.out]; omega)])
      clear hJ hW
      go_wp2_with fail
      go_ret
      rw [E.out]
      exact ⟨rfl, HW.out.bel⟩
end Go.Proofs.Ytlnohjboldenpaa
