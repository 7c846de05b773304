/-
  Logs: fit, AsNew walked.
-/
import Derived.Test.YtlnohjboldenpaaLLgCopies
set_option linter.unusedSimpArgs false
set_option linter.unusedVariables false
namespace Go.Proofs.Ytlnohjboldenpaa
open Go.RowKit
theorem lg_fit_step (a b : Nat) (es : List En.E) (i : Nat) (h : i < es.length) : Lg.fit a b (es.drop i) = (decide (es[i].idx = a + 1 ∧ b ≤ es[i].trm) && Lg.fit es[i].idx es[i].trm (es.drop (i + 1))) := by
  rw [List.drop_eq_getElem_cons h, Lg.fit]
set_option maxRecDepth 100000 in
set_option maxHeartbeats 2000000 in
theorem fit_any (w : World) (a0 b0 : Nat) (A : Option Addr) (cp : Nat) (es : List En.E) (hA : Lies w A (ec es)) (hn : es.length ≤ maxLen) (ha : a0 < Nm.top) (hb : b0 < Nm.top) (hf : ∀ e ∈ es, e.idx < Nm.top ∧ e.trm < Nm.top) :
    Calls Try.prog 53 #[.int .u64 (a0 : Int), .int .u64 (b0 : Int), .slice A es.length cp] w (RetL (.bool (Lg.fit a0 b0 es)) w) := by
  have HA := Lib.hid hA
  have HS := Lib.hid (fun a b i h => lg_fit_step a b es i h)
  have HF := Lib.hid (fun i (hi : i < es.length) => hf _ (List.getElem_mem hi))
  obtain ⟨n, hnn⟩ : ∃ n, n = es.length := ⟨_, rfl⟩
  have Hn := Lib.hid hnn
  have H0 : Hid (Lg.fit a0 b0 es = Lg.fit a0 b0 (es.drop 0)) := Lib.hid rfl
  have HE : Hid (∀ a b, Lg.fit a b (es.drop n) = true) := Lib.hid fun a b => by rw [List.drop_eq_nil_of_le (by omega)]; rfl
  rw [← hnn] at hn ⊢
  obtain ⟨T, hT⟩ : ∃ T, T = Lg.fit a0 b0 es := ⟨_, rfl⟩
  rw [← hT] at H0 ⊢
  simp only [maxLen] at hn
  unfold Nm.top at ha hb
  clear hA hf hnn hT
  go_enter Try.func53, Try.ntmps53
  go_wp2_with fail
  go_loopw [0, 1, 11] (fun av bv iv wr => ∃ (i a b : Nat), i ≤ n ∧ av = .int .u64 (a : Int) ∧ bv = .int .u64 (b : Int) ∧ iv = .int .i64 (i : Int) ∧ a < 18446744073709551616 ∧ b < 18446744073709551616 ∧ T = Lg.fit a b (es.drop i) ∧ Bl w wr) (fun _ _ iv _ => n - (intOf iv).toNat)
  case atStart => exact ⟨0, a0, b0, Nat.zero_le _, rfl, rfl, rfl, ha, hb, H0.out, Bl.refl w⟩
  case round =>
    obtain ⟨i, a, b, hin, rfl, rfl, rfl, ha1, hb1, hT, hW⟩ := hrel
    have HT := Lib.hid hT
    have HW := Lib.hid hW
    by_cases hlt : i < n
    · have hie : i < es.length := by rw [← Hn.out]; exact hlt
      obtain ⟨bl, off, rfl, hE⟩ := (HA.out.below hW).ent i hie
      have HSi := Lib.hid (HS.out a b i hie)
      obtain ⟨hx1, hx2⟩ := HF.out i hie
      obtain ⟨x, hx⟩ : ∃ x, x = es[i] := ⟨_, rfl⟩
      rw [← hx] at hE HSi hx1 hx2
      unfold Nm.top at hx1 hx2
      have HR := Lib.hid hE.rng
      have HZ := sizeEntL x
      have HO := (entF x).one
      obtain ⟨X, hX⟩ : ∃ X, X = entC x := ⟨_, rfl⟩
      have HX := Lib.hid hX
      rw [← hX] at HZ HO HR
      have hXs : X.size = 13 := by rw [hX]; rfl
      clear hx hE hX hT
      go_upto_region 4 with (first
        | (refine wpList_load_rgL rfl 49 _ rfl bl (off + i * 13) rfl X _ HR.out Try.underlying49 rfl HZ ?_)
        | (refine wpList_store_sub rfl 49 _ _ rfl wr.heap.size 0 rfl 49 (entC En.zero) X rfl (Rw.new wr (entC En.zero) 49) (by rw [hXs]; decide) HZ HO ?_))
      refine forget (fun W2 => Rw W2 wr.heap.size X 49 ∧ Bl w W2) ⟨(Rw.new wr (entC En.zero) 49).over (by rw [hXs]; rfl), (hW.alloc _).puts hW.le _ _⟩ ?_
      intro W2 H2
      generalize wr.heap.size = gb at H2 ⊢
      have HK := Lib.hid H2
      have d0 : W2.cell? ⟨gb, 0, none⟩ = some (.int .u64 (x.idx : Int)) := H2.1.cell 0 (by rw [HX.out]; rfl)
      have d1 : W2.cell? ⟨gb, 1, none⟩ = some (.int .u64 (x.trm : Int)) := H2.1.cell 1 (by rw [HX.out]; rfl)
      clear H2 HR HZ HO hXs hW HX
      by_cases h0 : x.idx = 0
      · have q1 : ((x.idx : Int) == 0) = true := by simp; omega
        have q2 : ((x.idx : Int) = 0) = True := by simp; omega
        have E : Hid (T = false) := Lib.hid (by rw [HT.out, HSi.out, decide_eq_false (by omega)]; rfl)
        clear HT HSi h0
        go_wp2_with fail
        go_ret
        exact ⟨by rw [E.out]; rfl, HK.out.2⟩
      have q1 : ((x.idx : Int) == 0) = false := by simp; omega
      have q2 : ((x.idx : Int) = 0) = False := by simp; omega
      have hx0 : 1 ≤ x.idx := by omega
      by_cases h1 : x.idx = a + 1
      · have q3 : ((x.idx : Int) - 1 != (a : Int)) = false := by simp; omega
        have q4 : ((x.idx : Int) - 1 = (a : Int)) = True := by simp; omega
        by_cases h2 : x.trm < b
        · have q5 : decide (x.trm < b) = true := decide_eq_true h2
          have q6 : ((x.trm : Int) < (b : Int)) = True := by simp; omega
          have E : Hid (T = false) := Lib.hid (by rw [HT.out, HSi.out, decide_eq_false (by omega)]; rfl)
          clear HT HSi h0 h1 h2
          go_wp2_with fail
          go_ret
          exact ⟨by rw [E.out]; rfl, HK.out.2⟩
        · have q5 : decide (x.trm < b) = false := decide_eq_false h2
          have q6 : ((x.trm : Int) < (b : Int)) = False := by simp; omega
          have E : Hid (T = Lg.fit x.idx x.trm (es.drop (i + 1))) := Lib.hid (by rw [HT.out, HSi.out, decide_eq_true (by omega), Bool.true_and])
          clear HT HSi h0 h1 h2
          go_wp2_with fail
          go_quiet (fail)
          go_wp2_with fail
          go_roundw
          case rel => exact ⟨i + 1, x.idx, x.trm, by omega, rfl, rfl, by go_num, hx1, hx2, E.out, HK.out.2.drewN _⟩
          case measure => simp [intOf]; omega
      · have q3 : ((x.idx : Int) - 1 != (a : Int)) = true := by simp; omega
        have q4 : ((x.idx : Int) - 1 = (a : Int)) = False := by simp; omega
        have E : Hid (T = false) := Lib.hid (by rw [HT.out, HSi.out, decide_eq_false (by omega)]; rfl)
        clear HT HSi h0 h1
        go_wp2_with fail
        go_ret
        exact ⟨by rw [E.out]; rfl, HK.out.2⟩
    · obtain rfl : i = n := by omega
      have E : Hid (T = true) := Lib.hid (by rw [hT]; exact HE.out a b)
      clear hT HT hW
      go_wp2_with fail
      go_ret
      exact ⟨by rw [E.out]; rfl, HW.out⟩
set_option maxRecDepth 100000 in
theorem asNew_any {p : Nat} {S : Nat → Prop} {l : Lg.L} (W : World) (h : LgAt W p S l) (i t : Nat) : Calls Try.prog 68 #[.pointer (some ⟨p, 0, none⟩), .int .u64 (i : Int), .int .u64 (t : Int)] W (RetL (.bool (Lg.asNew l i t)) W) := by
  have HM := Lib.hid (isMade_any W h)
  have HL := Lib.hid (last_any W h)
  have E : Hid (Lg.asNew l i t = (decide ((Lg.lst l).2 < t) || (decide (t = (Lg.lst l).2) && decide ((Lg.lst l).1 ≤ i)))) := Lib.hid rfl
  obtain ⟨a, ha⟩ : ∃ a, a = (Lg.lst l).1 := ⟨_, rfl⟩
  obtain ⟨b, hb⟩ : ∃ b, b = (Lg.lst l).2 := ⟨_, rfl⟩
  obtain ⟨T, hT⟩ : ∃ T, T = Lg.asNew l i t := ⟨_, rfl⟩
  rw [← hT] at E ⊢
  rw [← ha, ← hb] at HL E
  clear h ha hb hT
  go_enter Try.func68, Try.ntmps68
  by_cases h1 : b < t
  · have q1 : decide (b < t) = true := decide_eq_true h1
    have q2 : ((b : Int) < (t : Int)) = True := by simp; omega
    have E2 : Hid (T = true) := Lib.hid (by rw [E.out, q1]; rfl)
    clear E h1
    go_wp2_with (first | (go_at_call 71; refine HM.out.mono ?_; rintro r w' ⟨rfl, rfl⟩) | (go_at_call 25; refine HL.out.mono ?_; rintro r w2 ⟨rfl, hb2⟩))
    go_ret
    exact ⟨by rw [E2.out]; rfl, hb2⟩
  have q1 : decide (b < t) = false := decide_eq_false h1
  have q2 : ((b : Int) < (t : Int)) = False := by simp; omega
  by_cases h2 : t = b
  · have q3 : ((t : Int) == (b : Int)) = true := by simp; omega
    have q4 : ((t : Int) = (b : Int)) = True := by simp; omega
    have E2 : Hid (T = decide (a ≤ i)) := Lib.hid (by rw [E.out, q1, decide_eq_true h2]; rfl)
    clear E h1 h2
    go_wp2_with (first | (go_at_call 71; refine HM.out.mono ?_; rintro r w' ⟨rfl, rfl⟩) | (go_at_call 25; refine HL.out.mono ?_; rintro r w2 ⟨rfl, hb2⟩))
    go_ret
    exact ⟨by rw [E2.out]; simp, hb2⟩
  · have q3 : ((t : Int) == (b : Int)) = false := by simp; omega
    have q4 : ((t : Int) = (b : Int)) = False := by simp; omega
    have E2 : Hid (T = false) := Lib.hid (by rw [E.out, q1, decide_eq_false h2]; rfl)
    clear E h1 h2
    go_wp2_with (first | (go_at_call 71; refine HM.out.mono ?_; rintro r w' ⟨rfl, rfl⟩) | (go_at_call 25; refine HL.out.mono ?_; rintro r w2 ⟨rfl, hb2⟩))
    go_ret
    exact ⟨by rw [E2.out]; rfl, hb2⟩
end Go.Proofs.Ytlnohjboldenpaa
