/-
  Logs: joins walked (a closure handed to the library's ContainsFunc).
-/
import Derived.Test.YtlnohjboldenpaaLLgLack
set_option linter.unusedSimpArgs false
set_option linter.unusedVariables false
namespace Go.Proofs.Ytlnohjboldenpaa
open Go.RowKit Go.Sort
set_option maxRecDepth 100000 in
set_option maxHeartbeats 1000000 in
theorem joins1_any {p gb : Nat} {S : Nat → Prop} {l : Lg.L} (w : World) (h : LgAt w p S l) (hg : w.cell? ⟨gb, 0, none⟩ = some (.pointer (some ⟨p, 0, none⟩))) (e : En.E) (he : e.idx < Nm.top ∧ e.trm < Nm.top) :
    Calls Try.prog 93 #[.agg (entC e), .pointer (some ⟨gb, 0, none⟩)] w (RetL (.bool (Lg.hit l e)) w) := by
  have H := Lib.hid h
  have hb1 := h.fit.idx
  have hb2 := h.fit.trm
  obtain ⟨he1, he2⟩ := he
  unfold Nm.top at hb1 hb2 he1 he2
  have HT : Hid (Lg.hit l e = (decide (e.idx = l.idx) && decide (e.trm = l.trm))) := Lib.hid rfl
  obtain ⟨X, hX⟩ : ∃ X, X = entC e := ⟨_, rfl⟩
  have HX := Lib.hid hX
  rw [← hX]
  have HG := Lib.hid hg
  clear h hg hX
  go_enter Try.func93, Try.ntmps93
  go_upto_region 1 with (fail)
  have e0 := bnew (Below.refl w.heap.size w) (.cells X 49)
  refine forget (fun W2 => Rw W2 w.heap.size X 49 ∧ Bl w W2) ⟨Rw.new w X _, (Bl.refl w).alloc _⟩ ?_
  intro W2 H2
  generalize w.heap.size = gx at H2 ⊢
  have HK := Lib.hid H2
  have d0 : W2.cell? ⟨gx, 0, none⟩ = some (.int .u64 (e.idx : Int)) := H2.1.cell 0 (by rw [HX.out]; rfl)
  have d1 : W2.cell? ⟨gx, 1, none⟩ = some (.int .u64 (e.trm : Int)) := H2.1.cell 1 (by rw [HX.out]; rfl)
  have d2 := later H2.2.bel HG.out
  obtain ⟨A, c, h1, _⟩ := (H.out.bel H2.2).own
  obtain ⟨c0, c1, c2, c3, c4⟩ := lg_cells h1
  clear H2 HX h1 c0 c3 c4 e0
  by_cases h1 : e.idx = l.idx
  · have q1 : ((e.idx : Int) == (l.idx : Int)) = true := by simp; omega
    have q2 : ((e.idx : Int) = (l.idx : Int)) = True := by simp; omega
    have E : Hid (Lg.hit l e = ((e.trm : Int) == (l.trm : Int))) := Lib.hid (by
      rw [HT.out, decide_eq_true h1, Bool.true_and]
      by_cases ht : e.trm = l.trm
      · rw [decide_eq_true ht, ht]; simp
      · rw [decide_eq_false ht]; symm; simp; omega)
    clear HT h1
    go_wp2_with fail
    go_quiet (fail)
    go_wp2_with fail
    go_ret
    exact ⟨by rw [E.out]; rfl, (HK.out.2.drewN _).bel⟩
  · have q1 : ((e.idx : Int) == (l.idx : Int)) = false := by simp; omega
    have q2 : ((e.idx : Int) = (l.idx : Int)) = False := by simp; omega
    have E : Hid (Lg.hit l e = false) := Lib.hid (by rw [HT.out, decide_eq_false h1]; rfl)
    clear HT h1
    go_wp2_with fail
    go_quiet (fail)
    go_wp2_with fail
    go_ret
    exact ⟨by rw [E.out]; rfl, (HK.out.2.drewN _).bel⟩
theorem any_drop (f : En.E → Bool) (es : List En.E) (i : Nat) (h : i < es.length) : (es.drop i).any f = (f es[i] || (es.drop (i + 1)).any f) := by
  rw [List.drop_eq_getElem_cons h, List.any_cons]
set_option maxRecDepth 100000 in
set_option maxHeartbeats 1000000 in
theorem indexFunc_any {p gb : Nat} {S : Nat → Prop} {l : Lg.L} (w : World) (h : LgAt w p S l) (hg : w.cell? ⟨gb, 0, none⟩ = some (.pointer (some ⟨p, 0, none⟩))) (A : Option Addr) (cp : Nat) (es : List En.E) (hA : Lies w A (ec es)) (hn : es.length ≤ maxLen) (hx : ∀ e ∈ es, e.idx < Nm.top ∧ e.trm < Nm.top) :
    Calls Try.prog 99 #[.slice A es.length cp, .func (.func 93) #[] #[.pointer (some ⟨gb, 0, none⟩)]] w fun e w' => ∃ k : Int, e = .returned (.int .i64 k) ∧ (decide (0 ≤ k) = es.any (Lg.hit l)) ∧ Below w.heap.size w w' := by
  have H := Lib.hid h
  have HA := Lib.hid hA
  have HG := Lib.hid hg
  have HS := Lib.hid (fun i h => any_drop (Lg.hit l) es i h)
  have HF := Lib.hid (fun i (hi : i < es.length) => hx _ (List.getElem_mem hi))
  have HJ : Hid (∀ W', Below w.heap.size w W' → ∀ i (hi : i < es.length), Calls Try.prog 93 #[.agg (entC es[i]), .pointer (some ⟨gb, 0, none⟩)] W' (RetL (.bool (Lg.hit l es[i])) W')) := Lib.hid fun W' hb i hi => joins1_any W' (h.bel hb) (later hb hg) _ (hx _ (List.getElem_mem hi))
  obtain ⟨n, hnn⟩ : ∃ n, n = es.length := ⟨_, rfl⟩
  have Hn := Lib.hid hnn
  rw [← hnn] at hn ⊢
  simp only [maxLen] at hn
  clear h hA hg hx hnn
  go_enter Try.func99, Try.ntmps99
  go_wp2_with fail
  go_loopw [8] (fun iv wr => ∃ (i : Nat), i ≤ n ∧ iv = .int .i64 (i : Int) ∧ es.any (Lg.hit l) = (es.drop i).any (Lg.hit l) ∧ Bl w wr) (fun iv _ => n - (intOf iv).toNat)
  case atStart => exact ⟨0, Nat.zero_le _, rfl, rfl, Bl.refl w⟩
  case round =>
    obtain ⟨i, hin, rfl, hT, hW⟩ := hrel
    have HT := Lib.hid hT
    have HW := Lib.hid hW
    by_cases hlt : i < n
    · have hie : i < es.length := by rw [← Hn.out]; exact hlt
      obtain ⟨b, off, rfl, hE⟩ := (HA.out.below hW).ent i hie
      have HSi := Lib.hid (HS.out i hie)
      have HJi := Lib.hid (HJ.out wr hW.bel i hie)
      obtain ⟨x, hx⟩ : ∃ x, x = es[i] := ⟨_, rfl⟩
      rw [← hx] at hE HSi HJi
      have HR := Lib.hid hE.rng
      have HZ := sizeEntL x
      obtain ⟨X, hX⟩ : ∃ X, X = entC x := ⟨_, rfl⟩
      rw [← hX] at HZ HR HJi
      obtain ⟨hh, hhe⟩ : ∃ hh, hh = Lg.hit l x := ⟨_, rfl⟩
      rw [← hhe] at HJi HSi
      clear hx hE hX hT hhe
      cases hh with
      | true =>
        have E : Hid (es.any (Lg.hit l) = true) := Lib.hid (by rw [HT.out, HSi.out]; rfl)
        go_wp2_with (first
          | (refine wpList_load_rgL rfl 49 _ rfl b (off + i * 13) rfl X _ HR.out Try.underlying49 rfl HZ ?_)
          | (go_at_call 93; refine HJi.out.mono ?_; rintro r w2 ⟨rfl, hb2⟩))
        go_ret
        exact ⟨(i : Int), rfl, by rw [E.out]; simp, (HW.out.next hb2).bel⟩
      | false =>
        have E : Hid (es.any (Lg.hit l) = (es.drop (i + 1)).any (Lg.hit l)) := Lib.hid (by rw [HT.out, HSi.out]; rfl)
        go_wp2_with (first
          | (refine wpList_load_rgL rfl 49 _ rfl b (off + i * 13) rfl X _ HR.out Try.underlying49 rfl HZ ?_)
          | (go_at_call 93; refine HJi.out.mono ?_; rintro r w2 ⟨rfl, hb2⟩))
        go_roundw
        case rel => exact ⟨i + 1, by omega, by go_num, E.out, HW.out.next hb2⟩
        case measure => simp [intOf]; omega
    · obtain rfl : i = n := by omega
      have E : Hid (es.any (Lg.hit l) = false) := Lib.hid (by rw [hT, List.drop_eq_nil_of_le (by rw [← Hn.out]; exact Nat.le_refl _)]; rfl)
      clear hT HT
      go_wp2_with fail
      go_ret
      exact ⟨-1, rfl, by rw [E.out]; rfl, HW.out.bel⟩
theorem contains_any {p gb : Nat} {S : Nat → Prop} {l : Lg.L} (w : World) (h : LgAt w p S l) (hg : w.cell? ⟨gb, 0, none⟩ = some (.pointer (some ⟨p, 0, none⟩))) (A : Option Addr) (cp : Nat) (es : List En.E) (hA : Lies w A (ec es)) (hn : es.length ≤ maxLen) (hx : ∀ e ∈ es, e.idx < Nm.top ∧ e.trm < Nm.top) :
    Calls Try.prog 92 #[.slice A es.length cp, .func (.func 93) #[] #[.pointer (some ⟨gb, 0, none⟩)]] w (RetL (.bool (es.any (Lg.hit l))) w) := by
  have HI := Lib.hid (indexFunc_any w h hg A cp es hA hn hx)
  obtain ⟨T, hT⟩ : ∃ T, T = es.any (Lg.hit l) := ⟨_, rfl⟩
  rw [← hT] at HI ⊢
  clear hT h hg hA hx
  go_enter Try.func92, Try.ntmps92
  go_wp2_with (go_at_call 99; refine HI.out.mono ?_; rintro r w2 ⟨k, rfl, hk, hb2⟩)
  go_ret
  exact ⟨by rw [← hk]; simp, hb2⟩
set_option maxRecDepth 100000 in
theorem joins_any {p : Nat} {S : Nat → Prop} {l : Lg.L} (w : World) (h : LgAt w p S l) (hf : ∀ e ∈ l.es, e.idx < Nm.top) (i t : Nat) (hi : i < Nm.top) (A : Option Addr) (cp : Nat) (es : List En.E) (hA : Lies w A (ec es)) (hn : es.length ≤ maxLen) (hx : ∀ e ∈ es, e.idx < Nm.top ∧ e.trm < Nm.top) :
    Calls Try.prog 73 #[.pointer (some ⟨p, 0, none⟩), .int .u64 (i : Int), .int .u64 (t : Int), .slice A es.length cp] w (RetL (.bool (Lg.joins l i t es)) w) := by
  have HH : Hid (∀ W', Below w.heap.size w W' → Calls Try.prog 89 #[.pointer (some ⟨p, 0, none⟩), .int .u64 (i : Int), .int .u64 (t : Int)] W' (RetL (.bool (Lg.has l i t)) W')) := Lib.hid fun W' hb => has_any W' (h.bel hb) i t hi hf
  have HC : Hid (∀ W', Below w.heap.size w W' → ∀ gb, W'.cell? ⟨gb, 0, none⟩ = some (.pointer (some ⟨p, 0, none⟩)) → Calls Try.prog 92 #[.slice A es.length cp, .func (.func 93) #[] #[.pointer (some ⟨gb, 0, none⟩)]] W' (RetL (.bool (es.any (Lg.hit l))) W')) := Lib.hid fun W' hb gb hg => contains_any W' (h.bel hb) hg A cp es (hA.below hb) hn hx
  have HJ : Hid (Lg.joins l i t es = if l.idx ≤ i then Lg.has l i t else es.any (Lg.hit l)) := Lib.hid rfl
  have H := Lib.hid h
  have hb1 := h.fit.idx
  unfold Nm.top at hb1 hi
  obtain ⟨n, hnn⟩ : ∃ n, n = es.length := ⟨_, rfl⟩
  rw [← hnn] at HC ⊢
  obtain ⟨J, hJ⟩ : ∃ J, J = Lg.joins l i t es := ⟨_, rfl⟩
  rw [← hJ] at HJ ⊢
  clear h hA hx hJ hnn hn
  go_enter Try.func73, Try.ntmps73
  go_upto_region 1 with (fail)
  refine forget (fun W2 => Rw W2 w.heap.size #[.pointer (some ⟨p, 0, none⟩)] 28 ∧ Bl w W2) ⟨Rw.new w _ _, (Bl.refl w).alloc _⟩ ?_
  intro W2 H2
  generalize w.heap.size = gx at H2 ⊢
  have HK := Lib.hid H2
  have d0 : W2.cell? ⟨gx, 0, none⟩ = some (.pointer (some ⟨p, 0, none⟩)) := H2.1.cell 0 rfl
  obtain ⟨A', c, h1, _⟩ := (H.out.bel H2.2).own
  obtain ⟨c0, c1, c2, c3, c4⟩ := lg_cells h1
  have HH2 := Lib.hid (HH.out W2 H2.2)
  have HC2 := Lib.hid (HC.out W2 H2.2 gx d0)
  clear H2 h1 c0 c2 c3 c4 HH HC
  by_cases hle : l.idx ≤ i
  · have q1 : decide (l.idx ≤ i) = true := decide_eq_true hle
    have q2 : ((l.idx : Int) ≤ (i : Int)) = True := by simp; omega
    have E : Hid (J = Lg.has l i t) := Lib.hid (by rw [HJ.out, if_pos hle])
    clear HJ HC2 hle
    go_wp2_with (go_at_call 89; refine HH2.out.mono ?_; rintro r w3 ⟨rfl, hb3⟩)
    go_ret
    exact ⟨by rw [E.out]; rfl, (HK.out.2.next hb3).bel⟩
  · have q1 : decide (l.idx ≤ i) = false := decide_eq_false hle
    have q2 : ((l.idx : Int) ≤ (i : Int)) = False := by simp; omega
    have E : Hid (J = es.any (Lg.hit l)) := Lib.hid (by rw [HJ.out, if_neg hle])
    clear HJ HH2 hle
    go_wp2_with (go_at_call 92; refine HC2.out.mono ?_; rintro r w3 ⟨rfl, hb3⟩)
    go_ret
    exact ⟨by rw [E.out]; rfl, (HK.out.2.next hb3).bel⟩
end Go.Proofs.Ytlnohjboldenpaa
