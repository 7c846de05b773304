/-
  Logs: New walked.
-/
import Derived.Test.YtlnohjboldenpaaLLgAdd
set_option linter.unusedSimpArgs false
set_option linter.unusedVariables false
namespace Go.Proofs.Ytlnohjboldenpaa
open Go.RowKit Go.Sort
/-- Entries that are handed to New: one of its slices. -/
structure Vs where
  A : Option Addr
  cp : Nat
  es : List En.E
def vsc (gs : List Vs) : List Value := gs.map fun g => Value.slice g.A g.es.length g.cp
def vse (gs : List Vs) : List En.E := (gs.map (·.es)).flatten
theorem vse_snoc (gs : List Vs) (j : Nat) (h : j < gs.length) : vse (gs.take (j + 1)) = vse (gs.take j) ++ gs[j].es := by
  unfold vse
  rw [List.take_succ_eq_append_getElem h, List.map_append, List.flatten_append]; simp
theorem vsc_at (gs : List Vs) (j : Nat) (h : j < gs.length) : (vsc gs)[j]? = some (Value.slice gs[j].A gs[j].es.length gs[j].cp) := by
  unfold vsc; rw [List.getElem?_map, List.getElem?_eq_getElem h]; rfl
structure GivenV (W : World) (g : Vs) : Prop where
  lies : Lies W g.A (ec g.es)
  nil : g.A = none → g.es.length = 0
  room : g.es.length ≤ g.cp
  fits : ∀ e ∈ g.es, En.Fits e ∧ e.body.size ≤ 1000
  few : g.es.length ≤ 1000
theorem vse_le (gs : List Vs) (j : Nat) : (vse (gs.take j)).length ≤ (vse gs).length := by
  have : vse gs = vse (gs.take j) ++ vse (gs.drop j) := by
    unfold vse
    rw [← List.flatten_append, ← List.map_append, List.take_append_drop]
  rw [this, List.length_append]; omega
theorem fit_more {i t : Nat} (gs : List Vs) (j : Nat) (hj : j < gs.length) (h : Lg.fit i t (vse (gs.take j)) = true) :
    Lg.fit i t (vse (gs.take (j + 1))) = Lg.fit (Lg.fin i t (vse (gs.take j))).1 (Lg.fin i t (vse (gs.take j))).2 gs[j].es := by
  rw [vse_snoc gs j hj, Lg.fit_append, h, Bool.true_and]
theorem fit_not {i t : Nat} (gs : List Vs) (j : Nat) (h : Lg.fit i t (vse (gs.take j)) = false) : Lg.fit i t (vse gs) = false := by
  have e : vse gs = vse (gs.take j) ++ vse (gs.drop j) := by
    unfold vse
    rw [← List.flatten_append, ← List.map_append, List.take_append_drop]
  rw [e, Lg.fit_append, h, Bool.false_and]
theorem lst_top {l : Lg.L} (h : LgFit l) : (Lg.lst l).1 < Nm.top ∧ (Lg.lst l).2 < Nm.top := by
  unfold Lg.lst
  rcases hl : l.es.getLast? with _ | e
  · exact ⟨h.idx, h.trm⟩
  · have := (h.es e (List.mem_of_getLast? hl)).1
    exact ⟨this.idx, this.trm⟩
/-- What New hands back. -/
def RetNew (i t m : Nat) (es : List En.E) (w : World) (e : Ending) (w' : World) : Prop :=
  if Lg.fit i t es = true then ∃ p S, e = .returned (.tuple #[.pointer (some ⟨p, 0, none⟩), .int .i64 0]) ∧ LgAt w' p S ⟨i, t, m, es⟩ ∧ (∀ k, S k → w.heap.size ≤ k) ∧ Below w.heap.size w w'
  else e = .returned (.tuple #[.pointer none, .int .i64 1]) ∧ Below w.heap.size w w'
/-- What stands while New goes on. -/
structure NewI (w wr : World) (p : Nat) (l : Lg.L) : Prop where
  at_ : ∃ S, LgAt wr p S l ∧ ∀ k, S k → w.heap.size ≤ k
  bl : Below w.heap.size w wr
theorem LNowB.newI {w W W' : World} {p B : Nat} {S : Nat → Prop} {l : Lg.L} (h : LNowB W W' p S l B) (hW : Below w.heap.size w W) (hS : ∀ k, S k → w.heap.size ≤ k) (hB : w.heap.size ≤ B) : NewI w W' p l := by
  obtain ⟨⟨S', h1, h2⟩, h3⟩ := h
  exact ⟨⟨S', h1, fun k hk => (h2 k hk).elim (hS k) (Nat.le_trans hB)⟩, h3.below hW hS⟩
theorem lgAt_new (w : World) (i t m : Nat) (hi : i < Nm.top) (ht : t < Nm.top) (hm : m < 256) : NewI w (w.alloc (.cells #[.bool true, .int .u64 (i : Int), .int .u64 (t : Int), .int .u8 (m : Int), .slice none 0 0] 109)) w.heap.size ⟨i, t, m, []⟩ :=
  ⟨⟨fun k => k = w.heap.size, ⟨⟨none, 0, Rw.new w _ _, Sl.nil _ _, (fun e => by cases e), fun b hb => by cases hb⟩, rfl, fun k hk => by rw [hk]; simp, hi, ht, hm, (fun e he => by cases he), Nat.zero_le _⟩, fun k hk => by rw [hk]; exact Nat.le_refl _⟩, bnew (Below.refl _ _) _⟩
set_option maxRecDepth 100000 in
set_option maxHeartbeats 2000000 in
theorem new_any (w : World) (i t m : Nat) (hi : i < Nm.top) (ht : t < Nm.top) (hm : m < 256) (V : Option Addr) (vc : Nat) (gs : List Vs) (hV : Lies w V (vsc gs)) (hg : ∀ g ∈ gs, GivenV w g) (hn : gs.length ≤ 10) (hfew : (vse gs).length ≤ 1000) :
    Calls Try.prog 17 #[.int .u64 (i : Int), .int .u64 (t : Int), .int .u8 (m : Int), .slice V gs.length vc] w (RetNew i t m (vse gs) w) := by
  obtain ⟨i0, hi0, hz0, hz1, hz2⟩ := info_parts infoEntL
  have HV := Lib.hid hV
  have HG := Lib.hid hg
  have HI := Lib.hid (And.intro hi (And.intro ht hm))
  have HN0 := Lib.hid (lgAt_new w i t m hi ht hm)
  have Hfew := Lib.hid hfew
  obtain ⟨n, hnn⟩ : ∃ n, n = gs.length := ⟨_, rfl⟩
  have Hn := Lib.hid hnn
  rw [← hnn] at hn ⊢
  unfold Nm.top at hi ht
  clear hV hg hnn hfew
  go_enter Try.func17, Try.ntmps17
  go_upto_region 2 with (fail)
  refine forget (fun W => NewI w W w.heap.size ⟨i, t, m, []⟩) HN0.out ?_
  intro W1 H1
  generalize w.heap.size = p at H1 ⊢
  have HN1 := Lib.hid H1
  clear H1 HN0
  go_wp2_with fail
  go_loopw [22] (fun iv wr => ∃ (j : Nat), j ≤ n ∧ iv = .int .i64 (j : Int) ∧ Lg.fit i t (vse (gs.take j)) = true ∧ NewI w wr p ⟨i, t, m, vse (gs.take j)⟩) (fun iv _ => n - (intOf iv).toNat)
  case atStart => exact ⟨0, Nat.zero_le _, rfl, rfl, HN1.out⟩
  case round =>
    obtain ⟨j, hjn, rfl, hft, hN⟩ := hrel
    have HFt := Lib.hid hft
    by_cases hlt : j < n
    · have hjg : j < gs.length := by rw [← Hn.out]; exact hlt
      have hgv := HG.out _ (List.getElem_mem hjg)
      have HSt := Lib.hid (fit_more (i := i) (t := t) gs j hjg hft)
      have HNot := Lib.hid (fun h => fit_not (i := i) (t := t) gs (j + 1) h)
      have HSn := Lib.hid (vse_snoc gs j hjg)
      have hle2 := vse_le gs (j + 1)
      rw [vse_snoc gs j hjg, List.length_append] at hle2
      have hcell : ∃ vb vo, V = some ⟨vb, vo, none⟩ ∧ wr.cell? ⟨vb, vo + j, none⟩ = some (.slice gs[j].A gs[j].es.length gs[j].cp) := by
        rcases HV.out with h | ⟨vb, vo, rfl, hlt2, hc⟩
        · have := vsc_at gs j hjg; rw [h] at this; cases this
        · exact ⟨vb, vo, rfl, (hN.bl.cell (p := ⟨vb, vo + j, none⟩) hlt2).trans (hc j _ (vsc_at gs j hjg))⟩
      obtain ⟨vb, vo, rfl, hcl⟩ := hcell
      obtain ⟨v, hv⟩ : ∃ v, v = gs[j] := ⟨_, rfl⟩
      rw [← hv] at hgv HSt HSn hle2 hcl
      obtain ⟨S, hAt, hSw⟩ := hN.at_
      obtain ⟨l, hl⟩ : ∃ l, l = (⟨i, t, m, vse (gs.take j)⟩ : Lg.L) := ⟨_, rfl⟩
      have HLs : Hid (Lg.lst l = Lg.fin i t (vse (gs.take j))) := Lib.hid (by rw [hl]; rfl)
      have HLq : Hid (l = ⟨i, t, m, vse (gs.take j)⟩) := Lib.hid hl
      rw [← hl] at hAt
      have HAt := Lib.hid (And.intro hAt (And.intro hSw hN.bl))
      have hfi : (Lg.lst l).1 < Nm.top ∧ (Lg.lst l).2 < Nm.top := lst_top hAt.fit
      have hmx : v.es.length ≤ maxLen := by have := hgv.few; simp only [maxLen]; omega
      have HLa := Lib.hid (last_any wr hAt)
      have HFi : Hid (∀ W', Below wr.heap.size wr W' → Calls Try.prog 53 #[.int .u64 ((Lg.lst l).1 : Int), .int .u64 ((Lg.lst l).2 : Int), .slice v.A v.es.length v.cp] W' (RetL (.bool (Lg.fit (Lg.lst l).1 (Lg.lst l).2 v.es)) W')) := Lib.hid fun W' hb => fit_any W' _ _ v.A v.cp v.es ((hgv.lies.below hN.bl).below hb) hmx hfi.1 hfi.2 (fun e he => ⟨(hgv.fits e he).1.idx, (hgv.fits e he).1.trm⟩)
      rw [← HLs.out] at HSt
      have HCo : Hid (∀ W', Below wr.heap.size wr W' → Calls Try.prog 54 #[.slice v.A v.es.length v.cp] W' (RetE v.es W')) := Lib.hid fun W' hb => copies_any W' v.A v.cp v.es ((hgv.lies.below hN.bl).below hb) (by have := hgv.few; omega) (fun e he => by have := (hgv.fits e he).2; omega)
      have HGv := Lib.hid hgv
      have hvl := hgv.few
      obtain ⟨a, ha⟩ : ∃ a, a = (Lg.lst l).1 := ⟨_, rfl⟩
      obtain ⟨b, hb⟩ : ∃ b, b = (Lg.lst l).2 := ⟨_, rfl⟩
      rw [← ha, ← hb] at HLa HFi HSt
      obtain ⟨q, hq⟩ : ∃ q, q = v.es.length := ⟨_, rfl⟩
      have Hq := Lib.hid hq
      rw [← hq] at HFi HCo hcl hle2 hvl
      obtain ⟨ft, hft2⟩ : ∃ ft, ft = Lg.fit a b v.es := ⟨_, rfl⟩
      rw [← hft2] at HFi HSt
      have hnl : (vse (gs.take j)).length = l.es.length := by rw [HLq.out]
      rw [hnl] at hle2
      have hfew2 := Hfew.out
      clear hv hgv hl hAt hSw hN ha hb hq hft2 hft hmx hfi hnl
      cases ft with
      | false =>
        have E : Hid (Lg.fit i t (vse gs) = false) := Lib.hid (HNot.out HSt.out)
        go_wp2_with (first | (go_at_call 25; refine HLa.out.mono ?_; rintro r w2 ⟨rfl, hb2⟩) | (go_at_call 53; refine (HFi.out _ hb2).mono ?_; rintro r w3 ⟨rfl, hb3⟩))
        go_ret2
        unfold RetNew
        rw [E.out]
        exact ⟨rfl, bnext (bnext HAt.out.2.2 hb2) hb3⟩
      | true =>
        go_upto_region 8 with (first | (go_at_call 25; refine HLa.out.mono ?_; rintro r w2 ⟨rfl, hb2⟩) | (go_at_call 53; refine (HFi.out _ hb2).mono ?_; rintro r w3 ⟨rfl, hb3⟩))
        have HB3 := Lib.hid (bnext hb2 hb3)
        clear hb2 hb3 HLa HFi hcl
        obtain ⟨A, c, hr, hs, hp, hS⟩ := (HAt.out.1.bel HB3.out).own
        obtain ⟨n2, hn2⟩ : ∃ n2, n2 = l.es.length := ⟨_, rfl⟩
        have HN2 := Lib.hid hn2
        rw [← hn2] at hr hs hle2
        have hb10 : n2 + q ≤ 1000 := by omega
        have HF : Hid (∀ w6 A8 c8, Below w3.heap.size w3 w6 → Sl w6 13 A8 q c8 (ec v.es) → w6.cell? ⟨p, 4, none⟩ = some (.slice A n2 c) ∧ Sl w6 13 A n2 c (ec l.es) ∧ Src Try.prog 13 23 (.slice A8 q c8) q (ec v.es) w6 ∧
            (∀ A' c' w8, Sl w8 13 A' (n2 + q) c' (ec l.es ++ ec v.es) → w6.grownBy w8 (blk A) → (∀ b, blk A' = some b → blk A = some b ∨ w6.heap.size ≤ b) → (∃ v, w8.cell? ⟨p, 4, none⟩ = some v) ∧ w8.frozen? ⟨p, 4, none⟩ = false ∧ NewI w (w8.setCell ⟨p, 4, none⟩ (.slice A' (n2 + q) c')) p ⟨i, t, m, vse (gs.take (j + 1))⟩)) := Lib.hid fun w6 A8 c8 hb6 h8 => by
          have hr6 := hr.bel hb6
          obtain ⟨p1, p2⟩ := put_src hs hb6 (W := w3) (hs := h8) (hm := Hq.out)
          refine ⟨hr6.cell 4 rfl, p1, p2, fun A' c' w8 hs8 hg8 hn8 => ?_⟩
          have e1 : (l.es ++ v.es).length = n2 + q := by rw [List.length_append, ← HN2.out, ← Hq.out]
          obtain ⟨x1, x2, x3⟩ := lg_grown (es := l.es ++ v.es) HAt.out.1 (Ks.bel (S := S) (bnext HB3.out hb6)) (by rw [← HN2.out]; exact hr6) hp hS hg8 (by rw [e1, ecL_app]; exact hs8) hn8 (fun z hz => by
            rcases List.mem_append.1 hz with hz | hz
            · exact HAt.out.1.fit.es z hz
            · exact HGv.out.fits z hz) (by rw [e1]; omega)
          rw [e1] at x3
          refine ⟨x1, x2, ?_⟩
          have := x3.newI HAt.out.2.2 HAt.out.2.1 (Nat.le_trans (Nat.le_trans HAt.out.2.2.size HB3.out.size) hb6.size)
          have e2 : ({ l with es := l.es ++ v.es } : Lg.L) = ⟨i, t, m, vse (gs.take (j + 1))⟩ := by rw [HSn.out, HLq.out]
          rw [← e2]; exact this
        have r4 : w3.cell? ⟨p, 4, none⟩ = some (.slice A n2 c) := hr.cell 4 rfl
        have HCo3 : Hid (∀ W', Below w3.heap.size w3 W' → Calls Try.prog 54 #[.slice v.A q v.cp] W' fun e w' => ∃ A c, e = .returned (.slice A q c) ∧ Sl w' 13 A q c (ec v.es) ∧ Below W'.heap.size W' w') := Lib.hid fun W' hb => (HCo.out W' (bnext HB3.out hb)).mono fun e w' ⟨A, c, h1, h2, h3, h4⟩ => by
          rw [← Hq.out] at h1 h2
          exact ⟨A, c, h1, h2, h4⟩
        clear hr hs hn2 HCo
        apply cutL
        case h =>
          intro key
          go_region_law (first
            | (refine step_app_sl rfl (.tmp 40) (.tmp 42) 23 23 rfl 49 i0 (.agg (entC En.zero)) 13 48 Try.underlying23 hi0 hz0 hz1 hz2 rfl (by decide) rfl HF6.out.1 _ q _ rfl HF6.out.2.1 (by simp only [maxLen]; omega) (by omega) ?_; intro A' c' w8 hS8 hg8 hn8; obtain ⟨⟨v8, k3⟩, k4, k5⟩ := HF6.out.2.2 A' c' w8 hS8 hg8 hn8; have HGx := Lib.hid k5; clear k5 hS8 hg8 hn8)
            | (go_simp; go_at_call 54; refine (HCo3.out _ (below_drew (Below.refl _ _))).mono ?_; rintro r w6 ⟨A8, c8, rfl, hs6, hb6⟩; obtain ⟨k1, k6⟩ := HF.out w6 A8 c8 (bnext (below_drew (Below.refl _ _)) hb6) hs6; have HF6 := Lib.hid k6; clear k6 hb6 hs6))
          all_goals
            refine forgetX (fun W => NewI w W p ⟨i, t, m, vse (gs.take (j + 1))⟩) HGx.out ?_
            clear HGx HF6 k1 k3 k4
            revert A8 c8 A' c'
            exact key.out
        case g =>
          intro A8 c8 A' c' W9 H9
          have H9' := Lib.hid H9
          clear H9 HF HCo3 r4 HB3
          go_wp2_with fail
          go_roundw
          case rel => exact ⟨j + 1, by omega, by go_num, HSt.out, H9'.out⟩
          case measure => simp [intOf]; omega
    · obtain rfl : j = n := by omega
      have e : vse (gs.take j) = vse gs := by rw [List.take_of_length_le (by rw [← Hn.out]; exact Nat.le_refl _)]
      rw [e] at hft hN
      have HN := Lib.hid hN
      have E := Lib.hid hft
      clear hft hN HFt e
      go_wp2_with fail
      go_ret2
      unfold RetNew
      rw [E.out]
      obtain ⟨S, h1, h2⟩ := HN.out.at_
      exact ⟨p, S, rfl, h1, h2, HN.out.bl⟩
end Go.Proofs.Ytlnohjboldenpaa
