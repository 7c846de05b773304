/-
  LogsPut walked.
-/
import Derived.Test.YtlnohjboldenpaaLLgPutU
import Derived.Test.YtlnohjboldenpaaLLgAgreeL
set_option linter.unusedSimpArgs false
set_option linter.unusedVariables false
namespace Go.Proofs.Ytlnohjboldenpaa
open Go.RowKit Go.Sort
theorem Sl.nilZ {W : World} {A : Option Addr} {n c : Nat} {xs : List Value} (h : Sl W 13 A n c xs) (hA : A = none) : n = 0 := by
  rcases h.lies with ⟨_, h0⟩ | ⟨b, off, hb, _⟩
  · have := h.le; omega
  · rw [hA] at hb; cases hb
theorem re_fits (P : Nat) (ms : List En.E) (hP : P + ms.length + 1 < Nm.top) (hf : ∀ e ∈ ms, En.Fits e ∧ e.body.size ≤ 1000) : ∀ e ∈ Lg.re P ms ms.length, En.Fits e ∧ e.body.size ≤ 1000 := by
  intro e he
  obtain ⟨k, hk, rfl⟩ := List.getElem_of_mem he
  have hk2 : k < ms.length := by rw [Lg.re_len] at hk; exact hk
  rw [Lg.re_get P ms ms.length k hk2, if_pos hk2]
  obtain ⟨h1, h2⟩ := hf _ (List.getElem_mem hk2)
  exact ⟨⟨by show P + k + 1 < _; omega, h1.trm, h1.kind, h1.slot⟩, h2⟩
set_option maxRecDepth 100000 in
set_option maxHeartbeats 100000000 in
theorem logsPut_any (w : World) (i : Nat) (hi : i < Nm.top) (t : Nat) (ht : t < Nm.top) (A : Option Addr) (cp : Nat) (es : List En.E) (g : GivenE w A cp es) (A2 : Option Addr) (cp2 : Nat) (ms : List En.E) (g2 : GivenE w A2 cp2 ms)
    (B : Option Addr) (cb : Nat) (rs : List Nat) (hB : Lies w B (bn rs)) (hr : ∀ n ∈ rs, n < 256) (hrl : rs.length ≤ maxLen) (x : Nat) (hx : x < 256) (v : Nat) (hv : v < Nm.top) :
    Calls Try.prog 4 #[.int .u64 (i : Int), .int .u64 (t : Int), .slice A es.length cp, .slice A2 ms.length cp2, .slice B rs.length cb, .int .u8 (x : Int), .int .u64 (v : Int)] w (RetL (.bool true) w) := by
  obtain ⟨i0, hi0, hz0, hz1, hz2⟩ := info_parts infoEntL
  have HG := Lib.hid (great_any w A cp es g.lies g.len fun e he => (g.fits e he).2)
  have HG2 : Hid (∀ W', Below w.heap.size w W' → Calls Try.prog 15 #[.slice A2 ms.length cp2] W' (RetL (.bool (Lg.great ms)) W')) := Lib.hid fun W' hb => great_any W' A2 cp2 ms (g2.lies.below hb) g2.len fun e he => (g2.fits e he).2
  have HAw := Lib.hid awake_any
  have HNo : Hid (Lg.great es = false → es.length ≤ 40 ∧ ∀ e ∈ es, e.body.size ≤ 100) := Lib.hid great_no
  have HNo2 : Hid (Lg.great ms = false → ms.length ≤ 40 ∧ ∀ e ∈ ms, e.body.size ≤ 100) := Lib.hid great_no
  have HV := Lib.hid hv
  unfold Nm.top at hi ht hv
  cases hgr : Lg.great es with
  | true =>
    rw [hgr] at HG
    clear hgr HNo HNo2 g g2 hB hr hrl HV
    go_enter Try.func4, Try.ntmps4
    go_wp2_with (first | (go_at_call 16; refine (HAw.out w1).mono ?_; rintro r w9 ⟨rfl, hb9⟩) | (go_at_call 15; refine HG.out.mono ?_; rintro r w1 ⟨rfl, hb1⟩))
    go_ret
    exact ⟨rfl, bnext hb1 hb9⟩
  | false =>
  rw [hgr] at HG
  cases hgr2 : Lg.great ms with
  | true =>
    rw [hgr2] at HG2
    clear hgr hgr2 HNo HNo2 g g2 hB hr hrl HV
    go_enter Try.func4, Try.ntmps4
    go_wp2_with (first | (go_at_call 16; refine (HAw.out w2).mono ?_; rintro r w9 ⟨rfl, hb9⟩) | (go_at_call 15; refine (HG2.out _ hb1).mono ?_; rintro r w2 ⟨rfl, hb2⟩) | (go_at_call 15; refine HG.out.mono ?_; rintro r w1 ⟨rfl, hb1⟩))
    go_ret
    exact ⟨rfl, bnext (bnext hb1 hb2) hb9⟩
  | false =>
  rw [hgr2] at HG2
  obtain ⟨hn40, hbod⟩ := HNo.out hgr
  obtain ⟨hk40, hbod2⟩ := HNo2.out hgr2
  have hln := g.len
  simp only [maxLen] at hln
  by_cases hi2 : i ≤ 1152921504606846976
  case neg =>
    have q1 : decide ((1152921504606846976 : Int) < (i : Int)) = true := by simp; omega
    have q2 : ((1152921504606846976 : Int) < (i : Int)) = True := by simp; omega
    clear hgr hgr2 HNo HNo2 g g2 hB hr hrl HV
    go_enter Try.func4, Try.ntmps4
    go_wp2_with (first | (go_at_call 16; refine (HAw.out w2).mono ?_; rintro r w9 ⟨rfl, hb9⟩) | (go_at_call 15; refine (HG2.out _ hb1).mono ?_; rintro r w2 ⟨rfl, hb2⟩) | (go_at_call 15; refine HG.out.mono ?_; rintro r w1 ⟨rfl, hb1⟩))
    go_ret
    exact ⟨rfl, bnext (bnext hb1 hb2) hb9⟩
  have q1 : decide ((1152921504606846976 : Int) < (i : Int)) = false := by simp; omega
  have q2 : ((1152921504606846976 : Int) < (i : Int)) = False := by simp; omega
  by_cases ht2 : t ≤ 1152921504606846976
  case neg =>
    have q3 : decide ((1152921504606846976 : Int) < (t : Int)) = true := by simp; omega
    have q4 : ((1152921504606846976 : Int) < (t : Int)) = True := by simp; omega
    clear hgr hgr2 HNo HNo2 g g2 hB hr hrl HV
    go_enter Try.func4, Try.ntmps4
    go_wp2_with (first | (go_at_call 16; refine (HAw.out w2).mono ?_; rintro r w9 ⟨rfl, hb9⟩) | (go_at_call 15; refine (HG2.out _ hb1).mono ?_; rintro r w2 ⟨rfl, hb2⟩) | (go_at_call 15; refine HG.out.mono ?_; rintro r w1 ⟨rfl, hb1⟩))
    go_ret
    exact ⟨rfl, bnext (bnext hb1 hb2) hb9⟩
  have q3 : decide ((1152921504606846976 : Int) < (t : Int)) = false := by simp; omega
  have q4 : ((1152921504606846976 : Int) < (t : Int)) = False := by simp; omega
  have HGr : Hid (∀ W', Below w.heap.size w W' → Calls Try.prog 23 #[.int .u64 (i : Int), .int .u64 (t : Int), .int .u8 7, .slice A es.length cp, .slice B rs.length cb] W' fun r w' => ∃ p, r = .returned (.pointer (some ⟨p, 0, none⟩)) ∧ NewI W' w' p (Lg.grown i t 7 es rs)) := Lib.hid fun W' hb =>
    grown_any W' i t 7 hi2 ht2 (by decide) A cp es (g.lies.below hb) hn40 (fun e he => ⟨(g.fits e he).1, by have := hbod e he; omega⟩) B cb rs (hB.below hb) hr hrl
  have HFm : Hid (∀ e ∈ ms, En.Fits e ∧ e.body.size ≤ 1000) := Lib.hid fun e he => ⟨(g2.fits e he).1, by have := hbod2 e he; omega⟩
  have HGm := Lib.hid g2
  obtain ⟨L, hL⟩ : ∃ L, L = Lg.grown i t 7 es rs := ⟨_, rfl⟩
  have HOk : Hid (Lg.Ok L) := Lib.hid (by rw [hL]; exact (Lg.grw_all i t 7 es rs es.length).1)
  have gi : L.idx = i := by rw [hL]; exact (Lg.grw_all i t 7 es rs es.length).2.1
  have gl : L.es.length = es.length := by rw [hL]; exact (Lg.grw_all i t 7 es rs es.length).2.2.2.2.1
  rw [← hL] at HGr
  obtain ⟨n, hnn⟩ : ∃ n, n = es.length := ⟨_, rfl⟩
  rw [← hnn] at HGr HG hn40 gl hln ⊢
  obtain ⟨k, hkk⟩ : ∃ k, k = ms.length := ⟨_, rfl⟩
  have Hk := Lib.hid hkk
  rw [← hkk] at HG2 hk40 ⊢
  obtain ⟨P, hP⟩ : ∃ P, P = i + x := ⟨_, rfl⟩
  have p1 : i ≤ P := by omega
  have p2 : P ≤ i + 255 := by omega
  have eP : (i : Int) + (x : Int) = (P : Int) := by rw [hP]; push_cast; rfl
  obtain ⟨X, hX⟩ : ∃ X, X = Lg.re P ms k := ⟨_, rfl⟩
  have HX := Lib.hid hX
  have HXl : Hid (k = X.length) := Lib.hid (by rw [hX, Lg.re_len, hkk])
  have HXf : Hid (∀ e ∈ X, En.Fits e ∧ e.body.size ≤ 1000) := Lib.hid (by rw [hX, hkk]; exact re_fits P ms (by unfold Nm.top; omega) HFm.out)
  obtain ⟨M, hM⟩ : ∃ M, M = Lg.putL L P v X := ⟨_, rfl⟩
  obtain ⟨F, hF⟩ : ∃ F, F = Lg.putF L P v X := ⟨_, rfl⟩
  obtain ⟨N, hN⟩ : ∃ N, N = Lg.putN L P v X := ⟨_, rfl⟩
  obtain ⟨b, hb⟩ : ∃ b, b = Lg.puts L P v X := ⟨_, rfl⟩
  have HMOk : Hid (Lg.Ok M) := Lib.hid (by rw [hM]; exact Lg.putL_ok HOk.out _ _ _)
  have HTw : Hid (Lg.puts M P v X = b ∧ Lg.putF M P v X = [] ∧ Lg.putN M P v X = N ∧ Lg.putL M P v X = M) := Lib.hid (by rw [hM, hb, hN]; exact Lg.putL_twice HOk.out _ _ _ (by omega))
  have HSa : Hid (b = false ∨ F = [] → M = L) := Lib.hid (by rw [hM, hb, hF]; exact Lg.putL_same _ _ _ _)
  have HEn : Hid (b = true → F ≠ [] → (Lg.lst M).1 = N ∧ F.length ≤ M.es.length ∧ M.es.drop (M.es.length - F.length) = F) := Lib.hid (by rw [hM, hb, hF, hN]; exact Lg.putL_end HOk.out _ _ _)
  have HFle : Hid (F.length ≤ k) := Lib.hid (by
    rw [hF]
    unfold Lg.putF
    split
    · rw [HXl.out]; exact lacking_len L X
    · exact Nat.zero_le _)
  have hml : M.es.length ≤ n + k := by rw [hM]; have := Lg.putL_len HOk.out P v X; rw [← HXl.out] at this; omega
  have HPt : Hid (∀ (W' : World) (p : Nat) (S : Nat → Prop) (A' : Option Addr) (c' : Nat), LgAt W' p S L → Sl W' 13 A' k c' (ec X) → (∀ b, blk A' = some b → ¬ S b) → Calls Try.prog 26 #[.pointer (some ⟨p, 0, none⟩), .int .u64 (P : Int), .int .u64 (v : Int), .slice A' k c'] W' fun r w' => ∃ A c S', r = .returned (.tuple #[.bool b, .int .u64 (N : Int), .slice A F.length c]) ∧ Sl w' 13 A F.length c (ec F) ∧ (∀ b, blk A = some b → W'.heap.size ≤ b ∧ ¬ S' b) ∧ LgAt w' p S' M ∧ (∀ k, S' k → S k ∨ W'.heap.size ≤ k) ∧ Ks S W' w') := Lib.hid fun W' p S A' c' hl hs hz => by
    have := put_any W' hl P v (by unfold Nm.top; omega) HV.out A' c' X ⟨hs.liesV, fun hA => by rw [← HXl.out]; exact hs.nilZ hA, by rw [← HXl.out]; exact hs.le, hz, HXf.out, by rw [← HXl.out]; omega⟩ (by rw [← HXl.out]; omega)
    rw [← HXl.out] at this
    refine this.mono fun r w' h => ?_
    have := h.uni hl
    rw [← hM, ← hF, ← hN, ← hb] at this
    exact this
  have HPu : Hid (∀ (W' : World) (p : Nat) (S : Nat → Prop) (A' : Option Addr) (c' : Nat), LgAt W' p S M → Sl W' 13 A' k c' (ec X) → (∀ b, blk A' = some b → ¬ S b) → Calls Try.prog 26 #[.pointer (some ⟨p, 0, none⟩), .int .u64 (P : Int), .int .u64 (v : Int), .slice A' k c'] W' fun r w' => ∃ A c S', r = .returned (.tuple #[.bool b, .int .u64 (N : Int), .slice A 0 c]) ∧ LgAt w' p S' M ∧ (∀ k, S' k → S k ∨ W'.heap.size ≤ k) ∧ Ks S W' w') := Lib.hid fun W' p S A' c' hl hs hz => by
    have := put_any W' hl P v (by unfold Nm.top; omega) HV.out A' c' X ⟨hs.liesV, fun hA => by rw [← HXl.out]; exact hs.nilZ hA, by rw [← HXl.out]; exact hs.le, hz, HXf.out, by rw [← HXl.out]; omega⟩ (by rw [← HXl.out]; omega)
    rw [← HXl.out] at this
    refine this.mono fun r w' h => ?_
    obtain ⟨A, c, S', h1, _, _, h4, h5, h6⟩ := h.uni hl
    obtain ⟨t1, t2, t3, t4⟩ := HTw.out
    rw [t4] at h4
    refine ⟨A, c, S', ?_, h4, h5, h6⟩
    rw [h1, t1, t2, t3]
    rfl
  obtain ⟨n3, hn3⟩ : ∃ n3, n3 = M.es.length := ⟨_, rfl⟩
  have HN3 := Lib.hid hn3
  rw [← hn3] at hml
  have HFrL : Hid (∀ (W' : World) (p : Nat) (S : Nat → Prop), LgAt W' p S L → Calls Try.prog 24 #[.pointer (some ⟨p, 0, none⟩), .int .u64 0, .int .i64 1048576] W' fun r w' => ∃ A c, r = .returned (.slice A n c) ∧ Sl w' 13 A n c (ec L.es) ∧ (∀ b, blk A = some b → W'.heap.size ≤ b) ∧ Below W'.heap.size W' w') := Lib.hid fun W' p S hl => (from_any W' hl 0 1048576 (by unfold Nm.top; omega) (by omega)).mono fun r w' h => by
    rw [Lg.frm_all L _ (by omega)] at h
    unfold RetE at h
    rw [gl] at h
    exact h
  have HFrM : Hid (∀ (W' : World) (p : Nat) (S : Nat → Prop), LgAt W' p S M → Calls Try.prog 24 #[.pointer (some ⟨p, 0, none⟩), .int .u64 0, .int .i64 1048576] W' fun r w' => ∃ A c, r = .returned (.slice A n3 c) ∧ Sl w' 13 A n3 c (ec M.es) ∧ (∀ b, blk A = some b → W'.heap.size ≤ b) ∧ Below W'.heap.size W' w') := Lib.hid fun W' p S hl => (from_any W' hl 0 1048576 (by unfold Nm.top; omega) (by omega)).mono fun r w' h => by
    rw [Lg.frm_all M _ (by rw [← HN3.out]; omega)] at h
    unfold RetE at h
    rw [← HN3.out] at h
    exact h
  have HSmM : Hid (∀ A B ca cb W, Sl W 13 A n3 ca (ec M.es) → Sl W 13 B n3 cb (ec M.es) → Calls Try.prog 21 #[.slice A n3 ca, .slice B n3 cb] W (RetL (.bool true) W)) := Lib.hid fun A B ca cb W h1 h2 => by
    have := same_any W A B ca cb M.es M.es h1.liesV h2.liesV (by rw [← HN3.out]; simp only [maxLen]; omega) (by rw [← HN3.out]; simp only [maxLen]; omega)
    rw [decide_eq_true rfl, ← HN3.out] at this; exact this
  have Hgl := Lib.hid gl
  clear hL hnn hkk HNo HNo2 hgr hgr2 hbod hbod2 g g2 hB hr hrl hX hM hF hN hb hP hn3 gl gi HTw HFm
  go_enter Try.func4, Try.ntmps4
  go_upto_region 3 with (first | (go_at_call 15; refine (HG2.out _ hb1).mono ?_; rintro r w2 ⟨rfl, hb2⟩) | (go_at_call 15; refine HG.out.mono ?_; rintro r w1 ⟨rfl, hb1⟩))
  have hb12 := Lib.hid (bnext hb1 hb2)
  clear hb1 hb2 HG HG2 q1 q2 q3 q4
  go_upto_region 7 with (go_at_call 23; refine (HGr.out _ hb12.out).mono ?_; rintro r w3 ⟨pa, rfl, hI3⟩)
  obtain ⟨⟨Sa, a1, a2⟩, b3⟩ := hI3
  have HA := Lib.hid a1
  have HB3 := Lib.hid (bnext hb12.out b3)
  have HSz := Lib.hid (fun k (h : Sa k) => (Nat.le_trans hb12.out.size (a2 k h) : w.heap.size ≤ k))
  clear a1 a2 b3 hb12 HGr eP
  have HN : Hid (Sl (w3.alloc (.cells #[] 49)) 13 (some ⟨w3.heap.size, 0, none⟩) 0 0 [] ∧ Src Try.prog 13 23 (.slice A2 k cp2) k (ec ms) (w3.alloc (.cells #[] 49))) := Lib.hid
    ⟨⟨rfl, Nat.le_refl _, Nat.zero_le _, .inr ⟨w3.heap.size, 0, rfl, by rw [World.size_alloc]; omega, (fun j u hu => by simp at hu), fun j hj => by omega⟩⟩,
     src_sl Try.underlying23 (by rw [ecL_len, ← Hk.out]) ((HGm.out.lies.below HB3.out).below (bnew (Below.refl _ _) _)) (fun hA => by rw [Hk.out]; exact HGm.out.nil hA) (ecL_one _)⟩
  go_upto_region 8 with (at_builtin; refine wpList_app_sl rfl (.tmp 58) (.tmp 59) 23 23 rfl 49 i0 (.agg (entC En.zero)) 13 48 Try.underlying23 hi0 hz0 hz1 hz2 rfl (by decide) rfl HN.out.1 _ k _ rfl HN.out.2 (by simp only [maxLen]; omega) (by omega) ?_; intro A4 c4 w4 h4 g4 n4; rw [Nat.zero_add] at h4 ⊢; rw [List.nil_append] at h4)
  have b4 : Below w3.heap.size w3 w4 := Below.grown (bnew (Below.refl _ _) _) g4 (by rw [World.size_alloc]; omega) (fun k hk => by rw [blk_some] at hk; injection hk with hk; omega)
  have z4 : ∀ b, blk A4 = some b → w3.heap.size ≤ b := fun b hb => by
    rcases n4 b hb with h | h
    · rw [blk_some] at h; injection h with h; omega
    · rw [World.size_alloc] at h; omega
  have L4 := Lib.hid (And.intro h4 (And.intro z4 b4))
  clear h4 z4 b4 n4 g4 HN HGm i0 hi0 hz0 hz1 hz2
  go_wp2_with fail
  go_loopw [18] (fun iv wr => ∃ (j : Nat), j ≤ k ∧ iv = .int .i64 (j : Int) ∧ Sl wr 13 A4 k c4 (ec (Lg.re P ms j)) ∧ Ks (fun q => blk A4 = some q) w4 wr) (fun iv _ => k - (intOf iv).toNat)
  case atStart => exact ⟨0, Nat.zero_le _, rfl, by rw [Lg.re_zero]; exact L4.out.1, Ks.refl _ _⟩
  case round =>
    obtain ⟨j, hjn, rfl, hS, hK⟩ := hrel
    have HS := Lib.hid hS
    have HK := Lib.hid hK
    clear hS hK
    by_cases hlt : j < k
    · have hA4 : ∃ b off, A4 = some ⟨b, off, none⟩ ∧ ∀ q, q < k * 13 → (wr.cell? ⟨b, off + q, none⟩).isSome = true ∧ wr.frozen? ⟨b, off + q, none⟩ = false := by
        rcases HS.out.lies with ⟨_, h0⟩ | ⟨b, off, h, _, _, hf⟩
        · have := HS.out.le; omega
        · exact ⟨b, off, h, fun q hq => hf q (by have := HS.out.le; omega)⟩
      obtain ⟨g4, o4, rfl, hcf⟩ := hA4
      obtain ⟨h1, f4⟩ := hcf (j * 13) (by omega)
      obtain ⟨v4, k4⟩ := Option.isSome_iff_exists.1 h1
      have hc4 : k ≤ c4 := HS.out.le
      clear h1 hcf
      have HS2 : Hid (Sl (wr.setCell ⟨g4, o4 + j * 13, none⟩ (.int .u64 ((P + j + 1 : Nat) : Int))) 13 (some ⟨g4, o4, none⟩) k c4 (ec (Lg.re P ms (j + 1)))) := Lib.hid (by
        have hj2 : j < ms.length := by rw [← Hk.out]; exact hlt
        have := HS.out.set (j * 13) (by omega) (.int .u64 ((P + j + 1 : Nat) : Int))
        rw [Nat.mul_comm j 13, ec_setIdx _ j (by rw [Lg.re_len]; exact hj2), Lg.re_get P ms j j hj2, if_neg (Nat.lt_irrefl j)] at this
        rw [Lg.re_step P ms j hj2, Nat.mul_comm j 13]
        exact this)
      have eV : ((P : Int) + (j : Int) + 1) = ((P + j + 1 : Nat) : Int) := by push_cast; rfl
      have EV := Lib.hid eV
      clear eV
      go_upto_region 10 with (fail)
      refine forget (fun W => Sl W 13 (some ⟨g4, o4, none⟩) k c4 (ec (Lg.re P ms (j + 1))) ∧ Ks (fun q => blk (some ⟨g4, o4, none⟩) = some q) w4 W) ⟨by have := HS2.out; rw [← EV.out] at this; exact this, HK.out.set (p := ⟨g4, o4 + j * 13, none⟩) rfl _⟩ ?_
      intro W10 ⟨hs10, hk10⟩
      have HS10 := Lib.hid hs10
      have HK10 := Lib.hid hk10
      clear hs10 hk10 HS HK HS2 EV k4 f4
      go_wp2_with fail
      go_roundw
      case rel => exact ⟨j + 1, by omega, by go_num, HS10.out, HK10.out⟩
      case measure => simp [intOf]; omega
    · obtain rfl : j = k := by omega
      have HSX : Hid (Sl wr 13 A4 j c4 (ec X)) := Lib.hid (by rw [HX.out]; exact HS.out)
      have hAt : LgAt wr pa Sa L := (HA.out.bel L4.out.2.2).ks HK.out fun q hq hb => by have h1 := HA.out.lt q hq; have h2 := L4.out.2.1 q hb; omega
      have HAt := Lib.hid hAt
      have HAw4 : Hid (∀ q, blk A4 = some q → ¬ Sa q ∧ q < wr.heap.size) := Lib.hid fun q hq => ⟨fun hs => by have h1 := HA.out.lt q hs; have h2 := L4.out.2.1 q hq; omega, HSX.out.lt hq⟩
      have HBr : Hid (Below w.heap.size w wr) := Lib.hid (HK.out.below (bnext HB3.out L4.out.2.2) fun q hq => Nat.le_trans HB3.out.size (L4.out.2.1 q hq))
      have HSz2 : Hid (∀ q, Sa q → w.heap.size ≤ q) := HSz
      have HLaL : Hid (∀ (W' : World), LgAt W' pa Sa L → Calls Try.prog 25 #[.pointer (some ⟨pa, 0, none⟩)] W' (RetL (.tuple #[.int .u64 ((Lg.lst L).1 : Int), .int .u64 ((Lg.lst L).2 : Int)]) W')) := Lib.hid fun W' h => last_any W' h
      have HLaM : Hid (∀ (W' : World) (S : Nat → Prop), LgAt W' pa S M → Calls Try.prog 25 #[.pointer (some ⟨pa, 0, none⟩)] W' (RetL (.tuple #[.int .u64 ((Lg.lst M).1 : Int), .int .u64 ((Lg.lst M).2 : Int)]) W')) := Lib.hid fun W' S h => last_any W' h
      have HFl : Hid (F.length ≤ j) := Lib.hid HFle.out
      obtain ⟨f, hf⟩ : ∃ f, f = F.length := ⟨_, rfl⟩
      have Hf := Lib.hid hf
      rw [← hf] at HPt
      obtain ⟨e1, he1⟩ : ∃ e1, e1 = (Lg.lst L).1 := ⟨_, rfl⟩
      obtain ⟨t1, ht1⟩ : ∃ t1, t1 = (Lg.lst L).2 := ⟨_, rfl⟩
      obtain ⟨e2, he2⟩ : ∃ e2, e2 = (Lg.lst M).1 := ⟨_, rfl⟩
      obtain ⟨t2, ht2⟩ : ∃ t2, t2 = (Lg.lst M).2 := ⟨_, rfl⟩
      rw [← he1, ← ht1] at HLaL
      rw [← he2, ← ht2] at HLaM
      have HEq : Hid (b = false ∨ f = 0 → e1 = e2 ∧ L.es = M.es ∧ n = n3) := Lib.hid fun h => by
        have hm := HSa.out (h.imp id fun h0 => List.eq_nil_of_length_eq_zero (by rw [← Hf.out]; exact h0))
        rw [he1, he2, hm]
        exact ⟨rfl, rfl, by rw [← Hgl.out, HN3.out, hm]⟩
      have HEd : Hid (b = true → f ≠ 0 → e2 = N ∧ f ≤ n3 ∧ M.es.drop (n3 - f) = F) := Lib.hid fun h1 h2 => by
        have := HEn.out h1 (fun h0 => h2 (by rw [Hf.out, h0]; rfl))
        rw [← he2, ← HN3.out, ← Hf.out] at this
        exact this
      clear hAt HS HK HA L4 HB3 HSz hf he1 ht1 he2 ht2 HSa HEn HFle hlt hjn
      go_upto_region 13 with (go_at_call 24; refine (HFrL.out _ _ _ HAt.out).mono ?_; rintro r w5 ⟨A5, c5, rfl, l5, z5, b5⟩)
      go_upto_region 14 with (go_at_call 25; refine (HLaL.out _ (HAt.out.bel b5)).mono ?_; rintro r w6 ⟨rfl, b6⟩)
      have b56 := bnext b5 b6
      have HAt6 := Lib.hid (HAt.out.bel b56)
      have HS6 := Lib.hid (HSX.out.below b56)
      have HB6 := Lib.hid (bnext HBr.out b56)
      have HL5 := Lib.hid (l5.below b6)
      have HZ5 : Hid (∀ q, blk A5 = some q → ¬ Sa q ∧ q < w6.heap.size) := Lib.hid fun q hq => ⟨fun hs => by have h1 := HAt.out.lt q hs; have h2 := z5 q hq; omega, HL5.out.lt hq⟩
      have HA46 : Hid (∀ q, blk A4 = some q → ¬ Sa q ∧ q < w6.heap.size) := Lib.hid fun q hq => ⟨(HAw4.out q hq).1, HS6.out.lt hq⟩
      clear b5 b6 b56 l5 z5 HAt HSX HBr HFrL HLaL HAw4
      go_upto_region 15 with (go_at_call 26; refine (HPt.out _ _ _ _ _ HAt6.out HS6.out fun q hq => (HA46.out q hq).1).mono ?_; rintro r w7 ⟨A7, c7, S7, rfl, l7, z7, at7, s7, k7⟩)
      have HS7 := Lib.hid (HS6.out.keep fun q hq => k7.block q (HA46.out q hq).2 (HA46.out q hq).1)
      have HL57 := Lib.hid (HL5.out.keep fun q hq => k7.block q (HZ5.out q hq).2 (HZ5.out q hq).1)
      have HB7 := Lib.hid (k7.below HB6.out HSz2.out)
      have HA47 : Hid (∀ q, blk A4 = some q → ¬ S7 q) := Lib.hid fun q hq hs => (s7 q hs).elim (HA46.out q hq).1 fun h => by have := (HA46.out q hq).2; omega
      have HA57 : Hid (∀ q, blk A5 = some q → ¬ S7 q) := Lib.hid fun q hq hs => (s7 q hs).elim (HZ5.out q hq).1 fun h => by have := (HZ5.out q hq).2; omega
      have HA77 : Hid (∀ q, blk A7 = some q → ¬ S7 q) := Lib.hid fun q hq => (z7 q hq).2
      have HSz7 : Hid (∀ q, S7 q → w.heap.size ≤ q) := Lib.hid fun q hq => (s7 q hq).elim (HSz2.out q) fun h => Nat.le_trans HB6.out.size h
      have HAt7 := Lib.hid at7
      have HL7 := Lib.hid l7
      clear l7 z7 at7 s7 k7 HS6 HL5 HB6 HAt6 HZ5 HA46 HPt HSz2
      go_upto_region 16 with (go_at_call 24; refine (HFrM.out _ _ _ HAt7.out).mono ?_; rintro r w8 ⟨A8, c8, rfl, l8, z8, b8⟩)
      have HA88 : Hid (∀ q, blk A8 = some q → ¬ S7 q) := Lib.hid fun q hq hs => by have h1 := HAt7.out.lt q hs; have h2 := z8 q hq; omega
      have HAt8 := Lib.hid (HAt7.out.bel b8)
      have HS8 := Lib.hid (HS7.out.below b8)
      have HL58 := Lib.hid (HL57.out.below b8)
      have HL78 := Lib.hid (HL7.out.below b8)
      have HL88 := Lib.hid l8
      have HB8 := Lib.hid (bnext HB7.out b8)
      clear b8 l8 z8 HAt7 HS7 HL57 HL7 HB7
      go_upto_region 17 with (go_at_call 26; refine (HPu.out _ _ _ _ _ HAt8.out HS8.out HA47.out).mono ?_; rintro r w9 ⟨A9, c9, S9, rfl, at9, s9, k9⟩)
      have HB9 := Lib.hid (k9.below HB8.out HSz7.out)
      have HAt9 := Lib.hid at9
      have HL59 := Lib.hid (HL58.out.keep fun q hq => k9.block q (HL58.out.lt hq) (HA57.out q hq))
      have HL79 := Lib.hid (HL78.out.keep fun q hq => k9.block q (HL78.out.lt hq) (HA77.out q hq))
      have HL89 := Lib.hid (HL88.out.keep fun q hq => k9.block q (HL88.out.lt hq) (HA88.out q hq))
      clear at9 s9 k9 HB8 HAt8 HS8 HL58 HL78 HL88 HA47 HA57 HA77 HA88 HSz7 HPu
      go_upto_region 19 with (first
        | (go_at_call 21; refine (HSmM.out _ _ _ _ _ (HL89.out.below b10) l10).mono ?_; rintro r w11 ⟨rfl, b11⟩)
        | (go_at_call 24; refine (HFrM.out _ _ _ HAt9.out).mono ?_; rintro r w10 ⟨A10, c10, rfl, l10, z10, b10⟩))
      have bb := bnext b10 b11
      have HB11 := Lib.hid (bnext HB9.out bb)
      have HAt11 := Lib.hid (HAt9.out.bel bb)
      have HL5 := Lib.hid (HL59.out.below bb)
      have HL7 := Lib.hid (HL79.out.below bb)
      have HL8 := Lib.hid (HL89.out.below bb)
      clear bb b10 b11 l10 z10 HB9 HAt9 HL59 HL79 HL89 HFrM
      have HMi : Hid (∀ e ∈ M.es, e.idx < Nm.top ∧ e.trm < Nm.top) := Lib.hid fun e he => ⟨(HAt11.out.fit.es e he).1.idx, (HAt11.out.fit.es e he).1.trm⟩
      go_wp2_with fail
      go_loopw [29] (fun iv wq => ∃ (d : Nat), 1 ≤ d ∧ (d ≤ n3 ∨ d = 1) ∧ iv = .int .i64 (d : Int) ∧ Below w11.heap.size w11 wq) (fun iv _ => n3 + 1 - (intOf iv).toNat)
      case atStart => exact ⟨1, Nat.le_refl _, .inr rfl, rfl, Below.refl _ _⟩
      case round =>
        obtain ⟨d, hd1, hd2, rfl, hW⟩ := hrel
        have HW := Lib.hid hW
        clear hW
        by_cases hlt : d < n3
        · have hde : d < M.es.length := by rw [← HN3.out]; exact hlt
          obtain ⟨g8, o8, rfl, hE⟩ := ((HL8.out.below HW.out).liesV).ent d hde
          obtain ⟨g8', o8', he, hE2⟩ := ((HL8.out.below HW.out).liesV).ent (d - 1) (by omega)
          obtain ⟨rfl, rfl⟩ : g8 = g8' ∧ o8 = o8' := by injection he with he; injection he with h1 h2; exact ⟨h1, h2⟩
          have hok : Lg.fit M.idx M.trm M.es = true := HMOk.out
          have s1 := Lg.fit_get hok d hde
          have s2 := Lg.fit_get hok (d - 1) (by omega)
          have s3 := Lg.fit_step hok (d - 1) (by omega)
          have s4 := HMi.out _ (List.getElem_mem hde)
          simp only [show d - 1 + 1 = d by omega] at s3
          obtain ⟨y, hy⟩ : ∃ y, y = M.es[d] := ⟨_, rfl⟩
          obtain ⟨x, hx⟩ : ∃ x, x = M.es[d - 1]'(by omega) := ⟨_, rfl⟩
          rw [← hy] at s1 s3 s4 hE
          rw [← hx] at s2 s3 hE2
          have q1 : decide (y.trm < x.trm) = false := decide_eq_false (by omega)
          have q2 : ((y.trm : Int) < (x.trm : Int)) = False := by simp; omega
          have q3 : ((y.idx : Int) != (x.idx : Int) + 1) = false := by simp; omega
          have q4 : ((y.idx : Int) = (x.idx : Int) + 1) = True := by simp; omega
          have u1 : x.idx + 1 < 18446744073709551616 := by have := s4.1; unfold Nm.top at this; omega
          have e2' : ((d : Int) - 1).toNat = d - 1 := by omega
          obtain ⟨_, y0, y1, _⟩ := hE
          obtain ⟨_, x0, x1, _⟩ := hE2
          have hc8 : n3 ≤ c8 := HL8.out.le
          clear hx hy hok s3 s4 he
          go_upto_region 22 with (fail)
          go_quiet (fail)
          go_wp2_with fail
          go_roundw
          case rel => exact ⟨d + 1, by omega, .inl (by omega), by go_num, below_drewN HW.out _⟩
          case measure => simp [intOf]; omega
        · have HB := Lib.hid (bnext HB11.out HW.out)
          have HAt := Lib.hid (HAt11.out.bel HW.out)
          have H5 := Lib.hid (HL5.out.below HW.out)
          have H7 := Lib.hid (HL7.out.below HW.out)
          have H8 := Lib.hid (HL8.out.below HW.out)
          clear HL5 HL7 HL8 HB11 HAt11 HMi HSmM HMOk
          go_upto_region 25 with (go_at_call 25; refine (HLaM.out _ _ HAt.out).mono ?_; rintro r x1 ⟨rfl, y1⟩)
          have HB1 := Lib.hid (bnext HB.out y1)
          have K5 := Lib.hid (H5.out.below y1)
          have K7 := Lib.hid (H7.out.below y1)
          have K8 := Lib.hid (H8.out.below y1)
          clear y1 HB HAt H5 H7 H8 HW HLaM
          have hn3 : M.es.length ≤ 80 := by rw [← HN3.out]; omega
          have HSm5 : Hid (b = false ∨ f = 0 → Calls Try.prog 21 #[.slice A5 n c5, .slice A8 n3 c8] x1 (RetL (.bool true) x1)) := Lib.hid fun h => by
            obtain ⟨_, h2, _⟩ := HEq.out h
            have := same_any x1 A5 A8 c5 c8 L.es M.es K5.out.liesV K8.out.liesV (by rw [h2]; simp only [maxLen]; omega) (by simp only [maxLen]; omega)
            rw [decide_eq_true h2, Hgl.out, ← HN3.out] at this
            exact this
          cases b with
          | false =>
            have h1 := (HEq.out (.inl rfl)).1
            subst h1
            have HS := Lib.hid (HSm5.out (.inl rfl))
            clear HSm5 HEq HEd
            go_wp2_with (first
              | (go_at_call 16; refine (HAw.out x2).mono ?_; rintro r x3 ⟨rfl, y3⟩)
              | (go_at_call 21; refine HS.out.mono ?_; rintro r x2 ⟨rfl, y2⟩))
            go_ret
            exact ⟨rfl, bnext (bnext HB1.out y2) y3⟩
          | true =>
            by_cases hf0 : f = 0
            · have h1 := (HEq.out (.inr hf0)).1
              subst h1
              have HS := Lib.hid (HSm5.out (.inr hf0))
              have q1 : ((f : Int) == 0) = true := by simp; omega
              have q2 : ((f : Int) = 0) = True := by simp; omega
              clear HSm5 HEq HEd hf0
              go_wp2_with (first
                | (go_at_call 16; refine (HAw.out x2).mono ?_; rintro r x3 ⟨rfl, y3⟩)
                | (go_at_call 21; refine HS.out.mono ?_; rintro r x2 ⟨rfl, y2⟩))
              go_ret
              exact ⟨rfl, bnext (bnext HB1.out y2) y3⟩
            · obtain ⟨h1, h2, h3⟩ := HEd.out rfl hf0
              have q1 : ((f : Int) == 0) = false := by simp; omega
              have q2 : ((f : Int) = 0) = False := by simp; omega
              subst h1
              obtain ⟨g8, o8, rfl⟩ : ∃ g o, A8 = some ⟨g, o, none⟩ := by
                rcases K8.out.lies with ⟨_, h0⟩ | ⟨g, o, h, _⟩
                · have := K8.out.le; omega
                · exact ⟨g, o, h⟩
              have hc8 : n3 ≤ c8 := K8.out.le
              have e5 : ¬ c8 = n3 - f := by omega
              have HS : Hid (Calls Try.prog 21 #[.slice A7 f c7, .slice (some ⟨g8, o8 + (n3 - f) * 13, none⟩) f (c8 - (n3 - f))] x1 (RetL (.bool true) x1)) := Lib.hid (by
                have hl := lies_part K8.out.liesV (n3 - f) (by have := HN3.out; omega) (by rw [← HN3.out]; exact K8.out.le)
                rw [h3, if_neg e5] at hl
                have := same_any x1 A7 (some ⟨g8, o8 + (n3 - f) * 13, none⟩) c7 (c8 - (n3 - f)) F F K7.out.liesV hl (by rw [← Hf.out]; simp only [maxLen]; omega) (by rw [← Hf.out]; simp only [maxLen]; omega)
                rw [decide_eq_true rfl, ← Hf.out] at this
                exact this)
              have e4 : n3 - (n3 - f) = f := by omega
              clear HSm5 HEq HEd h3
              go_wp2_with (first
                | (go_at_call 16; refine (HAw.out x2).mono ?_; rintro r x3 ⟨rfl, y3⟩)
                | (go_at_call 21; refine HS.out.mono ?_; rintro r x2 ⟨rfl, y2⟩))
              go_ret
              exact ⟨rfl, bnext (bnext HB1.out y2) y3⟩
theorem logsPut_walk (w : World) (a0 : Int) (h0 : (Lit.int .u64 a0).wf = true) (a1 : Int) (h1 : (Lit.int .u64 a1).wf = true) (A : Option Addr) (cp : Nat) (es : List En.E) (g : GivenE w A cp es) (A2 : Option Addr) (cp2 : Nat) (ms : List En.E) (g2 : GivenE w A2 cp2 ms)
    (B : Option Addr) (cb : Nat) (rs : List Nat) (hB : Lies w B (bn rs)) (hr : ∀ n ∈ rs, n < 256) (hrl : rs.length ≤ maxLen) (a3 : Int) (h3 : (Lit.int .u8 a3).wf = true) (a4 : Int) (h4 : (Lit.int .u64 a4).wf = true) :
    Calls Try.prog 4 #[.int .u64 a0, .int .u64 a1, .slice A es.length cp, .slice A2 ms.length cp2, .slice B rs.length cb, .int .u8 a3, .int .u64 a4] w fun e w' => e = .returned (.bool true) ∧ Below w.heap.size w w' := by
  obtain ⟨n0, rfl, z0⟩ := u64_nat h0
  obtain ⟨n1, rfl, z1⟩ := u64_nat h1
  obtain ⟨n3, rfl, z3⟩ := u8_nat h3
  obtain ⟨n4, rfl, z4⟩ := u64_nat h4
  exact logsPut_any w n0 z0 n1 z1 A cp es g A2 cp2 ms g2 B cb rs hB hr hrl n3 z3 n4 z4
end Go.Proofs.Ytlnohjboldenpaa
