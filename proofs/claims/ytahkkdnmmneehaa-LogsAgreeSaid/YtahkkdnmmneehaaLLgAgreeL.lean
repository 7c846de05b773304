/-
  LogsAgree walked.
-/
import Derived.Test.YtahkkdnmmneehaaLLgCutL
import Derived.Test.YtahkkdnmmneehaaLLgPutR
import Derived.Lib.QuietBelow
set_option linter.unusedSimpArgs false
set_option linter.unusedVariables false
namespace Go.Proofs.Ytahkkdnmmneehaa
open Go.RowKit Go.Sort
theorem frm_fit {W : World} {p : Nat} {S : Nat → Prop} {l : Lg.L} (h : LgAt W p S l) (i m : Nat) : ∀ e ∈ Lg.frm l i m, En.Fits e ∧ e.body.size ≤ 1000 := fun e he => h.fit.es e (List.mem_of_mem_drop (List.mem_of_mem_take he))
set_option maxRecDepth 100000 in
set_option maxHeartbeats 100000000 in
theorem logsAgree_any (w : World) (i : Nat) (hi : i < Nm.top) (t : Nat) (ht : t < Nm.top) (m : Nat) (hm : m < 256) (A : Option Addr) (cp : Nat) (es : List En.E) (g : GivenE w A cp es) (A2 : Option Addr) (cp2 : Nat) (ms : List En.E) (g2 : GivenE w A2 cp2 ms)
    (B : Option Addr) (cb : Nat) (rs : List Nat) (hB : Lies w B (bn rs)) (hr : ∀ n ∈ rs, n < 256) (hrl : rs.length ≤ maxLen) (B2 : Option Addr) (cb2 : Nat) (os : List Nat) (hB2 : Lies w B2 (bn os)) (hr2 : ∀ n ∈ os, n < 256) (hrl2 : os.length ≤ maxLen) (x : Nat) (hx : x < 256) (y : Nat) (hy : y < 256) :
    Calls Try.prog 6 #[.int .u64 (i : Int), .int .u64 (t : Int), .int .u8 (m : Int), .slice A es.length cp, .slice A2 ms.length cp2, .slice B rs.length cb, .slice B2 os.length cb2, .int .u8 (x : Int), .int .u8 (y : Int)] w (RetL (.bool true) w) := by
  have HG := Lib.hid (great_any w A cp es g.lies g.len fun e he => (g.fits e he).2)
  have HG2 : Hid (∀ W', Below w.heap.size w W' → Calls Try.prog 11 #[.slice A2 ms.length cp2] W' (RetL (.bool (Lg.great ms)) W')) := Lib.hid fun W' hb => great_any W' A2 cp2 ms (g2.lies.below hb) g2.len fun e he => (g2.fits e he).2
  have HAw := Lib.hid awake_any
  have HNo : Hid (Lg.great es = false → es.length ≤ 40 ∧ ∀ e ∈ es, e.body.size ≤ 100) := Lib.hid great_no
  have HNo2 : Hid (Lg.great ms = false → ms.length ≤ 40 ∧ ∀ e ∈ ms, e.body.size ≤ 100) := Lib.hid great_no
  unfold Nm.top at hi ht
  cases hgr : Lg.great es with
  | true =>
    rw [hgr] at HG
    clear hgr HNo HNo2 g g2 hB hB2 hr hr2 hrl hrl2
    go_enter Try.func6, Try.ntmps6
    go_wp2_with (first | (go_at_call 12; refine (HAw.out w1).mono ?_; rintro r w9 ⟨rfl, hb9⟩) | (go_at_call 11; refine HG.out.mono ?_; rintro r w1 ⟨rfl, hb1⟩))
    go_ret
    exact ⟨rfl, bnext hb1 hb9⟩
  | false =>
  rw [hgr] at HG
  cases hgr2 : Lg.great ms with
  | true =>
    rw [hgr2] at HG2
    clear hgr hgr2 HNo HNo2 g g2 hB hB2 hr hr2 hrl hrl2
    go_enter Try.func6, Try.ntmps6
    go_wp2_with (first | (go_at_call 12; refine (HAw.out w2).mono ?_; rintro r w9 ⟨rfl, hb9⟩) | (go_at_call 11; refine (HG2.out _ hb1).mono ?_; rintro r w2 ⟨rfl, hb2⟩) | (go_at_call 11; refine HG.out.mono ?_; rintro r w1 ⟨rfl, hb1⟩))
    go_ret
    exact ⟨rfl, bnext (bnext hb1 hb2) hb9⟩
  | false =>
  rw [hgr2] at HG2
  obtain ⟨hn40, hbod⟩ := HNo.out hgr
  obtain ⟨hk40, hbod2⟩ := HNo2.out hgr2
  have hln := g.len
  simp only [maxLen] at hln
  by_cases hi2 : i ≤ 1152921504606846976
  case neg =>
    have q1 : decide ((1152921504606846976 : Int) < (i : Int)) = true := by simp; omega
    have q2 : ((1152921504606846976 : Int) < (i : Int)) = True := by simp; omega
    clear hgr hgr2 HNo HNo2 g g2 hB hB2 hr hr2 hrl hrl2
    go_enter Try.func6, Try.ntmps6
    go_wp2_with (first | (go_at_call 12; refine (HAw.out w2).mono ?_; rintro r w9 ⟨rfl, hb9⟩) | (go_at_call 11; refine (HG2.out _ hb1).mono ?_; rintro r w2 ⟨rfl, hb2⟩) | (go_at_call 11; refine HG.out.mono ?_; rintro r w1 ⟨rfl, hb1⟩))
    go_ret
    exact ⟨rfl, bnext (bnext hb1 hb2) hb9⟩
  have q1 : decide ((1152921504606846976 : Int) < (i : Int)) = false := by simp; omega
  have q2 : ((1152921504606846976 : Int) < (i : Int)) = False := by simp; omega
  by_cases ht2 : t ≤ 1152921504606846976
  case neg =>
    have q3 : decide ((1152921504606846976 : Int) < (t : Int)) = true := by simp; omega
    have q4 : ((1152921504606846976 : Int) < (t : Int)) = True := by simp; omega
    clear hgr hgr2 HNo HNo2 g g2 hB hB2 hr hr2 hrl hrl2
    go_enter Try.func6, Try.ntmps6
    go_wp2_with (first | (go_at_call 12; refine (HAw.out w2).mono ?_; rintro r w9 ⟨rfl, hb9⟩) | (go_at_call 11; refine (HG2.out _ hb1).mono ?_; rintro r w2 ⟨rfl, hb2⟩) | (go_at_call 11; refine HG.out.mono ?_; rintro r w1 ⟨rfl, hb1⟩))
    go_ret
    exact ⟨rfl, bnext (bnext hb1 hb2) hb9⟩
  have q3 : decide ((1152921504606846976 : Int) < (t : Int)) = false := by simp; omega
  have q4 : ((1152921504606846976 : Int) < (t : Int)) = False := by simp; omega
  have HGr : Hid (∀ W', Below w.heap.size w W' → Calls Try.prog 31 #[.int .u64 (i : Int), .int .u64 (t : Int), .int .u8 (m : Int), .slice A es.length cp, .slice B rs.length cb] W' fun r w' => ∃ p, r = .returned (.pointer (some ⟨p, 0, none⟩)) ∧ NewI W' w' p (Lg.grown i t m es rs)) := Lib.hid fun W' hb =>
    grown_any W' i t m hi2 ht2 hm A cp es (g.lies.below hb) hn40 (fun e he => ⟨(g.fits e he).1, by have := hbod e he; omega⟩) B cb rs (hB.below hb) hr hrl
  have HGr2 : Hid (∀ W', Below w.heap.size w W' → Calls Try.prog 31 #[.int .u64 (i : Int), .int .u64 (t : Int), .int .u8 (m : Int), .slice A2 ms.length cp2, .slice B2 os.length cb2] W' fun r w' => ∃ p, r = .returned (.pointer (some ⟨p, 0, none⟩)) ∧ NewI W' w' p (Lg.grown i t m ms os)) := Lib.hid fun W' hb =>
    grown_any W' i t m hi2 ht2 hm A2 cp2 ms (g2.lies.below hb) hk40 (fun e he => ⟨(g2.fits e he).1, by have := hbod2 e he; omega⟩) B2 cb2 os (hB2.below hb) hr2 hrl2
  obtain ⟨L, hL⟩ : ∃ L, L = Lg.grown i t m es rs := ⟨_, rfl⟩
  have gok : Lg.Ok L := by rw [hL]; exact (Lg.grw_all i t m es rs es.length).1
  have gi : L.idx = i := by rw [hL]; exact (Lg.grw_all i t m es rs es.length).2.1
  have gl : L.es.length = es.length := by rw [hL]; exact (Lg.grw_all i t m es rs es.length).2.2.2.2.1
  obtain ⟨M, hM⟩ : ∃ M, M = Lg.grown i t m ms os := ⟨_, rfl⟩
  have mok : Lg.Ok M := by rw [hM]; exact (Lg.grw_all i t m ms os ms.length).1
  have mi : M.idx = i := by rw [hM]; exact (Lg.grw_all i t m ms os ms.length).2.1
  have ml : M.es.length = ms.length := by rw [hM]; exact (Lg.grw_all i t m ms os ms.length).2.2.2.2.1
  rw [← hL] at HGr
  rw [← hM] at HGr2
  obtain ⟨n, hnn⟩ : ∃ n, n = es.length := ⟨_, rfl⟩
  rw [← hnn] at HGr HG hn40 gl hln ⊢
  obtain ⟨P, hP⟩ : ∃ P, P = i + x % (n + 1) := ⟨_, rfl⟩
  have hP2 := Nat.mod_lt x (show 0 < n + 1 by omega)
  have p1 : i ≤ P := by omega
  have p2 : P ≤ i + n := by omega
  have eP : (i : Int) + (x : Int) % ((n : Int) + 1) = (P : Int) := by rw [hP]; push_cast; rfl
  have eP2 : (i : Int) + (x : Int).tmod ((n : Int) + 1) = (P : Int) := by rw [Int.tmod_eq_emod_of_nonneg (by omega)]; exact eP
  obtain ⟨u, hu⟩ : ∃ u, u = Lg.tat L (P - i) := ⟨_, rfl⟩
  obtain ⟨F, hF⟩ : ∃ F, F = Lg.frm L (P + 1) y := ⟨_, rfl⟩
  have HFF : Hid (F = Lg.frm L (P + 1) y) := Lib.hid hF
  have hFl : F.length ≤ 40 := by rw [hF, Lg.frm_behind P y (by omega) (by omega), List.length_take, List.length_drop]; omega
  have TA : Hid (Lg.term L P = some u) := Lib.hid (by rw [Lg.term_ok gok, if_pos (by omega), gi, hu])
  have FF : Hid (Lg.fit P u F = true) := Lib.hid (by rw [hu, hF, ← gi]; exact Lg.frm_fits gok P y (by omega) (by omega))
  have TF : Hid (∀ k, (hk : k < F.length) → Lg.term L (P + 1 + k) = some F[k].trm) := Lib.hid (by subst hF; exact fun k hk => Lg.frm_terms gok P y (by omega) (by omega) k hk)
  have PM : Hid (Lg.puts M P u F = Lg.has M P u) := Lib.hid (by
    unfold Lg.puts Lg.joins
    rw [FF.out, if_pos (by omega), Bool.true_and])
  have MOk := Lib.hid mok
  have WF : Hid (Lg.frm M 0 1048576 = M.es) := Lib.hid (Lg.frm_all _ _ (by omega))
  obtain ⟨f, hf⟩ : ∃ f, f = F.length := ⟨_, rfl⟩
  have Hf := Lib.hid hf
  have hf40 : f ≤ 40 := by omega
  clear hF hP hP2 hL hM hnn HNo HNo2 hgr hgr2 hbod hbod2 g g2 hB hB2 hr hr2 hrl hrl2 gok hFl hf mok hu
  go_enter Try.func6, Try.ntmps6
  go_upto_region 3 with (first | (go_at_call 11; refine (HG2.out _ hb1).mono ?_; rintro r w2 ⟨rfl, hb2⟩) | (go_at_call 11; refine HG.out.mono ?_; rintro r w1 ⟨rfl, hb1⟩))
  have hb12 := bnext hb1 hb2
  clear hb1 hb2 HG HG2
  go_upto_region 8 with (first | (go_at_call 31; refine (HGr2.out _ (bnext hb12 hI3.bl)).mono ?_; rintro r w4 ⟨pb, rfl, hI4⟩) | (go_at_call 31; refine (HGr.out _ hb12).mono ?_; rintro r w3 ⟨pa, rfl, hI3⟩))
  obtain ⟨⟨Sa, a1, a2⟩, b3⟩ := hI3
  obtain ⟨⟨Sb, s1, s2⟩, b4⟩ := hI4
  have HA := Lib.hid (And.intro (a1.bel b4) (And.intro a2 (And.intro s1 s2)))
  have HB4 := Lib.hid (bnext (bnext hb12 b3) b4)
  have HS4 := Lib.hid (And.intro b3 b4)
  have HSz : Hid (w.heap.size ≤ w3.heap.size) := Lib.hid (Nat.le_trans hb12.size b3.size)
  have HSa : Hid (∀ k, Sa k → k < w3.heap.size) := Lib.hid a1.lt
  clear a1 a2 b3 s1 s2 b4 hb12 HGr HGr2 q1 q2 q3 q4 eP eP2
  have HTa : Hid (Calls Try.prog 24 #[.pointer (some ⟨pa, 0, none⟩), .int .u64 (P : Int)] w4 (RetL (.tuple #[.int .u64 (u : Int), .bool true]) w4)) := Lib.hid (by
    have := term_any w4 HA.out.1 P (by unfold Nm.top; omega) (fun e he => (HA.out.1.fit.es e he).1.idx)
    rw [TA.out] at this; exact this)
  have HTb : Hid (∀ W', Below w4.heap.size w4 W' → Calls Try.prog 24 #[.pointer (some ⟨pb, 0, none⟩), .int .u64 (P : Int)] W' (RetL (rT (Lg.term M P)) W')) := Lib.hid fun W' hb => term_any W' (HA.out.2.2.1.bel hb) P (by unfold Nm.top; omega) (fun e he => (HA.out.2.2.1.fit.es e he).1.idx)
  have HWs : Hid (∀ W', Below w4.heap.size w4 W' → Calls Try.prog 25 #[.pointer (some ⟨pb, 0, none⟩), .int .u64 0, .int .i64 1048576] W' fun r w' => ∃ A c, r = .returned (.slice A M.es.length c) ∧ Sl w' 13 A M.es.length c (ec M.es) ∧ (∀ b, blk A = some b → W'.heap.size ≤ b) ∧ Below W'.heap.size W' w') := Lib.hid fun W' hb => (from_any W' (HA.out.2.2.1.bel hb) 0 1048576 (by unfold Nm.top; omega) (by omega)).mono fun r w' h => by
    rw [WF.out] at h
    exact h
  have HPt : Hid (∀ W', Below w4.heap.size w4 W' → Calls Try.prog 25 #[.pointer (some ⟨pa, 0, none⟩), .int .u64 ((P : Int) + 1), .int .i64 (y : Int)] W' fun r w' => ∃ A c, r = .returned (.slice A f c) ∧ Sl w' 13 A f c (ec F) ∧ (∀ b, blk A = some b → W'.heap.size ≤ b) ∧ Below W'.heap.size W' w') := Lib.hid fun W' hb => by
    have e : ((P : Int) + 1) = ((P + 1 : Nat) : Int) := by omega
    rw [e]
    exact (from_any W' (HA.out.1.bel hb) (P + 1) y (by unfold Nm.top; omega) (by omega)).mono fun r w' h => by
      rw [← HFF.out] at h
      unfold RetE at h
      rw [← Hf.out] at h
      exact h
  have HSm : Hid (∀ A B ca cb W, Sl W 13 A M.es.length ca (ec M.es) → Sl W 13 B M.es.length cb (ec M.es) → Calls Try.prog 17 #[.slice A M.es.length ca, .slice B M.es.length cb] W (RetL (.bool true) W)) := Lib.hid fun A B ca cb W h1 h2 => by
    have := same_any W A B ca cb M.es M.es h1.liesV h2.liesV (by simp only [maxLen]; omega) (by simp only [maxLen]; omega)
    rw [decide_eq_true rfl] at this; exact this
  have HPf : Hid (∀ e ∈ F, En.Fits e ∧ e.body.size ≤ 1000) := Lib.hid (by rw [HFF.out]; exact frm_fit HA.out.1 _ _)
  have hut : u < Nm.top := term_lt L HA.out.1.fit TA.out
  have HPu : Hid (∀ (W' : World) (A' : Option Addr) (c' : Nat), Below w4.heap.size w4 W' → Sl W' 13 A' f c' (ec F) → (∀ b, blk A' = some b → w4.heap.size ≤ b) → Calls Try.prog 20 #[.pointer (some ⟨pb, 0, none⟩), .int .u64 (P : Int), .int .u64 (u : Int), .slice A' f c'] W' (RetPut M P u F pb Sb W')) := Lib.hid fun W' A' c' hb hs hz => by
    have hnil : A' = none → F.length = 0 := fun hA => by
      rcases hs.lies with ⟨_, h0⟩ | ⟨b, off, hb, _⟩
      · have := hs.le; rw [← Hf.out]; omega
      · rw [hA] at hb; cases hb
    have haw : ∀ b, blk A' = some b → ¬ Sb b := fun b hb2 hsb => by have := hz b hb2; have := HA.out.2.2.1.lt b hsb; omega
    have := put_any W' (HA.out.2.2.1.bel hb) P u (by unfold Nm.top; omega) hut A' c' F ⟨hs.liesV, hnil, by rw [← Hf.out]; exact hs.le, haw, HPf.out, by rw [← Hf.out]; omega⟩ (by rw [← Hf.out]; omega)
    rw [← Hf.out] at this
    exact this
  obtain ⟨oT, hoT⟩ : ∃ oT, oT = Lg.term M P := ⟨_, rfl⟩
  rw [← hoT] at HTb
  have HHas : Hid (Lg.has M P u = decide (oT = some u)) := Lib.hid (by unfold Lg.has; rw [hoT])
  clear hoT hut
  go_upto_region 9 with (go_at_call 24; refine HTa.out.mono ?_; rintro r w5 ⟨rfl, b5⟩)
  cases oT with
  | none =>
    have HTb2 : Hid (∀ W', Below w4.heap.size w4 W' → Calls Try.prog 24 #[.pointer (some ⟨pb, 0, none⟩), .int .u64 (P : Int)] W' (RetL (.tuple #[.int .u64 0, .bool false]) W')) := HTb
    clear HTb
    rw [show Lg.has M P u = false by rw [HHas.out]; simp] at PM
    have HPu2 : Hid (∀ (W' : World) (A' : Option Addr) (c' : Nat), Below w4.heap.size w4 W' → Sl W' 13 A' f c' (ec F) → (∀ b, blk A' = some b → w4.heap.size ≤ b) → Calls Try.prog 20 #[.pointer (some ⟨pb, 0, none⟩), .int .u64 (P : Int), .int .u64 (u : Int), .slice A' f c'] W' (RetL (.tuple #[.bool false, .int .u64 0, .slice none 0 0]) W')) := Lib.hid fun W' A' c' hb hs hz => (HPu.out W' A' c' hb hs hz).mono fun r w' h => by
      unfold RetPut at h
      rw [if_neg (by rw [PM.out]; simp)] at h
      exact h
    obtain ⟨n2, hn2⟩ : ∃ n2, n2 = M.es.length := ⟨_, rfl⟩
    rw [← hn2] at HWs HSm
    clear HPu TF FF PM TA HFF HHas MOk HTa hn2 gl ml gi mi
    go_upto_region 10 with (go_at_call 24; refine (HTb2.out _ b5).mono ?_; rintro r w6 ⟨rfl, y6⟩)
    have k6 := bnext b5 y6
    go_upto_region 12 with (first
      | (go_at_call 25; refine (HPt.out _ k7).mono ?_; rintro r w8 ⟨A8, c8, rfl, l8, z8, y8⟩; have k8 := bnext k7 y8)
      | (go_at_call 25; refine (HWs.out _ k6).mono ?_; rintro r w7 ⟨A7, c7, rfl, l7, z7, y7⟩; have k7 := bnext k6 y7))
    have HP8 := Lib.hid (HPu2.out _ _ _ k8 l8 fun b hb => Nat.le_trans k7.size (z8 b hb))
    have HK8 := Lib.hid k8
    have HL7 := Lib.hid (l7.below y8)
    clear k8 k7 k6 y6 y7 y8 z7 z8 l7 l8 HPu2 HPt b5
    go_wp2_with (first
      | (go_at_call 12; refine (HAw.out w11).mono ?_; rintro r w12 ⟨rfl, y12⟩; have k12 := bnext k11 y12)
      | (go_at_call 17; refine (HSm.out _ _ _ _ w10 l10 ((HL7.out.below y9).below y10)).mono ?_; rintro r w11 ⟨rfl, y11⟩; have k11 := bnext k10 y11)
      | (go_at_call 25; refine (HWs.out _ k9).mono ?_; rintro r w10 ⟨A10, c10, rfl, l10, z10, y10⟩; have k10 := bnext k9 y10)
      | (go_at_call 20; refine HP8.out.mono ?_; rintro r w9 ⟨rfl, y9⟩; have k9 := bnext HK8.out y9))
    go_ret
    exact ⟨rfl, bnext HB4.out k12⟩
  | some v =>
    by_cases hvu : v = u
    case neg =>
      have q5 : ((u : Int) == (v : Int)) = false := by simp; omega
      have q6 : ((u : Int) = (v : Int)) = False := by simp; omega
      have HTb2 : Hid (∀ W', Below w4.heap.size w4 W' → Calls Try.prog 24 #[.pointer (some ⟨pb, 0, none⟩), .int .u64 (P : Int)] W' (RetL (.tuple #[.int .u64 (v : Int), .bool true]) W')) := HTb
      clear HTb
      rw [show Lg.has M P u = false by rw [HHas.out]; simpa using hvu] at PM
      have HPu2 : Hid (∀ (W' : World) (A' : Option Addr) (c' : Nat), Below w4.heap.size w4 W' → Sl W' 13 A' f c' (ec F) → (∀ b, blk A' = some b → w4.heap.size ≤ b) → Calls Try.prog 20 #[.pointer (some ⟨pb, 0, none⟩), .int .u64 (P : Int), .int .u64 (u : Int), .slice A' f c'] W' (RetL (.tuple #[.bool false, .int .u64 0, .slice none 0 0]) W')) := Lib.hid fun W' A' c' hb hs hz => (HPu.out W' A' c' hb hs hz).mono fun r w' h => by
        unfold RetPut at h
        rw [if_neg (by rw [PM.out]; simp)] at h
        exact h
      obtain ⟨n2, hn2⟩ : ∃ n2, n2 = M.es.length := ⟨_, rfl⟩
      rw [← hn2] at HWs HSm
      clear HPu TF FF PM TA HFF HHas MOk HTa hn2 gl ml gi mi
      go_upto_region 10 with (go_at_call 24; refine (HTb2.out _ b5).mono ?_; rintro r w6 ⟨rfl, y6⟩)
      have k6 := bnext b5 y6
      go_upto_region 12 with (first
        | (go_at_call 25; refine (HPt.out _ k7).mono ?_; rintro r w8 ⟨A8, c8, rfl, l8, z8, y8⟩; have k8 := bnext k7 y8)
        | (go_at_call 25; refine (HWs.out _ k6).mono ?_; rintro r w7 ⟨A7, c7, rfl, l7, z7, y7⟩; have k7 := bnext k6 y7))
      have HP8 := Lib.hid (HPu2.out _ _ _ k8 l8 fun b hb => Nat.le_trans k7.size (z8 b hb))
      have HK8 := Lib.hid k8
      have HL7 := Lib.hid (l7.below y8)
      clear k8 k7 k6 y6 y7 y8 z7 z8 l7 l8 HPu2 HPt b5
      go_wp2_with (first
        | (go_at_call 12; refine (HAw.out w11).mono ?_; rintro r w12 ⟨rfl, y12⟩; have k12 := bnext k11 y12)
        | (go_at_call 17; refine (HSm.out _ _ _ _ w10 l10 ((HL7.out.below y9).below y10)).mono ?_; rintro r w11 ⟨rfl, y11⟩; have k11 := bnext k10 y11)
        | (go_at_call 25; refine (HWs.out _ k9).mono ?_; rintro r w10 ⟨A10, c10, rfl, l10, z10, y10⟩; have k10 := bnext k9 y10)
        | (go_at_call 20; refine HP8.out.mono ?_; rintro r w9 ⟨rfl, y9⟩; have k9 := bnext HK8.out y9))
      go_ret
      exact ⟨rfl, bnext HB4.out k12⟩
    subst hvu
    have HTb2 : Hid (∀ W', Below w4.heap.size w4 W' → Calls Try.prog 24 #[.pointer (some ⟨pb, 0, none⟩), .int .u64 (P : Int)] W' (RetL (.tuple #[.int .u64 (v : Int), .bool true]) W')) := HTb
    clear HTb
    have HPT : Hid (Lg.puts M P v F = true) := Lib.hid (by rw [PM.out, HHas.out]; simp)
    obtain ⟨g1, g2, g3, g4, g5⟩ := Lg.put_agrees MOk.out HPT.out (by omega)
    obtain ⟨M', hM'⟩ : ∃ M', M' = Lg.put M F := ⟨_, rfl⟩
    obtain ⟨N, hN⟩ : ∃ N, N = P + f := ⟨_, rfl⟩
    have HPu2 : Hid (∀ (W' : World) (A' : Option Addr) (c' : Nat), Below w4.heap.size w4 W' → Sl W' 13 A' f c' (ec F) → (∀ b, blk A' = some b → w4.heap.size ≤ b) → Calls Try.prog 20 #[.pointer (some ⟨pb, 0, none⟩), .int .u64 (P : Int), .int .u64 (v : Int), .slice A' f c'] W' fun r w' => ∃ A c k S', r = .returned (.tuple #[.bool true, .int .u64 (N : Int), .slice A k c]) ∧ LgAt w' pb S' M' ∧ Ks Sb W' w') := Lib.hid fun W' A' c' hb hs hz => (HPu.out W' A' c' hb hs hz).mono fun r w' h => by
      unfold RetPut at h
      rw [if_pos HPT.out, ← Hf.out, ← hM', ← hN] at h
      obtain ⟨A, c, S', r1, _, _, r4, _, r6⟩ := h
      exact ⟨A, c, _, S', r1, r4, r6⟩
    rw [← hM'] at g1 g2 g3 g4 g5
    have TK : Hid (∀ k, P ≤ k → k ≤ P + f → ∃ tk, Lg.term L k = some tk ∧ Lg.term M' k = some tk) := Lib.hid fun k h1 h2 => by
      by_cases hk : k = P
      · rw [hk]; exact ⟨v, TA.out, g2⟩
      · have hk2 : k - (P + 1) < F.length := by rw [← Hf.out]; omega
        have e : k = P + 1 + (k - (P + 1)) := by omega
        rw [e]
        exact ⟨_, TF.out _ hk2, g3 _ hk2⟩
    have hPM : P ≤ i + M.es.length := by
      have : Lg.has M P v = true := by rw [HHas.out]; simp
      have := (Lg.has_iff MOk.out P v).1 this
      omega
    rw [mi] at g4 g5
    have G5 := Lib.hid g5
    have hN2 : ((N : Nat) : Int) = (P : Int) + (f : Int) := by omega
    obtain ⟨n2, hn2⟩ : ∃ n2, n2 = M.es.length := ⟨_, rfl⟩
    have HN2 := Lib.hid hn2
    rw [← hn2] at HWs hPM
    rw [← Hf.out] at g4
    clear HPu TF FF PM TA HFF HHas MOk HTa hn2 g1 g2 g3 g5 HSm hM' HPT
    go_upto_region 10 with (go_at_call 24; refine (HTb2.out _ b5).mono ?_; rintro r w6 ⟨rfl, y6⟩)
    have k6 := bnext b5 y6
    go_upto_region 12 with (first
      | (go_at_call 25; refine (HPt.out _ k7).mono ?_; rintro r w8 ⟨A8, c8, rfl, l8, z8, y8⟩; have k8 := bnext k7 y8)
      | (go_at_call 25; refine (HWs.out _ k6).mono ?_; rintro r w7 ⟨A7, c7, rfl, l7, z7, y7⟩; have k7 := bnext k6 y7))
    have HP8 := Lib.hid (HPu2.out _ _ _ k8 l8 fun b hb => Nat.le_trans k7.size (z8 b hb))
    have HK8 := Lib.hid k8
    have HL7 := Lib.hid (And.intro (l7.below y8) (fun b (hb : blk A7 = some b) (hs : Sb b) => by have h1 := z7 b hb; have h2 := HA.out.2.2.1.lt b hs; have h3 := k6.size; omega : ∀ b, blk A7 = some b → ¬ Sb b))
    clear k8 k7 k6 y6 y7 y8 z7 z8 l7 l8 HPu2 HPt b5 HWs
    go_upto_region 15 with (go_at_call 20; refine HP8.out.mono ?_; rintro r w9 ⟨A9, c9, n9, S9, rfl, at9, ks9⟩)
    have HB9 := Lib.hid (ks9.below (bnext HB4.out HK8.out) fun k hk => Nat.le_trans HSz.out (HA.out.2.2.2 k hk))
    have HA9 : Hid (LgAt w9 pa Sa L ∧ LgAt w9 pb S9 M' ∧ Sl w9 13 A7 n2 c7 (ec M.es)) := Lib.hid ⟨(HA.out.1.bel HK8.out).ks ks9 (fun k hk hs => by have h1 := HSa.out k hk; have h2 := HA.out.2.2.2 k hs; omega), at9, HL7.out.1.keep fun b hb => ks9.block b (HL7.out.1.lt hb) (HL7.out.2 b hb)⟩
    clear at9 ks9 HL7 HK8 HP8 HB4 HS4 HSa HSz HA HTb2
    have q7 : ((N : Int) == (P : Int) + (f : Int)) = true := by simp; omega
    have q8 : ((N : Int) = (P : Int) + (f : Int)) = True := by simp; omega
    have q9 : ((N : Int) != (P : Int) + (f : Int)) = false := by simp; omega
    go_upto_region 21 with (fail)
    clear q7 q8 q9 hN2
    have HTA : Hid (∀ k, P ≤ k → k ≤ N → ∃ tk : Nat, (∀ W', Below w9.heap.size w9 W' → Calls Try.prog 24 #[.pointer (some ⟨pa, 0, none⟩), .int .u64 (k : Int)] W' (RetL (.tuple #[.int .u64 (tk : Int), .bool true]) W')) ∧ (∀ W', Below w9.heap.size w9 W' → Calls Try.prog 24 #[.pointer (some ⟨pb, 0, none⟩), .int .u64 (k : Int)] W' (RetL (.tuple #[.int .u64 (tk : Int), .bool true]) W'))) := Lib.hid fun k h1 h2 => by
      obtain ⟨tk, e1, e2⟩ := TK.out k h1 (by omega)
      refine ⟨tk, fun W' hb => ?_, fun W' hb => ?_⟩
      · have := term_any W' (HA9.out.1.bel hb) k (by unfold Nm.top; omega) (fun e he => (HA9.out.1.fit.es e he).1.idx)
        rw [e1] at this; exact this
      · have := term_any W' (HA9.out.2.1.bel hb) k (by unfold Nm.top; omega) (fun e he => (HA9.out.2.1.fit.es e he).1.idx)
        rw [e2] at this; exact this
    obtain ⟨n3, hn3⟩ : ∃ n3, n3 = M'.es.length := ⟨_, rfl⟩
    have HN3 := Lib.hid hn3
    have hfew : n3 ≤ 100000 := by rw [hn3]; exact HA9.out.2.1.fit.few
    rw [← hn3] at g4
    have HNow : Hid (∀ W', Below w9.heap.size w9 W' → Calls Try.prog 25 #[.pointer (some ⟨pb, 0, none⟩), .int .u64 0, .int .i64 1048576] W' fun r w' => ∃ A c, r = .returned (.slice A n3 c) ∧ Sl w' 13 A n3 c (ec M'.es) ∧ Below W'.heap.size W' w') := Lib.hid fun W' hb => (from_any W' (HA9.out.2.1.bel hb) 0 1048576 (by unfold Nm.top; omega) (by omega)).mono fun r w' h => by
      rw [Lg.frm_all M' _ (by rw [← HN3.out]; omega)] at h
      unfold RetE at h
      rw [← HN3.out] at h
      obtain ⟨A, c, h1, h2, _, h4⟩ := h
      exact ⟨A, c, h1, h2, h4⟩
    clear hn3 TK
    go_wp2_with fail
    go_loopw [31] (fun kv wr => ∃ (k : Nat), P ≤ k ∧ k ≤ N + 1 ∧ kv = .int .u64 (k : Int) ∧ Below w9.heap.size w9 wr) (fun kv _ => N + 1 - (intOf kv).toNat)
    case atStart => exact ⟨P, Nat.le_refl _, by omega, rfl, Below.refl _ _⟩
    case round =>
      obtain ⟨k, hk1, hk2, rfl, hW⟩ := hrel
      have HW := Lib.hid hW
      clear hW
      by_cases hlt : k ≤ N
      · have q1 : decide ((k : Int) ≤ (N : Int)) = true := by simp; omega
        have q2 : ((k : Int) ≤ (N : Int)) = True := by simp; omega
        obtain ⟨tk, e1, e2⟩ := HTA.out k hk1 hlt
        have G1 := Lib.hid e1
        have G2 := Lib.hid e2
        clear e1 e2
        go_wp2_with (first
          | (go_at_call 24; refine (G2.out _ k1).mono ?_; rintro r x2 ⟨rfl, b2⟩; have k2 := bnext k1 b2)
          | (go_at_call 24; refine (G1.out _ HW.out).mono ?_; rintro r x1 ⟨rfl, b1⟩; have k1 := bnext HW.out b1))
        go_roundw
        case rel => exact ⟨k + 1, by omega, by omega, by go_num, k2⟩
        case measure => simp [intOf]; omega
      · obtain rfl : k = N + 1 := by omega
        have q1 : decide (((N + 1 : Nat) : Int) ≤ (N : Int)) = false := by simp; omega
        have q2 : (((N + 1 : Nat) : Int) ≤ (N : Int)) = False := by simp; omega
        obtain ⟨d, hd⟩ : ∃ d, d = P - i := ⟨_, rfl⟩
        go_upto_region 30 with (go_at_call 25; refine (HNow.out _ HW.out).mono ?_; rintro r x3 ⟨A3, c3, rfl, l3, b3⟩)
        have G6 : Hid (M'.es.take d = M.es.take d) := Lib.hid (by rw [hd]; exact G5.out)
        have HSm2 : Hid (∀ W', Below x3.heap.size x3 W' → Calls Try.prog 17 #[.slice A3 d c3, .slice A7 d c7] W' fun e w' => e = .returned (.bool true) ∧ Below W'.heap.size W' w') := Lib.hid fun W' hb => by
          have h1 := (l3.take d (by omega)).liesV.below hb
          have h2 := ((HA9.out.2.2.below (bnext (bnext HW.out b3) hb)).take d (by omega)).liesV
          rw [ecL_take] at h1 h2
          rw [← G6.out] at h2
          have hl : (M'.es.take d).length = d := by rw [List.length_take, ← HN3.out]; omega
          have := same_any W' A3 A7 c3 c7 (M'.es.take d) (M'.es.take d) h1 h2 (by rw [hl]; simp only [maxLen]; omega) (by rw [hl]; simp only [maxLen]; omega)
          rw [decide_eq_true rfl, hl] at this
          exact this
        have hc3 := l3.le
        have hc7 := HA9.out.2.2.le
        have hm3 := l3.max
        have hm7 := HA9.out.2.2.max
        simp only [maxLen] at hm3 hm7
        have HB3 := Lib.hid (bnext (bnext HB9.out HW.out) b3)
        have HAw2 : Hid (∀ W', Calls Try.prog 12 #[] W' fun e w' => e = .returned (.bool true) ∧ Below W'.heap.size W' w') := HAw
        have ha7 : A7 = none → c7 = 0 := fun hA => by
          rcases HA9.out.2.2.lies with ⟨_, h⟩ | ⟨b, off, hb, _⟩
          · exact h
          · rw [hA] at hb; cases hb
        have ha3 : A3 = none → c3 = 0 := fun hA => by
          rcases l3.lies with ⟨_, h⟩ | ⟨b, off, hb, _⟩
          · exact h
          · rw [hA] at hb; cases hb
        have hx7 : A7 = none ∨ ∃ b off, A7 = some ⟨b, off, none⟩ := by
          rcases HA9.out.2.2.lies with ⟨h, _⟩ | ⟨b, off, hb, _⟩
          · exact .inl h
          · exact .inr ⟨b, off, hb⟩
        have hx3 : A3 = none ∨ ∃ b off, A3 = some ⟨b, off, none⟩ := by
          rcases l3.lies with ⟨h, _⟩ | ⟨b, off, hb, _⟩
          · exact .inl h
          · exact .inr ⟨b, off, hb⟩
        have hd3 : d ≤ n3 := by omega
        have hd4 : d ≤ n2 := by omega
        have hd5 : d + f ≤ n3 := by omega
        have hd2 : (P : Int) - (i : Int) = (d : Int) := by omega
        rw [hd2]
        clear hd2 l3 b3 HA9 HW HNow HTA HB9 HAw q1 q2 G5 G6 hd
        rcases hx7 with rfl | ⟨g7, o7, rfl⟩
        · rcases hx3 with rfl | ⟨g3, o3, rfl⟩
          · have e7 := ha7 rfl
            subst e7
            obtain rfl : n2 = 0 := by omega
            have e3 := ha3 rfl
            subst e3
            obtain rfl : n3 = 0 := by omega
            obtain rfl : f = 0 := by omega
            obtain rfl : d = 0 := by omega
            clear ha7 ha3
            refine wp_region_quiet_below (by kernel_rfl) (by kernel_rfl) ?_
            repeat (go_big_quiet_step ((first | (go_at_call 17; exact Calls.regrown_of (HSm2.out _ (below_regrown _ _ _))) | (go_at_call 12; exact Calls.regrown_of (HAw2.out _)))))
            refine wpQuiet_nil ?_
            intro _ hw'
            obtain ⟨pq, hw''⟩ := hw'
            subst hw''
            have hb1 := below_regrown x3 pq.d pq.os
            go_wp2_with fail
            go_ret
            exact ⟨rfl, bnext HB3.out hb1⟩
          · have e7 := ha7 rfl
            subst e7
            obtain rfl : n2 = 0 := by omega
            obtain rfl : d = 0 := by omega
            have qg : decide ((f : Int) ≤ (n3 : Int)) = true := by simp; omega
            have qh : ((f : Int) ≤ (n3 : Int)) = True := by simp; omega
            clear ha7 ha3
            refine wp_region_quiet_below (by kernel_rfl) (by kernel_rfl) ?_
            repeat (go_big_quiet_step ((first | (go_at_call 17; exact Calls.regrown_of (HSm2.out _ (below_regrown _ _ _))) | (go_at_call 12; exact Calls.regrown_of (HAw2.out _)))))
            refine wpQuiet_nil ?_
            intro _ hw'
            obtain ⟨pq, hw''⟩ := hw'
            subst hw''
            have hb1 := below_regrown x3 pq.d pq.os
            go_wp2_with fail
            go_ret
            exact ⟨rfl, bnext HB3.out hb1⟩
        · rcases hx3 with rfl | ⟨g3, o3, rfl⟩
          · have e3 := ha3 rfl
            subst e3
            obtain rfl : n3 = 0 := by omega
            obtain rfl : f = 0 := by omega
            obtain rfl : d = 0 := by omega
            clear ha7 ha3
            refine wp_region_quiet_below (by kernel_rfl) (by kernel_rfl) ?_
            repeat (go_big_quiet_step ((first | (go_at_call 17; exact Calls.regrown_of (HSm2.out _ (below_regrown _ _ _))) | (go_at_call 12; exact Calls.regrown_of (HAw2.out _)))))
            refine wpQuiet_nil ?_
            intro _ hw'
            obtain ⟨pq, hw''⟩ := hw'
            subst hw''
            have hb1 := below_regrown x3 pq.d pq.os
            go_wp2_with fail
            go_ret
            exact ⟨rfl, bnext HB3.out hb1⟩
          · have qg : decide ((d : Int) + (f : Int) ≤ (n3 : Int)) = true := by simp; omega
            have qh : ((d : Int) + (f : Int) ≤ (n3 : Int)) = True := by simp; omega
            clear ha7 ha3
            refine wp_region_quiet_below (by kernel_rfl) (by kernel_rfl) ?_
            repeat (go_big_quiet_step ((first | (go_at_call 17; exact Calls.regrown_of (HSm2.out _ (below_regrown _ _ _))) | (go_at_call 12; exact Calls.regrown_of (HAw2.out _)))))
            refine wpQuiet_nil ?_
            intro _ hw'
            obtain ⟨pq, hw''⟩ := hw'
            subst hw''
            have hb1 := below_regrown x3 pq.d pq.os
            go_wp2_with fail
            go_ret
            exact ⟨rfl, bnext HB3.out hb1⟩
theorem logsAgree_walk (w : World) (a0 : Int) (h0 : (Lit.int .u64 a0).wf = true) (a1 : Int) (h1 : (Lit.int .u64 a1).wf = true) (a2 : Int) (h2 : (Lit.int .u8 a2).wf = true) (A : Option Addr) (cp : Nat) (es : List En.E) (g : GivenE w A cp es) (A2 : Option Addr) (cp2 : Nat) (ms : List En.E) (g2 : GivenE w A2 cp2 ms)
    (B : Option Addr) (cb : Nat) (rs : List Nat) (hB : Lies w B (bn rs)) (hr : ∀ n ∈ rs, n < 256) (hrl : rs.length ≤ maxLen) (B2 : Option Addr) (cb2 : Nat) (os : List Nat) (hB2 : Lies w B2 (bn os)) (hr2 : ∀ n ∈ os, n < 256) (hrl2 : os.length ≤ maxLen) (a3 : Int) (h3 : (Lit.int .u8 a3).wf = true) (a4 : Int) (h4 : (Lit.int .u8 a4).wf = true) :
    Calls Try.prog 6 #[.int .u64 a0, .int .u64 a1, .int .u8 a2, .slice A es.length cp, .slice A2 ms.length cp2, .slice B rs.length cb, .slice B2 os.length cb2, .int .u8 a3, .int .u8 a4] w fun e w' => e = .returned (.bool true) ∧ Below w.heap.size w w' := by
  obtain ⟨n0, rfl, z0⟩ := u64_nat h0
  obtain ⟨n1, rfl, z1⟩ := u64_nat h1
  obtain ⟨n2, rfl, z2⟩ := u8_nat h2
  obtain ⟨n3, rfl, z3⟩ := u8_nat h3
  obtain ⟨n4, rfl, z4⟩ := u8_nat h4
  exact logsAgree_any w n0 z0 n1 z1 n2 z2 A cp es g A2 cp2 ms g2 B cb rs hB hr hrl B2 cb2 os hB2 hr2 hrl2 n3 z3 n4 z4
end Go.Proofs.Ytahkkdnmmneehaa
