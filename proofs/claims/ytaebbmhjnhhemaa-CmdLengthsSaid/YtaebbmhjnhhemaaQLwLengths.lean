/-
  CmdLengths walked.
-/
import Derived.Test.YtaebbmhjnhhemaaQLwWrites
import Derived.Test.YtaebbmhjnhhemaaQLwSwap
set_option linter.unusedSimpArgs false
set_option linter.unusedVariables false
namespace Go.Proofs.Ytaebbmhjnhhemaa
open Go.RowKit
theorem small_shape {c : Cm.Cmd} (hf : Cm.Fits c) (h : Cm.Small c) (hm : Cm.may c = true) : Cm.Shape c :=
  Cm.shape_of hf hm (by have := h.key; unfold Nm.top; omega) (by have := h.val; unfold Nm.top; omega) (by have := h.exp; unfold Nm.top; omega) (by have := h.frm; unfold Nm.top; omega) (by have := h.tto; unfold Nm.top; omega)
    (fun p hp => ⟨by have := (h.parts p hp).1; unfold Nm.top; omega, by have := (h.parts p hp).2; unfold Nm.top; omega⟩)
theorem small_swap {c : Cm.Cmd} (h : Cm.Small c) {ts : List ByteArray} (ht : ∀ t ∈ ts, t.size ≤ 3000) : Cm.Small (Cm.swap c ts) := by
  have hn := Cm.nx_size ts 3000 ht
  have hp := Cm.swP_size ts 3000 hn 0 c.parts (fun p hp => (h.parts p hp).2)
  have hl : (Cm.swap c ts).parts.length ≤ 40 := by rw [Cm.swap_parts]; exact h.len
  obtain ⟨h1, h2, h3, h4, h5, h6, h7⟩ := h
  unfold Cm.swap at hl ⊢
  repeat' split
  all_goals first | exact ⟨hn _, hn _, h3, h4, h5, h6, h7⟩ | exact ⟨hn _, h2, h3, h4, h5, h6, h7⟩ | exact ⟨hn _, hn _, hn _, h4, h5, h6, h7⟩ | exact ⟨h1, h2, h3, hn _, hn _, h6, h7⟩ | exact ⟨h1, h2, h3, h4, h5, h6, h7⟩ | exact ⟨h1, h2, h3, h4, h5, (by rw [Cm.swP_len]; exact h6), hp⟩
theorem bytes_small2 {c : Cm.Cmd} (hf : Cm.Fits c) (h : Cm.Small c) : (Cm.bytes c).length ≤ 10000000 := by
  have h1 := bytes_small hf h
  exact h1
theorem read_write {c : Cm.Cmd} (hf : Cm.Fits c) (h : Cm.Small c) (hm : Cm.may c = true) : Cm.read (Cm.write c) = some c := by
  unfold Cm.write; rw [hm, if_pos rfl]
  exact (Cm.read_iff _ _).2 ⟨small_shape hf h hm, hm, rfl⟩
/-- A command in block q, with its parts. -/
structure Has (W : World) (q : Nat) (c : Cm.Cmd) (A : Option Addr) (cap : Nat) : Prop where
  row : W.heap[q]? = some (.cells (cmdC c A cap) 27 (0, 0))
  lies : Lies W A (pc c.parts)
theorem Has.below {W W' : World} {q : Nat} {c : Cm.Cmd} {A : Option Addr} {cap : Nat} (h : Has W q c A cap) (hb : Below W.heap.size W W') : Has W' q c A cap :=
  ⟨(hb.block q (Array.getElem?_eq_some_iff.1 h.row).1).trans h.row, h.lies.below hb⟩
theorem Has.new {W : World} {c : Cm.Cmd} {A : Option Addr} {cap : Nat} (h : Lies W A (pc c.parts)) {P : Array Value} (hP : P = cmdC c A cap) : Has (W.alloc (.cells P 27)) W.heap.size c A cap :=
  ⟨by rw [← hP]; exact heap_alloc_new W _, h.below (bnew (Below.refl _ _) _)⟩
set_option maxRecDepth 100000 in
set_option maxHeartbeats 8000000 in
theorem cmdLengths_go (c : Cm.Cmd) (A : Option Addr) (cap : Nat) (hnil : A = none → cap = 0) (ts : List ByteArray) (B : Option Addr) (cb : Nat) (w : World) (hA : Lies w A (pc c.parts)) (hB : Lies w B (sc ts)) (hf : Cm.Fits c) (hm : ts.length ≤ maxLen) :
    Calls Try.prog 7 #[.agg (cmdC c A cap), .slice B ts.length cb] w fun e w' => e = .returned (.bool true) ∧ Below w.heap.size w w' := by
  have HG : Hid (∀ W, Below w.heap.size w W → _) := Lib.hid fun W hb => great_any c A cap W (hA.below hb)
  have HAw := Lib.hid cmdAwake_any
  have FX := cmdF c A cap
  obtain ⟨X, hX⟩ : ∃ X, X = cmdC c A cap := ⟨_, rfl⟩
  rw [← hX] at FX HG ⊢
  have HX := Lib.hid hX
  have hx := FX.size
  have Hsz : Hid ((Try.prog.info? 27).map (·.size) = some X.size) := Lib.hid (by rw [hx]; exact sizeCmd)
  have Hrow0 := Lib.hid (heap_alloc_new w (.cells X 27))
  unfold maxLen at hm
  clear hX FX
  cases hg : Cm.great c
  case true =>
    rw [hg] at HG
    clear hg
    go_enter Try.func7, Try.ntmps7
    go_wp2_with (refine wpList_load_row rfl 27 _ rfl w.heap.size rfl 27 X (0, 0) _ Hrow0.out Try.underlying27 rfl Hsz.out ?_)
    refine (HG.out _ (bnew (Below.refl _ _) _)).mono ?_
    rintro e w1 ⟨rfl, hb1⟩
    have HB1 := Lib.hid (bnext (bnew (Below.refl _ _) _) hb1)
    clear hb1
    go_wp2_with fail
    refine (HAw.out _).mono ?_
    rintro e w2 ⟨rfl, hb2⟩
    have HB2 := Lib.hid (HB1.out.trans (hb2.mono HB1.out.size))
    clear hb2 HB1
    go_wp2_with fail
    go_ret
    exact ⟨rfl, HB2.out⟩
  case false =>
    rw [hg] at HG
    have hs := Cm.small_of hg
    have Hs := Lib.hid hs
    have HA := Lib.hid hA
    have HB := Lib.hid hB
    clear hg hA hB hs
    by_cases h20 : 20 < ts.length
    · have d20 : decide ((20 : Int) < (ts.length : Int)) = true := dec_t h20
      clear h20
      go_enter Try.func7, Try.ntmps7
      go_wp2_with (refine wpList_load_row rfl 27 _ rfl w.heap.size rfl 27 X (0, 0) _ Hrow0.out Try.underlying27 rfl Hsz.out ?_)
      refine (HG.out _ (bnew (Below.refl _ _) _)).mono ?_
      rintro e w1 ⟨rfl, hb1⟩
      have HB1 := Lib.hid (bnext (bnew (Below.refl _ _) _) hb1)
      clear hb1
      go_wp2_with fail
      refine (HAw.out _).mono ?_
      rintro e w2 ⟨rfl, hb2⟩
      have HB2 := Lib.hid (HB1.out.trans (hb2.mono HB1.out.size))
      clear hb2 HB1
      go_wp2_with fail
      go_ret
      exact ⟨rfl, HB2.out⟩
    have d20 : decide ((20 : Int) < (ts.length : Int)) = false := dec_f h20
    have hl20 : ts.length ≤ 20 := by omega
    clear h20
    go_enter Try.func7, Try.ntmps7
    go_wp2_with (refine wpList_load_row rfl 27 _ rfl w.heap.size rfl 27 X (0, 0) _ Hrow0.out Try.underlying27 rfl Hsz.out ?_)
    refine (HG.out _ (bnew (Below.refl _ _) _)).mono ?_
    rintro e w1 ⟨rfl, hb1⟩
    have HB1 := Lib.hid (And.intro (bnext (bnew (Below.refl _ _) _) hb1) ((hb1.block _ (by simp)).trans Hrow0.out))
    clear hb1 HG Hrow0
    go_wp2_with fail
    clear d20
    go_loop [5] (fun i => ∃ k : Nat, k ≤ ts.length ∧ i = .int .i64 (k : Int) ∧ ∀ t ∈ ts.take k, t.size ≤ 3000) (fun i => ts.length - (intOf i).toNat)
    case atStart => exact ⟨0, Nat.zero_le _, rfl, by simp⟩
    case round =>
      obtain ⟨k, hk, rfl, hall⟩ := hrel
      have Hall := Lib.hid hall
      clear hall
      by_cases hlt : k < ts.length
      · obtain ⟨b, off, rfl, hlb, hc⟩ : ∃ b off, B = some ⟨b, off, none⟩ ∧ b < w.heap.size ∧ ∀ i u, (sc ts)[i]? = some u → w.cell? ⟨b, off + i, none⟩ = some u := by
          rcases HB.out with h | h
          · exfalso; have := congrArg List.length h; simp [sc] at this; rw [this] at hlt; simp at hlt
          · exact h
        have e1 : w1.cell? ⟨b, off + k, none⟩ = some (.string ts[k]) := (HB1.out.1.cell (p := ⟨b, off + k, none⟩) hlb).trans (hc k _ (by simp [sc, hlt]))
        have hst : ∀ t ∈ ts.take (k + 1), t.size ≤ 3000 ∨ t = ts[k] := fun t ht => by
          rw [List.take_succ_eq_append_getElem hlt] at ht
          rcases List.mem_append.1 ht with h | h
          · exact .inl (Hall.out t h)
          · exact .inr (by simpa using h)
        obtain ⟨t, ht⟩ : ∃ t, t = ts[k] := ⟨_, rfl⟩
        rw [← ht] at e1 hst
        have Hst := Lib.hid hst
        clear hc ht hst
        by_cases h3 : 3000 < t.size
        · have d3 : decide ((3000 : Int) < (t.size : Int)) = true := dec_t h3
          clear h3
          go_wp2_with fail
          refine (HAw.out _).mono ?_
          rintro e w2 ⟨rfl, hb2⟩
          have HB2 := Lib.hid (HB1.out.1.trans (hb2.mono HB1.out.1.size))
          clear hb2 HB1
          go_wp2_with fail
          go_ret
          exact ⟨rfl, HB2.out⟩
        · have d3 : decide ((3000 : Int) < (t.size : Int)) = false := dec_f h3
          have Hle : Hid (t.size ≤ 3000) := Lib.hid (by omega)
          clear h3
          go_wp2_with fail
          go_round
          case rel => exact ⟨k + 1, by omega, by go_num, fun x hx => (by
            rcases Hst.out x hx with h | h
            · exact h
            · rw [h]; exact Hle.out)⟩
          case measure => simp [intOf]; omega
      · obtain rfl : k = ts.length := by omega
        have Ht : Hid (∀ t ∈ ts, t.size ≤ 3000) := Lib.hid (by have := Hall.out; rwa [List.take_length] at this)
        clear Hall
        go_upto_region 8 with (fail)
        have hsw := fun (W : World) (hb : Below w.heap.size w W) => swap_any c hf Hs.out.len A cap hnil ts B cb W (HA.out.below hb) (HB.out.below hb) hl20
        rw [← HX.out] at hsw
        obtain ⟨d, hd⟩ : ∃ d, d = Cm.swap c ts := ⟨_, rfl⟩
        have hdm : Cm.may d = Cm.may c := by rw [hd]; exact Cm.swap_may c ts
        have hdf : Cm.Fits d := by rw [hd]; exact Cm.swap_fits hf ts
        have hds : Cm.Small d := by rw [hd]; exact small_swap Hs.out Ht.out
        rw [← hd] at hsw
        have Hsw := Lib.hid hsw
        have Hd := Lib.hid (And.intro hdm (And.intro hdf hds))
        clear hsw hd hdm hdf hds
        go_wp2_with (refine wpList_load_row rfl 27 _ rfl w.heap.size rfl 27 X (0, 0) _ HB1.out.2 Try.underlying27 rfl Hsz.out ?_)
        refine (Hsw.out _ HB1.out.1).mono ?_
        rintro e w2 ⟨A2, cap2, rfl, hL2, hb2⟩
        have FP := cmdF d A2 cap2
        obtain ⟨P, hP⟩ : ∃ P, P = cmdC d A2 cap2 := ⟨_, rfl⟩
        rw [← hP] at FP ⊢
        have hst := storeCmd P FP.size FP.one
        have hps := FP.size
        have HszP : Hid ((Try.prog.info? 27).map (·.size) = some P.size) := Lib.hid (by rw [hps]; exact sizeCmd)
        have HP := Lib.hid hP
        have HL2 := Lib.hid (And.intro hL2 hb2)
        clear hP FP hL2 hb2 Hsw
        go_upto_region 9 with (fail)
        refine forget (fun W => Below w.heap.size w W ∧ Has W w.heap.size c A cap ∧ Has W w2.heap.size d A2 cap2) ?_ ?_
        · have h1 : Has w1 w.heap.size c A cap := ⟨by rw [← HX.out]; exact HB1.out.2, HA.out.below HB1.out.1⟩
          exact ⟨bnew (HB1.out.1.trans (HL2.out.2.mono HB1.out.1.size)) _, (h1.below HL2.out.2).below (bnew (Below.refl _ _) _), Has.new HL2.out.1 HP.out⟩
        obtain ⟨q, hq⟩ : ∃ q, q = w2.heap.size := ⟨_, rfl⟩
        rw [← hq]
        clear hst HL2 HB1 hq
        rintro W3 ⟨hb3, hc3, hd3⟩
        have hrx := hc3.row
        rw [← HX.out] at hrx
        have Hrx := Lib.hid hrx
        have HS3 := Lib.hid (And.intro hb3 (And.intro hc3 hd3))
        have hwc := cmdWrite_any c hf (Hs.out.short hf) A cap W3 hc3.lies
        rw [← HX.out] at hwc
        have Hwc := Lib.hid hwc
        clear hb3 hc3 hd3 hrx hwc
        have HW : Hid (Cm.write c = if Cm.may c then Cm.bytes c else []) := Lib.hid rfl
        have HWd : Hid (Cm.write d = if Cm.may c then Cm.bytes d else []) := Lib.hid (by unfold Cm.write; rw [Hd.out.1])
        obtain ⟨s, hs⟩ : ∃ s : ByteArray, s = ⟨(Cm.write c).toArray⟩ := ⟨_, rfl⟩
        obtain ⟨t, ht⟩ : ∃ t : ByteArray, t = ⟨(Cm.write d).toArray⟩ := ⟨_, rfl⟩
        unfold RetS at Hwc
        rw [← hs] at Hwc
        have Hst := Lib.hid (And.intro hs ht)
        clear hs ht
        go_wp2_with (refine wpList_load_row rfl 27 _ rfl w.heap.size rfl 27 X (0, 0) _ Hrx.out Try.underlying27 rfl Hsz.out ?_)
        refine Hwc.out.mono ?_
        rintro e w4 ⟨rfl, hb4⟩
        have HS4 := Lib.hid (And.intro (HS3.out.1.trans (hb4.mono HS3.out.1.size)) (And.intro (HS3.out.2.1.below hb4) (HS3.out.2.2.below hb4)))
        have hrp := HS4.out.2.2.row
        rw [← HP.out] at hrp
        have Hrp := Lib.hid hrp
        have hwd := cmdWrite_any d Hd.out.2.1 (Hd.out.2.2.short Hd.out.2.1) A2 cap2 w4 HS4.out.2.2.lies
        rw [← HP.out] at hwd
        unfold RetS at hwd
        rw [← Hst.out.2] at hwd
        have Hwd := Lib.hid hwd
        clear hb4 HS3 Hrx Hwc hrp hwd
        go_wp2_with (refine wpList_load_row rfl 27 _ rfl q rfl 27 P (0, 0) _ Hrp.out Try.underlying27 rfl HszP.out ?_)
        refine Hwd.out.mono ?_
        rintro e w5 ⟨rfl, hb5⟩
        have HS5 := Lib.hid (And.intro (HS4.out.1.trans (hb5.mono HS4.out.1.size)) (And.intro (HS4.out.2.1.below hb5) (HS4.out.2.2.below hb5)))
        clear hb5 HS4 Hrp Hwd
        cases hmay : Cm.may c
        · have e1 : s = ⟨#[]⟩ := by rw [Hst.out.1, HW.out, hmay]; rfl
          have e2 : t = ⟨#[]⟩ := by rw [Hst.out.2, HWd.out, hmay]; rfl
          subst e1 e2
          clear hmay
          go_wp2_with fail
          refine (HAw.out _).mono ?_
          rintro e w6 ⟨rfl, hb6⟩
          have HB6 := Lib.hid (HS5.out.1.trans (hb6.mono HS5.out.1.size))
          clear hb6
          go_wp2_with fail
          go_ret
          exact ⟨rfl, HB6.out⟩
        have hne : ∀ (x : Cm.Cmd), Cm.may x = true → (⟨(Cm.write x).toArray⟩ : ByteArray).toList.isEmpty = false := fun x hx => by
          rw [ByteArray.toList_eq]
          unfold Cm.write; rw [hx, if_pos rfl]
          have := Cm.bytes_ne x
          cases h : Cm.bytes x with
          | nil => exact absurd h this
          | cons a l => rfl
        have e1 : s.toList.isEmpty = false := by rw [Hst.out.1]; exact hne c hmay
        have e2 : t.toList.isEmpty = false := by rw [Hst.out.2]; exact hne d (by rw [Hd.out.1]; exact hmay)
        have hsz : ∀ (x : Cm.Cmd), Cm.Fits x → Cm.Small x → (⟨(Cm.write x).toArray⟩ : ByteArray).size ≤ 10000000 ∧ True := fun x hx hsx => ⟨by
          rw [Lib.size_eq]; unfold Cm.write; split
          · have := bytes_small2 hx hsx; simpa using this
          · simp, trivial⟩
        have hrc := cmdRead_any s w5 (by rw [Hst.out.1]; exact (hsz c hf Hs.out).1)
        have hrd := fun W => cmdRead_any t W (by rw [Hst.out.2]; exact (hsz d Hd.out.2.1 Hd.out.2.2).1)
        have er1 : Cm.read s.data.toList = some c := by rw [Hst.out.1]; exact read_write hf Hs.out hmay
        have er2 : Cm.read t.data.toList = some d := by rw [Hst.out.2]; exact read_write Hd.out.2.1 Hd.out.2.2 (by rw [Hd.out.1]; exact hmay)
        rw [er1] at hrc
        rw [er2] at hrd
        have heq : (s.toList == t.toList) = Cm.same c d := by
          have h1 := small_shape hf Hs.out hmay
          have h2 := small_shape Hd.out.2.1 Hd.out.2.2 (by rw [Hd.out.1]; exact hmay)
          rw [Bool.eq_iff_iff, beq_iff_eq, Cm.same_iff, ← Cm.bytes_inj h1 h2, ByteArray.toList_eq, ByteArray.toList_eq, Hst.out.1, Hst.out.2, HW.out, HWd.out, hmay]
          simp
        have Hrc := Lib.hid hrc
        have Hrd := Lib.hid hrd
        have Heq := Lib.hid heq
        have Hmay := Lib.hid hmay
        clear hne hsz hrc hrd er1 er2 heq hmay
        go_wp2_with fail
        refine Hrc.out.mono ?_
        rintro e w6 ⟨A3, cap3, rfl, hL6, hb6⟩
        have hL6 : Lies w6 A3 (pc c.parts) := hL6
        have HS6 := Lib.hid (And.intro (And.intro (HS5.out.1.trans (hb6.mono HS5.out.1.size)) (And.intro (HS5.out.2.1.below hb6) (HS5.out.2.2.below hb6))) hL6)
        have FQ := cmdF c A3 cap3
        obtain ⟨Q, hQ⟩ : ∃ Q, Q = cmdC c A3 cap3 := ⟨_, rfl⟩
        rw [show ((some c).getD Cm.zero) = c from rfl, show (some c).isSome = true from rfl]
        rw [← hQ] at FQ ⊢
        have hst := storeCmd Q FQ.size FQ.one
        have hqs := FQ.size
        have HQ := Lib.hid hQ
        clear hb6 hL6 FQ hQ HS5 Hrc
        go_upto_region 16 with (fail)
        refine forget (fun W => (Below w.heap.size w W ∧ Has W w.heap.size c A cap ∧ Has W q d A2 cap2) ∧ Has W w6.heap.size c A3 cap3) ?_ ?_
        · obtain ⟨⟨h1, h2, h3⟩, h4⟩ := HS6.out
          exact ⟨⟨bnew h1 _, h2.below (bnew (Below.refl _ _) _), h3.below (bnew (Below.refl _ _) _)⟩, Has.new h4 HQ.out⟩
        obtain ⟨r, hr⟩ : ∃ r, r = w6.heap.size := ⟨_, rfl⟩
        rw [← hr]
        clear hst hqs HS6 hr
        rintro W7 hS7
        have HS7 := Lib.hid hS7
        clear hS7
        go_wp2_with fail
        refine (Hrd.out _).mono ?_
        rintro e w8 ⟨A4, cap4, rfl, hL8, hb8⟩
        have hL8 : Lies w8 A4 (pc d.parts) := hL8
        have HS8 := Lib.hid (And.intro (And.intro (And.intro (HS7.out.1.1.trans (hb8.mono HS7.out.1.1.size)) (And.intro (HS7.out.1.2.1.below hb8) (HS7.out.1.2.2.below hb8))) (HS7.out.2.below hb8)) hL8)
        have FR := cmdF d A4 cap4
        obtain ⟨R, hR⟩ : ∃ R, R = cmdC d A4 cap4 := ⟨_, rfl⟩
        rw [show ((some d).getD Cm.zero) = d from rfl, show (some d).isSome = true from rfl]
        rw [← hR] at FR ⊢
        have hst := storeCmd R FR.size FR.one
        have hrs := FR.size
        have HR := Lib.hid hR
        clear hb8 hL8 FR hR HS7 Hrd
        go_upto_region 17 with (fail)
        refine forget (fun W => ((Below w.heap.size w W ∧ Has W w.heap.size c A cap ∧ Has W q d A2 cap2) ∧ Has W r c A3 cap3) ∧ Has W w8.heap.size d A4 cap4) ?_ ?_
        · obtain ⟨⟨⟨h1, h2, h3⟩, h4⟩, h5⟩ := HS8.out
          exact ⟨⟨⟨bnew h1 _, h2.below (bnew (Below.refl _ _) _), h3.below (bnew (Below.refl _ _) _)⟩, h4.below (bnew (Below.refl _ _) _)⟩, Has.new h5 HR.out⟩
        obtain ⟨u, hu⟩ : ∃ u, u = w8.heap.size := ⟨_, rfl⟩
        rw [← hu]
        clear hst hrs HS8 hu
        rintro W9 ⟨⟨⟨h1, h2⟩, h3⟩, h4⟩
        have HS9 := Lib.hid (And.intro h1 (And.intro h2.1 (And.intro h2.2 (And.intro h3 h4))))
        have hlc : c.parts.length ≤ 1000000 := by have := Hs.out.len; omega
        have hld : d.parts.length ≤ 1000000 := by have := Hd.out.2.2.len; omega
        obtain ⟨x0, x1, x2, x3, x4, x5, x6, x7, x8, x9, x10, x11, _⟩ := cmdAt h3.row
        obtain ⟨y0, y1, y2, y3, y4, y5, y6, y7, y8, y9, y10, y11, _⟩ := cmdAt h2.1.row
        have hsm := same_any c c A3 A cap3 cap W9 h3.lies h2.1.lies hlc
        rw [Cm.same_refl] at hsm
        have Hsm := Lib.hid hsm
        clear h1 h2 h3 h4 hsm
        go_wp2_with fail
        refine Hsm.out.mono ?_
        rintro e w10 ⟨rfl, hb10⟩
        clear x0 x1 x2 x3 x4 x5 x6 x7 x8 x9 x10 x11 y0 y1 y2 y3 y4 y5 y6 y7 y8 y9 y10 y11 Hsm
        obtain ⟨h1, h2, h2', h3, h4⟩ := HS9.out
        have HS10 := Lib.hid (And.intro (h1.trans (hb10.mono h1.size)) (And.intro (h2.below hb10) (And.intro (h2'.below hb10) (h4.below hb10))))
        clear h1 h2 h2' h3 h4 hb10 HS9
        obtain ⟨h1, h2, h3, h4⟩ := HS10.out
        obtain ⟨x0, x1, x2, x3, x4, x5, x6, x7, x8, x9, x10, x11, _⟩ := cmdAt h4.row
        obtain ⟨y0, y1, y2, y3, y4, y5, y6, y7, y8, y9, y10, y11, _⟩ := cmdAt h3.row
        have hsm := same_any d d A4 A2 cap4 cap2 w10 h4.lies h3.lies hld
        rw [Cm.same_refl] at hsm
        have Hsm := Lib.hid hsm
        clear h1 h2 h3 h4 hsm
        go_wp2_with fail
        refine Hsm.out.mono ?_
        rintro e w11 ⟨rfl, hb11⟩
        clear x0 x1 x2 x3 x4 x5 x6 x7 x8 x9 x10 x11 y0 y1 y2 y3 y4 y5 y6 y7 y8 y9 y10 y11 Hsm
        obtain ⟨h1, h2, h3, h4⟩ := HS10.out
        have HS11 := Lib.hid (And.intro (h1.trans (hb11.mono h1.size)) (And.intro (h2.below hb11) (h3.below hb11)))
        clear h1 h2 h3 h4 hb11 HS10
        obtain ⟨h1, h2, h3⟩ := HS11.out
        obtain ⟨x0, x1, x2, x3, x4, x5, x6, x7, x8, x9, x10, x11, _⟩ := cmdAt h2.row
        obtain ⟨y0, y1, y2, y3, y4, y5, y6, y7, y8, y9, y10, y11, _⟩ := cmdAt h3.row
        have hsm := same_any c d A A2 cap cap2 w11 h2.lies h3.lies hlc
        have heq := Heq.out
        generalize Cm.same c d = bb at hsm heq
        have Hsm := Lib.hid hsm
        clear h1 h2 h3 hsm Heq
        have hbb : (bb == bb) = true := by simp
        go_wp2_with fail
        refine Hsm.out.mono ?_
        rintro e w12 ⟨rfl, hb12⟩
        have HB12 := Lib.hid (HS11.out.1.trans (hb12.mono HS11.out.1.size))
        clear x0 x1 x2 x3 x4 x5 x6 x7 x8 x9 x10 x11 y0 y1 y2 y3 y4 y5 y6 y7 y8 y9 y10 y11 Hsm hb12 HS11
        cases bb
        · go_wp2_with fail
          refine (HAw.out _).mono ?_
          rintro e w13 ⟨rfl, hb13⟩
          have HB13 := Lib.hid (HB12.out.trans (hb13.mono HB12.out.size))
          clear hb13
          go_wp2_with fail
          go_ret
          exact ⟨rfl, HB13.out⟩
        · go_wp2_with fail
          refine (HAw.out _).mono ?_
          rintro e w13 ⟨rfl, hb13⟩
          have HB13 := Lib.hid (HB12.out.trans (hb13.mono HB12.out.size))
          clear hb13
          go_wp2_with fail
          go_ret
          exact ⟨rfl, HB13.out⟩
theorem cmdLengths_walk (w : World) (c : Cm.Cmd) (A : Option Addr) (cap : Nat) (h : Given w c A cap) (B : Option Addr) (cb : Nat) (ts : List ByteArray) (hB : Lies w B (sc ts)) (_ : ∀ t ∈ ts, t.size ≤ maxLen) (hm : ts.length ≤ maxLen) :
    Calls Try.prog 7 #[.agg (cmdC c A cap), .slice B ts.length cb] w fun e w' => e = .returned (.bool true) ∧ Below w.heap.size w w' := cmdLengths_go c A cap h.nil ts B cb w h.lies hB h.fits hm
end Go.Proofs.Ytaebbmhjnhhemaa
