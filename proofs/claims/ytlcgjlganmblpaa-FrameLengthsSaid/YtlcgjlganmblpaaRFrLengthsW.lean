/-
  FrameLengths walked. WRITTEN BY wip/tools/gen_frlen.py.
-/
import Derived.Test.YtlcgjlganmblpaaRFrAw
import Derived.Test.YtlcgjlganmblpaaROpen
import Derived.Test.YtlcgjlganmblpaaRSwp
set_option linter.unusedSimpArgs false
set_option linter.unusedVariables false
namespace Go.Proofs.Ytlcgjlganmblpaa
open Go.RowKit
set_option linter.unusedVariables false
theorem HasF.sets {W : World} {q g k : Nat} {f h : Fr.F} {A B : Option Addr} {cap cb : Nat} {l : List Value} (hq : HasF W q f A cap) (hg : W.heap[g]? = some (.cells (frC h B cb) 32 (0, 0))) (hne : q ≠ g) : HasF (W.setCells g k l) q f A cap :=
  ⟨(setCells_other hne _ _ _).trans hq.row, hq.lies.sets (fr_apart hg hq.lies)⟩
def Held1 (w : World) (g : Nat) (f : Fr.F) (A : Option Addr) (cap : Nat) (W : World) : Prop := Below w.heap.size w W ∧ HasF W g f A cap
theorem toks_ne {l : List UInt8} (h : l ≠ []) : (⟨l.toArray⟩ : ByteArray).toList.isEmpty = false := by
  rw [ByteArray.toList_eq]
  cases l with
  | nil => exact absurd rfl h
  | cons a l => rfl
set_option maxRecDepth 100000 in
set_option maxHeartbeats 8000000 in
theorem frameLengths_walk (w : World) (f : Fr.F) (A : Option Addr) (cap : Nat) (gv : GivenF w f A cap) (B : Option Addr) (cb : Nat) (ts : List ByteArray) (hB : Lies w B (sc ts)) (_ : ∀ t ∈ ts, t.size ≤ maxLen) (hm : ts.length ≤ maxLen) :
    Calls Try.prog 6 #[.agg (frC f A cap), .slice B ts.length cb] w fun e w' => e = .returned (.bool true) ∧ Below w.heap.size w w' := by
  have HG := Lib.hid (fun W (hb : Below w.heap.size w W) => great_any6 f A cap W (gv.lies.below hb))
  have HAw := Lib.hid fAwake_any
  have HzX := Lib.hid (sizeFrC f A cap)
  obtain ⟨X, hX⟩ : ∃ X, X = frC f A cap := ⟨_, rfl⟩
  rw [← hX] at HG HzX ⊢
  have HX := Lib.hid hX
  have Hrow0 := Lib.hid (heap_alloc_new w (.cells X 32))
  have Hgv := Lib.hid gv
  have HB := Lib.hid hB
  unfold maxLen at hm
  clear hX gv hB
  cases hg : Cm.great f.cmd
  case true =>
    rw [hg] at HG
    clear hg
    go_enter Try.func6, Try.ntmps6
    go_wp2_with (refine wpList_load_sub rfl 32 _ rfl w.heap.size 0 rfl 32 X X (0, 0) _ Hrow0.out (subAll _) Try.underlying32 rfl HzX.out ?_)
    refine (HG.out _ (bnew (Below.refl _ _) _)).mono ?_
    rintro e w1 ⟨rfl, hb1⟩
    have HB1 := Lib.hid (bnext (bnew (Below.refl _ _) _) hb1)
    clear hb1
    go_wp2_with fail
    refine (HAw.out _).mono ?_
    rintro e w2 ⟨rfl, hb2⟩
    have HB2 := Lib.hid (bnext HB1.out hb2)
    clear hb2 HB1
    go_wp2_with fail
    go_ret
    exact ⟨rfl, HB2.out⟩
  rw [hg] at HG
  have Hs := Lib.hid (Cm.small_of hg)
  clear hg
  by_cases h20 : 20 < ts.length
  case pos =>
    have d20 : decide ((20 : Int) < (ts.length : Int)) = true := dec_t h20
    clear h20
    go_enter Try.func6, Try.ntmps6
    go_wp2_with (refine wpList_load_sub rfl 32 _ rfl w.heap.size 0 rfl 32 X X (0, 0) _ Hrow0.out (subAll _) Try.underlying32 rfl HzX.out ?_)
    refine (HG.out _ (bnew (Below.refl _ _) _)).mono ?_
    rintro e w1 ⟨rfl, hb1⟩
    have HB1 := Lib.hid (bnext (bnew (Below.refl _ _) _) hb1)
    clear hb1
    go_wp2_with fail
    refine (HAw.out _).mono ?_
    rintro e w2 ⟨rfl, hb2⟩
    have HB2 := Lib.hid (bnext HB1.out hb2)
    clear hb2 HB1
    go_wp2_with fail
    go_ret
    exact ⟨rfl, HB2.out⟩
  have d20 : decide ((20 : Int) < (ts.length : Int)) = false := dec_f h20
  have hl20 : ts.length ≤ 20 := by omega
  clear h20
  go_enter Try.func6, Try.ntmps6
  go_wp2_with (refine wpList_load_sub rfl 32 _ rfl w.heap.size 0 rfl 32 X X (0, 0) _ Hrow0.out (subAll _) Try.underlying32 rfl HzX.out ?_)
  refine (HG.out _ (bnew (Below.refl _ _) _)).mono ?_
  rintro e w1 ⟨rfl, hb1⟩
  have HB1 := Lib.hid (And.intro (bnext (bnew (Below.refl _ _) _) hb1) ((hb1.block _ (by simp)).trans Hrow0.out))
  clear hb1 HG Hrow0
  go_wp2_with fail
  clear d20
  go_loop [5] (fun i => ∃ k : Nat, k ≤ ts.length ∧ i = .int .i64 (k : Int) ∧ ∀ t ∈ ts.take k, t.size ≤ 3000) (fun i => ts.length - (intOf i).toNat)
  case atStart => exact ⟨0, Nat.zero_le _, rfl, by simp⟩
  case round =>
    obtain ⟨k, hk, rfl, hall⟩ := hrel
    have Hall := Lib.hid hall
    clear hall
    by_cases hlt : k < ts.length
    · obtain ⟨b, off, rfl, hlb, hc⟩ : ∃ b off, B = some ⟨b, off, none⟩ ∧ b < w.heap.size ∧ ∀ i u, (sc ts)[i]? = some u → w.cell? ⟨b, off + i, none⟩ = some u := by
        rcases HB.out with h | h
        · exfalso; have := congrArg List.length h; simp [sc] at this; rw [this] at hlt; simp at hlt
        · exact h
      have e1 : w1.cell? ⟨b, off + k, none⟩ = some (.string ts[k]) := (HB1.out.1.cell (p := ⟨b, off + k, none⟩) hlb).trans (hc k _ (by simp [sc, hlt]))
      have hst : ∀ t ∈ ts.take (k + 1), t.size ≤ 3000 ∨ t = ts[k] := fun t ht => by
        rw [List.take_succ_eq_append_getElem hlt] at ht
        rcases List.mem_append.1 ht with h | h
        · exact .inl (Hall.out t h)
        · exact .inr (by simpa using h)
      obtain ⟨t, ht⟩ : ∃ t, t = ts[k] := ⟨_, rfl⟩
      rw [← ht] at e1 hst
      have Hst := Lib.hid hst
      clear hc ht hst
      by_cases h3 : 3000 < t.size
      · have d3 : decide ((3000 : Int) < (t.size : Int)) = true := dec_t h3
        clear h3
        go_wp2_with fail
        refine (HAw.out _).mono ?_
        rintro e w2 ⟨rfl, hb2⟩
        have HB2 := Lib.hid (bnext HB1.out.1 hb2)
        clear hb2 HB1
        go_wp2_with fail
        go_ret
        exact ⟨rfl, HB2.out⟩
      · have d3 : decide ((3000 : Int) < (t.size : Int)) = false := dec_f h3
        have Hle : Hid (t.size ≤ 3000) := Lib.hid (by omega)
        clear h3
        go_wp2_with fail
        go_round
        case rel => exact ⟨k + 1, by omega, by go_num, fun x hx => (by
          rcases Hst.out x hx with h | h
          · exact h
          · rw [h]; exact Hle.out)⟩
        case measure => simp [intOf]; omega
    · obtain rfl : k = ts.length := by omega
      have Ht : Hid (∀ t ∈ ts, t.size ≤ 3000) := Lib.hid (by have := Hall.out; rwa [List.take_length] at this)
      clear Hall hk hlt
      go_upto_region 8 with (fail)
      refine forget (Held1 w w.heap.size f A cap) ⟨HB1.out.1, by rw [← HX.out]; exact HB1.out.2, Hgv.out.lies.below HB1.out.1⟩ ?_
      obtain ⟨g0, hg0⟩ : ∃ g, g = w.heap.size := ⟨_, rfl⟩
      rw [← hg0]
      clear HB1 hg0
      intro W hall
      have HM := Lib.hid (show Below w.heap.size w W ∧ HasF W g0 f A cap from hall)
      clear hall
      have HSw := Lib.hid (fun (W : World) (hb : Below w.heap.size w W) => swap_any f.cmd Hgv.out.fits.cmd Hs.out.len A cap Hgv.out.nil ts B cb W (Hgv.out.lies.below hb) (HB.out.below hb) hl20)
      go_upto_region 9 with (first | (refine wpList_load_sub rfl 32 _ rfl g0 0 rfl 32 (frC f A cap) (frC f A cap) (0, 0) _ HM.out.2.row (subAll _) Try.underlying32 rfl (sizeFrC _ _ _) ?_) | (refine wpList_store_sub rfl 32 _ _ rfl W.heap.size 0 rfl 32 (frC Fr.F.zero none 0) (frC f A cap) rfl ?_ (Nat.le_refl 37) (sizeFrC _ _ _) (frC_one _ _ _) ?_; exact heap_alloc_new W _))
      have hbb := laidB W (.cells (frC Fr.F.zero none 0) 32) (frC f A cap).toList
      refine forget (fun V => (Below w.heap.size w V ∧ HasF V g0 f A cap ∧ V.heap[W.heap.size]? = some (.cells (frC f A cap) 32 (0, 0))) ∧ g0 ≠ W.heap.size ∧ w.heap.size ≤ W.heap.size) (And.intro (And.intro (bnext HM.out.1 hbb) (And.intro (HM.out.2.below hbb) (HasF.laid HM.out.2.lies).row)) (And.intro (Nat.ne_of_lt (Array.getElem?_eq_some_iff.1 HM.out.2.row).1) HM.out.1.size)) ?_
      clear HM hbb
      obtain ⟨g1, hg1⟩ : ∃ g, g = W.heap.size := ⟨_, rfl⟩
      rw [← hg1]
      clear hg1 W
      rintro W ⟨hall, hne, hle⟩
      have HM := Lib.hid hall
      have HNe := Lib.hid hne
      have HG1 := Lib.hid hle
      clear hall hne hle
      go_wp2_with (refine wpList_load_sub rfl 30 _ rfl g0 9 rfl 32 (frC f A cap) (cmdC f.cmd A cap) (0, 0) _ HM.out.2.1.row (subCmd _ _ _) Try.underlying30 rfl (sizeCmdC _ _ _) ?_)
      refine (HSw.out _ HM.out.1).mono ?_
      rintro e w2 ⟨A2, cap2, rfl, hL2, hb2⟩
      have HM2 := Lib.hid (And.intro (And.intro (bnext HM.out.1 hb2) (And.intro (HM.out.2.1.below hb2) ((hb2.block _ (Array.getElem?_eq_some_iff.1 HM.out.2.2).1).trans HM.out.2.2))) hL2)
      clear HM hL2 hb2 HSw
      go_upto_region 10 with (refine wpList_store_sub rfl 30 _ _ rfl g1 9 rfl 32 (frC f A cap) (cmdC (Cm.swap f.cmd ts) A2 cap2) rfl HM2.out.1.2.2 (show 9 + 12 ≤ 37 by omega) (sizeCmdC _ _ _) (cmdC_one _ _ _) ?_)
      refine forget (fun W => Below w.heap.size w W ∧ HasF W g0 f A cap ∧ HasF W g1 (Fr.swapF f ts) A2 cap2) (by
        obtain ⟨⟨q1, q2, q3⟩, q4⟩ := HM2.out
        exact ⟨setCells_below HG1.out _ _ _ q1, q2.sets q3 HNe.out, (row_setCells _ 9 _ _ q3).trans (by rw [layCmd]; rfl), q4.sets (fr_apart q3 q4)⟩) ?_
      clear HM2 HNe HG1
      intro W hall
      have HM := Lib.hid hall
      clear hall
      obtain ⟨G, hG⟩ : ∃ G, G = Fr.swapF f ts := ⟨_, rfl⟩
      rw [← hG] at HM
      have hok := Fr.ok_small Hgv.out.fits Hs.out
      have hsm2 : Cm.Small G.cmd := by rw [hG]; exact small_swap Hs.out Ht.out
      have hfg : Fr.Fits G := by rw [hG]; exact Fr.swap_fitsF Hgv.out.fits ts
      have hokG := Fr.ok_small hfg hsm2
      have hmay : Fr.may G ↔ Fr.may f := by rw [hG]; exact Fr.swap_mayF f ts
      obtain ⟨s, hs⟩ : ∃ s : ByteArray, s = ⟨(Fr.write f).toArray⟩ := ⟨_, rfl⟩
      obtain ⟨t, ht⟩ : ∃ t : ByteArray, t = ⟨(Fr.write G).toArray⟩ := ⟨_, rfl⟩
      have hw := okW hok A cap
      have hv := okW hokG A2 cap2
      unfold RetS at hw hv
      rw [← hs] at hw
      rw [← ht] at hv
      have HW := Lib.hid hw
      have HV := Lib.hid hv
      have Hst := Lib.hid (And.intro hs ht)
      have HOk := Lib.hid (And.intro hok hokG)
      have HFs := Lib.hid (And.intro hfg (And.intro hsm2 hmay))
      clear hG hok hsm2 hfg hokG hmay hs ht hw hv
      go_wp2_with (refine wpList_load_sub rfl 32 _ rfl g0 0 rfl 32 (frC f A cap) (frC f A cap) (0, 0) _ HM.out.2.1.row (subAll _) Try.underlying32 rfl (sizeFrC _ _ _) ?_)
      refine (HW.out _ HM.out.2.1.lies).mono ?_
      rintro e w3 ⟨rfl, hb⟩
      have HM := Lib.hid (And.intro (bnext HM.out.1 hb) (And.intro ((HM.out.2.1).below hb) ((HM.out.2.2).below hb)))
      clear hb
      go_wp2_with (refine wpList_load_sub rfl 32 _ rfl g1 0 rfl 32 (frC G A2 cap2) (frC G A2 cap2) (0, 0) _ HM.out.2.2.row (subAll _) Try.underlying32 rfl (sizeFrC _ _ _) ?_)
      refine (HV.out _ HM.out.2.2.lies).mono ?_
      rintro e w4 ⟨rfl, hb⟩
      have HM := Lib.hid (And.intro (bnext HM.out.1 hb) (And.intro ((HM.out.2.1).below hb) ((HM.out.2.2).below hb)))
      clear hb
      clear HW HV
      by_cases hmf : Fr.may f
      case neg =>
        have e1 : s = ⟨#[]⟩ := by rw [Hst.out.1, Fr.write_no hmf]
        have e2 : t = ⟨#[]⟩ := by rw [Hst.out.2, Fr.write_no (fun h => hmf (HFs.out.2.2.1 h))]
        subst e1 e2
        clear hmf
        go_wp2_with fail
        refine (HAw.out _).mono ?_
        rintro e w6 ⟨rfl, hb6⟩
        have HB6 := Lib.hid (bnext HM.out.1 hb6)
        clear hb6
        go_wp2_with fail
        go_ret
        exact ⟨rfl, HB6.out⟩
      have hmg := HFs.out.2.2.2 hmf
      have sf := Fr.sh_small Hgv.out.fits Hs.out hmf
      have sg := Fr.sh_small HFs.out.1 HFs.out.2.1 hmg
      have e1 : s.toList.isEmpty = false := by rw [Hst.out.1, Fr.write_yes hmf]; exact toks_ne (Fr.enc_ne f)
      have e2 : t.toList.isEmpty = false := by rw [Hst.out.2, Fr.write_yes hmg]; exact toks_ne (Fr.enc_ne G)
      have zs : s.size ≤ 10000000 := by
        have := Fr.enc_len HOk.out.1 hmf
        rw [Hst.out.1, Lib.size_eq, Fr.write_yes hmf]
        simpa using Nat.le_trans this (by omega)
      have zt : t.size ≤ 10000000 := by
        have := Fr.enc_len HOk.out.2 hmg
        rw [Hst.out.2, Lib.size_eq, Fr.write_yes hmg]
        simpa using Nat.le_trans this (by omega)
      have h1 := getsF s zs
      have h2 := getsF t zt
      rw [show Fr.read s.data.toList = some f from (Fr.read_iff _ _).2 ⟨sf, hmf, by rw [Hst.out.1, Fr.write_yes hmf]⟩] at h1
      rw [show Fr.read t.data.toList = some G from (Fr.read_iff _ _).2 ⟨sg, hmg, by rw [Hst.out.2, Fr.write_yes hmg]⟩] at h2
      have heq : (s.toList == t.toList) = Fr.same f G := by
        rw [Bool.eq_iff_iff, beq_iff_eq, Fr.same_iff, ← Fr.enc_inj sf sg hmf hmg, ByteArray.toList_eq, ByteArray.toList_eq, Hst.out.1, Hst.out.2, Fr.write_yes hmf, Fr.write_yes hmg]
      have hsm := fun W (hA : Lies W A (pc f.cmd.parts)) (hB : Lies W A2 (pc G.cmd.parts)) => fsame_any f G A A2 cap cap2 W hA hB HOk.out.1.parts
      unfold RetTr at hsm
      generalize Fr.same f G = bb at heq hsm
      have hbb2 : (bb == bb) = true := by cases bb <;> rfl
      have HSm := Lib.hid hsm
      have S1 := Lib.hid (sameF f HOk.out.1.parts)
      have S2 := Lib.hid (sameF G HOk.out.2.parts)
      unfold GetsF at h1 h2
      have H1 := Lib.hid h1
      have H2 := Lib.hid h2
      clear hmf hmg sf sg zs zt h1 h2 hsm Hst HFs HOk
      go_wp2_with fail
      refine (H1.out _).mono ?_
      rintro e0 V11 ⟨A11, cap11, rfl, hl, hb⟩
      have HV := Lib.hid (And.intro hl hb)
      clear hl hb
      go_upto_region 17 with (refine wpList_store_sub rfl 32 _ _ rfl V11.heap.size 0 rfl 32 (frC Fr.F.zero none 0) (frC f A11 cap11) rfl ?_ (Nat.le_refl 37) (sizeFrC _ _ _) (frC_one _ _ _) ?_; exact heap_alloc_new V11 _)
      have hbb := (HV.out.2.trans ((laidB V11 (.cells (frC Fr.F.zero none 0) 32) (frC f A11 cap11).toList).mono HV.out.2.size))
      refine forget (fun W => Below w.heap.size w W ∧ HasF W g0 f A cap ∧ HasF W g1 G A2 cap2 ∧ HasF W V11.heap.size f A11 cap11) (And.intro (bnext HM.out.1 hbb) (And.intro ((HM.out.2.1).below hbb) (And.intro ((HM.out.2.2).below hbb) (HasF.laid HV.out.1)))) ?_
      clear HM HV hbb
      obtain ⟨g11, hg11⟩ : ∃ g, g = V11.heap.size := ⟨_, rfl⟩
      rw [← hg11]
      clear hg11 V11
      intro W hall
      have HM := Lib.hid hall
      clear hall
      go_wp2_with fail
      refine (H2.out _).mono ?_
      rintro e0 V12 ⟨A12, cap12, rfl, hl, hb⟩
      have HV := Lib.hid (And.intro hl hb)
      clear hl hb
      go_upto_region 18 with (refine wpList_store_sub rfl 32 _ _ rfl V12.heap.size 0 rfl 32 (frC Fr.F.zero none 0) (frC G A12 cap12) rfl ?_ (Nat.le_refl 37) (sizeFrC _ _ _) (frC_one _ _ _) ?_; exact heap_alloc_new V12 _)
      have hbb := (HV.out.2.trans ((laidB V12 (.cells (frC Fr.F.zero none 0) 32) (frC G A12 cap12).toList).mono HV.out.2.size))
      refine forget (fun W => Below w.heap.size w W ∧ HasF W g0 f A cap ∧ HasF W g1 G A2 cap2 ∧ HasF W g11 f A11 cap11 ∧ HasF W V12.heap.size G A12 cap12) (And.intro (bnext HM.out.1 hbb) (And.intro ((HM.out.2.1).below hbb) (And.intro ((HM.out.2.2.1).below hbb) (And.intro ((HM.out.2.2.2).below hbb) (HasF.laid HV.out.1))))) ?_
      clear HM HV hbb
      obtain ⟨g12, hg12⟩ : ∃ g, g = V12.heap.size := ⟨_, rfl⟩
      rw [← hg12]
      clear hg12 V12
      intro W hall
      have HM := Lib.hid hall
      clear hall
      clear H1 H2
      go_wp2_with (first | (refine wpList_load_sub rfl 32 _ rfl g11 0 rfl 32 (frC f A11 cap11) (frC f A11 cap11) (0, 0) _ HM.out.2.2.2.1.row (subAll _) Try.underlying32 rfl (sizeFrC _ _ _) ?_) | (refine wpList_load_sub rfl 32 _ rfl g0 0 rfl 32 (frC f A cap) (frC f A cap) (0, 0) _ HM.out.2.1.row (subAll _) Try.underlying32 rfl (sizeFrC _ _ _) ?_))
      refine (S1.out _ _ _ _ _ HM.out.2.2.2.1.lies HM.out.2.1.lies).mono ?_
      rintro e w5 ⟨rfl, hb⟩
      have HM := Lib.hid (And.intro (bnext HM.out.1 hb) (And.intro ((HM.out.2.1).below hb) (And.intro ((HM.out.2.2.1).below hb) (And.intro ((HM.out.2.2.2.1).below hb) ((HM.out.2.2.2.2).below hb)))))
      clear hb
      go_wp2_with (first | (refine wpList_load_sub rfl 32 _ rfl g12 0 rfl 32 (frC G A12 cap12) (frC G A12 cap12) (0, 0) _ HM.out.2.2.2.2.row (subAll _) Try.underlying32 rfl (sizeFrC _ _ _) ?_) | (refine wpList_load_sub rfl 32 _ rfl g1 0 rfl 32 (frC G A2 cap2) (frC G A2 cap2) (0, 0) _ HM.out.2.2.1.row (subAll _) Try.underlying32 rfl (sizeFrC _ _ _) ?_))
      refine (S2.out _ _ _ _ _ HM.out.2.2.2.2.lies HM.out.2.2.1.lies).mono ?_
      rintro e w6 ⟨rfl, hb⟩
      have HM := Lib.hid (And.intro (bnext HM.out.1 hb) (And.intro ((HM.out.2.1).below hb) (And.intro ((HM.out.2.2.1).below hb) (And.intro ((HM.out.2.2.2.1).below hb) ((HM.out.2.2.2.2).below hb)))))
      clear hb
      go_wp2_with (first | (refine wpList_load_sub rfl 32 _ rfl g0 0 rfl 32 (frC f A cap) (frC f A cap) (0, 0) _ HM.out.2.1.row (subAll _) Try.underlying32 rfl (sizeFrC _ _ _) ?_) | (refine wpList_load_sub rfl 32 _ rfl g1 0 rfl 32 (frC G A2 cap2) (frC G A2 cap2) (0, 0) _ HM.out.2.2.1.row (subAll _) Try.underlying32 rfl (sizeFrC _ _ _) ?_))
      refine (HSm.out _ HM.out.2.1.lies HM.out.2.2.1.lies).mono ?_
      rintro e w7 ⟨rfl, hb⟩
      have HM := Lib.hid (And.intro (bnext HM.out.1 hb) (And.intro ((HM.out.2.1).below hb) (And.intro ((HM.out.2.2.1).below hb) (And.intro ((HM.out.2.2.2.1).below hb) ((HM.out.2.2.2.2).below hb)))))
      clear hb
      clear heq
      cases bb
      · skip
        go_wp2_with fail
        refine (HAw.out _).mono ?_
        rintro e w8 ⟨rfl, hb⟩
        have HM := Lib.hid (And.intro (bnext HM.out.1 hb) (And.intro ((HM.out.2.1).below hb) (And.intro ((HM.out.2.2.1).below hb) (And.intro ((HM.out.2.2.2.1).below hb) ((HM.out.2.2.2.2).below hb)))))
        clear hb
        go_wp2_with fail
        go_ret
        exact ⟨rfl, HM.out.1⟩
      · skip
        go_wp2_with fail
        refine (HAw.out _).mono ?_
        rintro e w8 ⟨rfl, hb⟩
        have HM := Lib.hid (And.intro (bnext HM.out.1 hb) (And.intro ((HM.out.2.1).below hb) (And.intro ((HM.out.2.2.1).below hb) (And.intro ((HM.out.2.2.2.1).below hb) ((HM.out.2.2.2.2).below hb)))))
        clear hb
        go_wp2_with fail
        go_ret
        exact ⟨rfl, HM.out.1⟩
end Go.Proofs.Ytlcgjlganmblpaa
