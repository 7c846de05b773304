/-
  FrameKnown walked. WRITTEN BY wip/tools/gen_frknw.py.
-/
import Derived.Test.YtlcgjlganmblpaaRFrKnownH
set_option linter.unusedSimpArgs false
set_option linter.unusedVariables false
namespace Go.Proofs.Ytlcgjlganmblpaa
open Go.RowKit
set_option linter.unusedVariables false
theorem setK3 : lay (frC getF none 0) 0 [.int .u8 3] = frC thirdF none 0 := by simp [lay, frC, getF, thirdF]
theorem HasF.set1 {W : World} {q g k : Nat} {f h : Fr.F} {l : List Value} (hq : HasF W q f none 0) (hne : q ≠ g) (hp : f.cmd.parts = []) : HasF (W.setCells g k l) q f none 0 :=
  ⟨(setCells_other hne _ _ _).trans hq.row, .inl (by rw [hp]; rfl)⟩
theorem HasF.put {W : World} {g k : Nat} {f h : Fr.F} {l : List Value} (hq : HasF W g f none 0) (hl : lay (frC f none 0) k l = frC h none 0) (hp : h.cmd.parts = []) : HasF (W.setCells g k l) g h none 0 :=
  ⟨(row_setCells l k W _ hq.row).trans (by rw [hl]), .inl (by rw [hp]; rfl)⟩
set_option maxRecDepth 100000 in
set_option maxHeartbeats 16000000 in
theorem frameKnown_walk (w : World) : Calls Try.prog 3 #[] w fun e w' => e = .returned (.bool true) ∧ Below w.heap.size w w' := by
  have HO := Lib.hid operator_any
  have HG := Lib.hid get_any
  have HA := Lib.hid fAwake_any
  have hL : ∀ W, Calls Try.prog 10 #[.agg (frC leadF none 0)] W fun e w' => e = .returned (.string ⟨#[2, 111, 112, 101, 114, 97, 116, 111, 114, 7, 2]⟩) ∧ Below W.heap.size W w' := fun W => kF leadF lead_ok _ lead_write W rfl
  have HL := Lib.hid hL
  have hM : ∀ W, Calls Try.prog 11 #[.agg #[.int .u8 1, .int .u64 0, .int .u64 0, .int .u8 0, .int .u8 0, .int .u64 0, .string ⟨#[]⟩, .slice none 0 0]] W fun e w' => e = .returned (.string ⟨#[1]⟩) ∧ Below W.heap.size W w' := fun W => kP malR (okKR _ (by decide) (by decide) (by decide) (by decide) (by decide) (by decide) rfl rfl) [1] (by decide +kernel) W rfl
  have HMal := Lib.hid hM
  have hS : ∀ W, Calls Try.prog 11 #[.agg #[.int .u8 6, .int .u64 0, .int .u64 0, .int .u8 0, .int .u8 1, .int .u64 0, .string ⟨#[]⟩, .slice none 0 0]] W fun e w' => e = .returned (.string ⟨#[6, 0, 0, 1, 0, 0, 0]⟩) ∧ Below W.heap.size W w' := fun W => kP misR (okKR _ (by decide) (by decide) (by decide) (by decide) (by decide) (by decide) rfl rfl) [6, 0, 0, 1, 0, 0, 0] (by decide +kernel) W rfl
  have HMis := Lib.hid hS
  have h6 : ∀ (k : Nat) (hk : k < 6) W, Calls Try.prog 10 #[.agg (frC (fs6[k]'hk) none 0)] W fun e w' => e = .returned (.string ⟨#[]⟩) ∧ Below W.heap.size W w' := fun k hk W => kF _ (fs6_ok _ (List.getElem_mem hk)).1 [] (fs6_ok _ (List.getElem_mem hk)).2 W (fs6_parts _ (List.getElem_mem hk))
  have H6 := Lib.hid h6
  have h7 : ∀ (k : Nat) (hk : k < 7) W, Calls Try.prog 11 #[.agg (rpC (rs7[k]'hk) none 0)] W fun e w' => e = .returned (.string ⟨#[]⟩) ∧ Below W.heap.size W w' := fun k hk W => kP _ (rs7_ok _ (List.getElem_mem hk)).1 [] (rs7_ok _ (List.getElem_mem hk)).2 W (rs7_rows _ (List.getElem_mem hk))
  have H7 := Lib.hid h7
  have h1 := getsF ⟨#[]⟩ (by decide)
  have h3 := getsP ⟨#[]⟩ (by decide)
  rw [read_e] at h1
  rw [rread_e] at h3
  have h1 : GetsF 13 ⟨#[]⟩ Fr.F.zero false := h1
  have h3 : GetsP 14 ⟨#[]⟩ Fr.R.zero false := h3
  unfold GetsF at h1
  unfold GetsP at h3
  have H1 := Lib.hid h1
  have H3 := Lib.hid h3
  have HM := Lib.hid (Below.refl w.heap.size w)
  clear hL hM hS h6 h7 h1 h3
  go_enter Try.func3, Try.ntmps3
  go_wp2_with fail
  refine (HO.out _).mono ?_
  rintro e w1 ⟨rfl, hb⟩
  have HM := Lib.hid (bnext HM.out hb)
  clear hb
  go_upto_region 2 with (refine wpList_store_sub rfl 32 _ _ rfl w1.heap.size 0 rfl 32 (frC Fr.F.zero none 0) (frC leadF none 0) rfl ?_ (Nat.le_refl 37) (sizeFrC _ _ _) (frC_one _ _ _) ?_; exact heap_alloc_new w1 _)
  have hbb := (laidB w1 (.cells (frC Fr.F.zero none 0) 32) (frC leadF none 0).toList)
  have hle := Lib.hid (HM.out).size
  refine forget (fun Wn => Below w.heap.size w Wn ∧ HasF Wn w1.heap.size leadF none 0) (And.intro (bnext HM.out hbb) (HasF.laid (A := none) (cap := 0) (f := leadF) (.inl rfl))) ?_
  clear HM hbb
  obtain ⟨g1, hg1⟩ : ∃ g, g = w1.heap.size := ⟨_, rfl⟩
  rw [← hg1]
  rw [← hg1] at hle
  have hle_g1 := hle
  clear hle hg1 w1
  intro W hall
  have HM := Lib.hid hall
  clear hall
  go_wp2_with (refine wpList_load_sub rfl 32 _ rfl g1 0 rfl 32 (frC leadF none 0) (frC leadF none 0) (0, 0) _ HM.out.2.row (subAll _) Try.underlying32 rfl (sizeFrC _ _ _) ?_)
  refine (HL.out _).mono ?_
  rintro e w2 ⟨rfl, hb⟩
  have HM := Lib.hid (And.intro (bnext HM.out.1 hb) ((HM.out.2).below hb))
  clear hb
  go_wp2_with fail
  refine (HMal.out _).mono ?_
  rintro e w3 ⟨rfl, hb⟩
  have HM := Lib.hid (And.intro (bnext HM.out.1 hb) ((HM.out.2).below hb))
  clear hb
  go_wp2_with fail
  refine (HMis.out _).mono ?_
  rintro e w4 ⟨rfl, hb⟩
  have HM := Lib.hid (And.intro (bnext HM.out.1 hb) ((HM.out.2).below hb))
  clear hb
  go_upto_region 4 with (fail)
  refine forget (fun W => Below w.heap.size w W ∧ HasF W g1 leadF none 0) (And.intro (HM.out.1) (HM.out.2)) ?_
  clear HM
  intro W hall
  have HM := Lib.hid hall
  clear hall
  go_upto_region 5 with (first | (refine wpList_load_sub rfl 32 _ rfl g1 0 rfl 32 (frC leadF none 0) (frC leadF none 0) (0, 0) _ HM.out.2.row (subAll _) Try.underlying32 rfl (sizeFrC _ _ _) ?_) | (refine wpList_store_sub rfl 32 _ _ rfl W.heap.size 0 rfl 32 (frC Fr.F.zero none 0) (frC leadF none 0) rfl ?_ (Nat.le_refl 37) (sizeFrC _ _ _) (frC_one _ _ _) ?_; exact heap_alloc_new W _))
  have hbb := (laidB W (.cells (frC Fr.F.zero none 0) 32) (frC leadF none 0).toList)
  have hn := Nat.ne_of_lt (Array.getElem?_eq_some_iff.1 (HM.out.2.row)).1
  have hn_g1_g2 := Lib.hid hn
  clear hn
  have hle := Lib.hid (HM.out.1).size
  refine forget (fun Wn => Below w.heap.size w Wn ∧ HasF Wn g1 leadF none 0 ∧ HasF Wn W.heap.size leadF none 0) (And.intro (bnext HM.out.1 hbb) (And.intro ((HM.out.2).below hbb) (HasF.laid (A := none) (cap := 0) (f := leadF) (.inl rfl)))) ?_
  clear HM hbb
  obtain ⟨g2, hg2⟩ : ∃ g, g = W.heap.size := ⟨_, rfl⟩
  rw [← hg2]
  rw [← hg2] at hn_g1_g2
  rw [← hg2] at hle
  have hle_g2 := hle
  clear hle hg2 W
  intro W hall
  have HM := Lib.hid hall
  clear hall
  go_upto_region 6 with (refine wpList_store_sub rfl 30 _ _ rfl g2 9 rfl 32 (frC leadF none 0) (cmdC seqC none 0) rfl ?_ (show 9 + 12 ≤ 37 by omega) (sizeCmdC _ _ _) (cmdC_one _ _ _) ?_; exact HM.out.2.2.row)
  refine forget (fun Wn => Below w.heap.size w Wn ∧ HasF Wn g1 leadF none 0 ∧ HasF Wn g2 bothF none 0) (And.intro (setCells_below hle_g2.out (cmdC seqC none 0).toList 9 _ HM.out.1) (And.intro (HasF.set1 (h := Fr.F.zero) (k := 9) (l := (cmdC seqC none 0).toList) (HM.out.2.1) hn_g1_g2.out rfl) ((HM.out.2.2).put (k := 9) (l := (cmdC seqC none 0).toList) (layCmd leadF none none 0 0 seqC) rfl))) ?_
  clear HM
  try clear W
  intro W hall
  have HM := Lib.hid hall
  clear hall
  go_wp2_with fail
  refine (HG.out _).mono ?_
  rintro e w5 ⟨rfl, hb⟩
  have HM := Lib.hid (And.intro (bnext HM.out.1 hb) (And.intro ((HM.out.2.1).below hb) ((HM.out.2.2).below hb)))
  clear hb
  go_upto_region 7 with (refine wpList_store_sub rfl 32 _ _ rfl w5.heap.size 0 rfl 32 (frC Fr.F.zero none 0) (frC getF none 0) rfl ?_ (Nat.le_refl 37) (sizeFrC _ _ _) (frC_one _ _ _) ?_; exact heap_alloc_new w5 _)
  have hbb := (laidB w5 (.cells (frC Fr.F.zero none 0) 32) (frC getF none 0).toList)
  have hn := Nat.ne_of_lt (Array.getElem?_eq_some_iff.1 (HM.out.2.1.row)).1
  have hn_g1_g3 := Lib.hid hn
  clear hn
  have hn := Nat.ne_of_lt (Array.getElem?_eq_some_iff.1 (HM.out.2.2.row)).1
  have hn_g2_g3 := Lib.hid hn
  clear hn
  have hle := Lib.hid (HM.out.1).size
  refine forget (fun Wn => Below w.heap.size w Wn ∧ HasF Wn g1 leadF none 0 ∧ HasF Wn g2 bothF none 0 ∧ HasF Wn w5.heap.size getF none 0) (And.intro (bnext HM.out.1 hbb) (And.intro ((HM.out.2.1).below hbb) (And.intro ((HM.out.2.2).below hbb) (HasF.laid (A := none) (cap := 0) (f := getF) (.inl rfl))))) ?_
  clear HM hbb
  obtain ⟨g3, hg3⟩ : ∃ g, g = w5.heap.size := ⟨_, rfl⟩
  rw [← hg3]
  rw [← hg3] at hn_g1_g3
  rw [← hg3] at hn_g2_g3
  rw [← hg3] at hle
  have hle_g3 := hle
  clear hle hg3 w5
  intro W hall
  have HM := Lib.hid hall
  clear hall
  go_upto_region 8 with (first | (refine wpList_load_sub rfl 26 _ rfl g1 21 rfl 32 (frC leadF none 0) (operC leadO) (0, 0) _ HM.out.2.1.row (subOp leadF none 0) Try.underlying26 rfl (sizeOpC _) ?_) | (refine wpList_store_sub rfl 26 _ _ rfl g3 21 rfl 32 (frC getF none 0) (operC leadO) rfl ?_ (show 21 + 16 ≤ 37 by omega) (sizeOpC _) (operC_one _) ?_; exact HM.out.2.2.2.row))
  refine forget (fun Wn => Below w.heap.size w Wn ∧ HasF Wn g1 leadF none 0 ∧ HasF Wn g2 bothF none 0 ∧ HasF Wn g3 mixF none 0) (And.intro (setCells_below hle_g3.out (operC leadO).toList 21 _ HM.out.1) (And.intro (HasF.set1 (h := Fr.F.zero) (k := 21) (l := (operC leadO).toList) (HM.out.2.1) hn_g1_g3.out rfl) (And.intro (HasF.set1 (h := Fr.F.zero) (k := 21) (l := (operC leadO).toList) (HM.out.2.2.1) hn_g2_g3.out rfl) ((HM.out.2.2.2).put (k := 21) (l := (operC leadO).toList) (layOp getF none 0 leadO) rfl)))) ?_
  clear HM
  try clear W
  intro W hall
  have HM := Lib.hid hall
  clear hall
  go_wp2_with fail
  refine (HG.out _).mono ?_
  rintro e w6 ⟨rfl, hb⟩
  have HM := Lib.hid (And.intro (bnext HM.out.1 hb) (And.intro ((HM.out.2.1).below hb) (And.intro ((HM.out.2.2.1).below hb) ((HM.out.2.2.2).below hb))))
  clear hb
  go_upto_region 9 with (refine wpList_store_sub rfl 32 _ _ rfl w6.heap.size 0 rfl 32 (frC Fr.F.zero none 0) (frC getF none 0) rfl ?_ (Nat.le_refl 37) (sizeFrC _ _ _) (frC_one _ _ _) ?_; exact heap_alloc_new w6 _)
  have hbb := (laidB w6 (.cells (frC Fr.F.zero none 0) 32) (frC getF none 0).toList)
  have hn := Nat.ne_of_lt (Array.getElem?_eq_some_iff.1 (HM.out.2.1.row)).1
  have hn_g1_g4 := Lib.hid hn
  clear hn
  have hn := Nat.ne_of_lt (Array.getElem?_eq_some_iff.1 (HM.out.2.2.1.row)).1
  have hn_g2_g4 := Lib.hid hn
  clear hn
  have hn := Nat.ne_of_lt (Array.getElem?_eq_some_iff.1 (HM.out.2.2.2.row)).1
  have hn_g3_g4 := Lib.hid hn
  clear hn
  have hle := Lib.hid (HM.out.1).size
  refine forget (fun Wn => Below w.heap.size w Wn ∧ HasF Wn g1 leadF none 0 ∧ HasF Wn g2 bothF none 0 ∧ HasF Wn g3 mixF none 0 ∧ HasF Wn w6.heap.size getF none 0) (And.intro (bnext HM.out.1 hbb) (And.intro ((HM.out.2.1).below hbb) (And.intro ((HM.out.2.2.1).below hbb) (And.intro ((HM.out.2.2.2).below hbb) (HasF.laid (A := none) (cap := 0) (f := getF) (.inl rfl)))))) ?_
  clear HM hbb
  obtain ⟨g4, hg4⟩ : ∃ g, g = w6.heap.size := ⟨_, rfl⟩
  rw [← hg4]
  rw [← hg4] at hn_g1_g4
  rw [← hg4] at hn_g2_g4
  rw [← hg4] at hn_g3_g4
  rw [← hg4] at hle
  have hle_g4 := hle
  clear hle hg4 w6
  intro W hall
  have HM := Lib.hid hall
  clear hall
  have c0 := (frAt HM.out.2.2.2.2.row).c0
  have f0 := (frAt HM.out.2.2.2.2.row).fz 0
  go_upto_region 10 with (fail)
  refine forget (fun Wn => Below w.heap.size w Wn ∧ HasF Wn g1 leadF none 0 ∧ HasF Wn g2 bothF none 0 ∧ HasF Wn g3 mixF none 0 ∧ HasF Wn g4 thirdF none 0) (And.intro (setCells_below hle_g4.out [.int .u8 3] 0 _ HM.out.1) (And.intro (HasF.set1 (h := Fr.F.zero) (k := 0) (l := [.int .u8 3]) (HM.out.2.1) hn_g1_g4.out rfl) (And.intro (HasF.set1 (h := Fr.F.zero) (k := 0) (l := [.int .u8 3]) (HM.out.2.2.1) hn_g2_g4.out rfl) (And.intro (HasF.set1 (h := Fr.F.zero) (k := 0) (l := [.int .u8 3]) (HM.out.2.2.2.1) hn_g3_g4.out rfl) ((HM.out.2.2.2.2).put (k := 0) (l := [.int .u8 3]) (setK3) rfl))))) ?_
  clear HM
  try clear W
  intro W hall
  have HM := Lib.hid hall
  clear hall
  try clear c0 f0
  go_upto_region 11 with (first | (refine wpList_load_sub rfl 32 _ rfl g2 0 rfl 32 (frC bothF none 0) (frC bothF none 0) (0, 0) _ HM.out.2.2.1.row (subAll _) Try.underlying32 rfl (sizeFrC _ _ _) ?_) | (refine wpList_load_sub rfl 32 _ rfl g3 0 rfl 32 (frC mixF none 0) (frC mixF none 0) (0, 0) _ HM.out.2.2.2.1.row (subAll _) Try.underlying32 rfl (sizeFrC _ _ _) ?_) | (refine wpList_load_sub rfl 32 _ rfl g4 0 rfl 32 (frC thirdF none 0) (frC thirdF none 0) (0, 0) _ HM.out.2.2.2.2.row (subAll _) Try.underlying32 rfl (sizeFrC _ _ _) ?_) | (refine Go.Great.wpList_buildSliceTo rfl 41 32 6 _ rfl W.heap.size rfl _ rfl Try.underlying41 row6 ?_ ?_; kernel_rfl))
  refine forget (fun V => Below w.heap.size w V ∧ V.heap[W.heap.size]? = some (.cells row6 32 (0, 0))) ⟨bnew HM.out.1 _, heap_alloc_new W _⟩ ?_
  clear HM HL HMal HMis HG HO
  obtain ⟨b, hb⟩ : ∃ g, g = W.heap.size := ⟨_, rfl⟩
  rw [← hb]
  clear hb
  rintro V ⟨hb1, hr1⟩
  have HB := Lib.hid (And.intro hb1 hr1)
  clear hb1 hr1
  go_wp2_with fail
  go_loopw [48] (fun x wr => ∃ k : Nat, k ≤ 6 ∧ x = .int .i64 (k : Int) ∧ Below w.heap.size w wr ∧ wr.heap[b]? = some (.cells row6 32 (0, 0))) (fun x _ => 6 - (intOf x).toNat)
  case atStart => exact ⟨0, by omega, rfl, HB.out.1, HB.out.2⟩
  case round =>
    clear HB
    obtain ⟨k, hk, rfl, hb1, hr1⟩ := hrel
    have HB := Lib.hid (And.intro hb1 hr1)
    clear hb1 hr1
    by_cases hlt : k < 6
    · have k0 : (0 : Int) ≤ (k : Int) := by omega
      have k1 : (k : Int) < 6 := by omega
      have H6k := Lib.hid (H6.out k hlt)
      have Hat := Lib.hid (row6_at k hlt)
      obtain ⟨f, hf⟩ : ∃ f, f = fs6[k]'hlt := ⟨_, rfl⟩
      rw [← hf] at H6k Hat
      clear hf
      go_upto_region 13 with (first | (refine wpList_load_sub rfl 32 _ rfl b (k * 37) rfl 32 row6 (frC f none 0) (0, 0) _ HB.out.2 Hat.out Try.underlying32 rfl (sizeFrC _ _ _) ?_) | (refine wpList_store_sub rfl 32 _ _ rfl wr.heap.size 0 rfl 32 (frC Fr.F.zero none 0) (frC f none 0) rfl ?_ (Nat.le_refl 37) (sizeFrC _ _ _) (frC_one _ _ _) ?_; exact heap_alloc_new wr _))
      refine forget (fun W => (Below w.heap.size w W ∧ W.heap[b]? = some (.cells row6 32 (0, 0))) ∧ W.heap[wr.heap.size]? = some (.cells (frC f none 0) 32 (0, 0))) (by
        have hbb := laidB wr (.cells (frC Fr.F.zero none 0) 32) (frC f none 0).toList
        exact ⟨⟨bnext HB.out.1 hbb, (hbb.block _ (Array.getElem?_eq_some_iff.1 HB.out.2).1).trans HB.out.2⟩, (row_setCells _ 0 _ _ (heap_alloc_new wr (.cells (frC Fr.F.zero none 0) 32))).trans (by rw [layFr])⟩) ?_
      clear HB
      obtain ⟨b6, hb6⟩ : ∃ g, g = wr.heap.size := ⟨_, rfl⟩
      rw [← hb6]
      clear hb6
      rintro V2 ⟨hh, hr2⟩
      have HB := Lib.hid hh
      have HR2 := Lib.hid hr2
      clear hh hr2
      go_wp2_with (refine wpList_load_sub rfl 32 _ rfl b6 0 rfl 32 (frC f none 0) (frC f none 0) (0, 0) _ HR2.out (subAll _) Try.underlying32 rfl (sizeFrC _ _ _) ?_)
      refine (H6k.out _).mono ?_
      rintro e v3 ⟨rfl, hb⟩
      have HB2 := Lib.hid (And.intro (bnext HB.out.1 hb) ((hb.block _ (Array.getElem?_eq_some_iff.1 HB.out.2).1).trans HB.out.2))
      clear hb HB HR2
      go_wp2_with fail
      go_roundw
      case rel => exact ⟨k + 1, by omega, by go_num, HB2.out.1, HB2.out.2⟩
      case measure => simp [intOf]; omega
    · obtain rfl : k = 6 := by omega
      go_upto_region 16 with (fail)
      refine forget (fun W => Below w.heap.size w W) HB.out.1 ?_
      clear HB hk hlt
      intro W hb1
      have HM := Lib.hid hb1
      clear hb1
      go_upto_region 17 with (first | (refine Go.Great.wpList_buildSliceTo rfl 42 39 7 _ rfl W.heap.size rfl _ rfl Try.underlying42 row7 ?_ ?_; kernel_rfl))
      refine forget (fun V => Below w.heap.size w V ∧ V.heap[W.heap.size]? = some (.cells row7 39 (0, 0))) ⟨bnew HM.out _, heap_alloc_new W _⟩ ?_
      clear HM
      obtain ⟨b, hb⟩ : ∃ g, g = W.heap.size := ⟨_, rfl⟩
      rw [← hb]
      clear hb
      rintro V ⟨hb1, hr1⟩
      have HB := Lib.hid (And.intro hb1 hr1)
      clear hb1 hr1
      go_wp2_with fail
      go_loopw [66] (fun x wr => ∃ k : Nat, k ≤ 7 ∧ x = .int .i64 (k : Int) ∧ Below w.heap.size w wr ∧ wr.heap[b]? = some (.cells row7 39 (0, 0))) (fun x _ => 7 - (intOf x).toNat)
      case atStart => exact ⟨0, by omega, rfl, HB.out.1, HB.out.2⟩
      case round =>
        clear HB
        obtain ⟨k, hk, rfl, hb1, hr1⟩ := hrel
        have HB := Lib.hid (And.intro hb1 hr1)
        clear hb1 hr1
        by_cases hlt : k < 7
        · have k0 : (0 : Int) ≤ (k : Int) := by omega
          have k1 : (k : Int) < 7 := by omega
          have H7k := Lib.hid (H7.out k hlt)
          have Hat := Lib.hid (row7_at k hlt)
          obtain ⟨r, hr⟩ : ∃ f, f = rs7[k]'hlt := ⟨_, rfl⟩
          rw [← hr] at H7k Hat
          clear hr
          go_upto_region 19 with (first | (refine wpList_load_sub rfl 39 _ rfl b (k * 8) rfl 39 row7 (rpC r none 0) (0, 0) _ HB.out.2 Hat.out Try.underlying39 rfl (sizeRpC _ _ _) ?_) | (refine wpList_store_sub rfl 39 _ _ rfl wr.heap.size 0 rfl 39 (rpC Fr.R.zero none 0) (rpC r none 0) rfl ?_ (Nat.le_refl 8) (sizeRpC _ _ _) (rpC_one _ _ _) ?_; exact heap_alloc_new wr _))
          refine forget (fun W => (Below w.heap.size w W ∧ W.heap[b]? = some (.cells row7 39 (0, 0))) ∧ W.heap[wr.heap.size]? = some (.cells (rpC r none 0) 39 (0, 0))) (by
            have hbb := laidB wr (.cells (rpC Fr.R.zero none 0) 39) (rpC r none 0).toList
            exact ⟨⟨bnext HB.out.1 hbb, (hbb.block _ (Array.getElem?_eq_some_iff.1 HB.out.2).1).trans HB.out.2⟩, (row_setCells _ 0 _ _ (heap_alloc_new wr (.cells (rpC Fr.R.zero none 0) 39))).trans (by rw [layRp])⟩) ?_
          clear HB
          obtain ⟨b6, hb6⟩ : ∃ g, g = wr.heap.size := ⟨_, rfl⟩
          rw [← hb6]
          clear hb6
          rintro V2 ⟨hh, hr2⟩
          have HB := Lib.hid hh
          have HR2 := Lib.hid hr2
          clear hh hr2
          go_wp2_with (refine wpList_load_sub rfl 39 _ rfl b6 0 rfl 39 (rpC r none 0) (rpC r none 0) (0, 0) _ HR2.out (subAll _) Try.underlying39 rfl (sizeRpC _ _ _) ?_)
          refine (H7k.out _).mono ?_
          rintro e v3 ⟨rfl, hb⟩
          have HB2 := Lib.hid (And.intro (bnext HB.out.1 hb) ((hb.block _ (Array.getElem?_eq_some_iff.1 HB.out.2).1).trans HB.out.2))
          clear hb HB HR2
          go_wp2_with fail
          go_roundw
          case rel => exact ⟨k + 1, by omega, by go_num, HB2.out.1, HB2.out.2⟩
          case measure => simp [intOf]; omega
        · obtain rfl : k = 7 := by omega
          go_upto_region 22 with (fail)
          refine forget (fun W => Below w.heap.size w W) HB.out.1 ?_
          clear HB hk hlt
          intro W hb1
          have HM := Lib.hid hb1
          clear hb1
          go_wp2_with fail
          refine (H1.out _).mono ?_
          rintro e0 V1 ⟨A1, cap1, rfl, hl, hb⟩
          have HV := Lib.hid (And.intro hl hb)
          clear hl hb
          go_upto_region 23 with (refine wpList_store_sub rfl 32 _ _ rfl V1.heap.size 0 rfl 32 (frC Fr.F.zero none 0) (frC Fr.F.zero A1 cap1) rfl ?_ (Nat.le_refl 37) (sizeFrC _ _ _) (frC_one _ _ _) ?_; exact heap_alloc_new V1 _)
          have hbb := (HV.out.2.trans ((laidB V1 (.cells (frC Fr.F.zero none 0) 32) (frC Fr.F.zero A1 cap1).toList).mono HV.out.2.size))
          refine forget (fun W => Below w.heap.size w W ∧ HasF W V1.heap.size Fr.F.zero A1 cap1) (And.intro (bnext HM.out hbb) (HasF.laid HV.out.1)) ?_
          clear HM HV hbb
          obtain ⟨g1, hg1⟩ : ∃ g, g = V1.heap.size := ⟨_, rfl⟩
          rw [← hg1]
          clear hg1 V1
          intro W hall
          have HM := Lib.hid hall
          clear hall
          refine forget (fun W => Below w.heap.size w W) (HM.out.1) ?_
          clear HM
          intro W hall
          have HM := Lib.hid hall
          clear hall
          go_wp2_with fail
          refine (H3.out _).mono ?_
          rintro e0 V2 ⟨A2, cap2, rfl, hl, hb⟩
          have HV := Lib.hid (And.intro hl hb)
          clear hl hb
          go_upto_region 24 with (refine wpList_store_sub rfl 39 _ _ rfl V2.heap.size 0 rfl 39 (rpC Fr.R.zero none 0) (rpC Fr.R.zero A2 cap2) rfl ?_ (Nat.le_refl 8) (sizeRpC _ _ _) (rpC_one _ _ _) ?_; exact heap_alloc_new V2 _)
          have hbb := (HV.out.2.trans ((laidB V2 (.cells (rpC Fr.R.zero none 0) 39) (rpC Fr.R.zero A2 cap2).toList).mono HV.out.2.size))
          refine forget (fun W => Below w.heap.size w W ∧ HasP W V2.heap.size Fr.R.zero A2 cap2) (And.intro (bnext HM.out hbb) (HasP.laid HV.out.1)) ?_
          clear HM HV hbb
          obtain ⟨g2, hg2⟩ : ∃ g, g = V2.heap.size := ⟨_, rfl⟩
          rw [← hg2]
          clear hg2 V2
          intro W hall
          have HM := Lib.hid hall
          clear hall
          refine forget (fun W => Below w.heap.size w W) (HM.out.1) ?_
          clear HM
          intro W hall
          have HM := Lib.hid hall
          clear hall
          go_wp2_with fail
          refine (HA.out _).mono ?_
          rintro e w9 ⟨rfl, hb⟩
          have HM := Lib.hid (bnext HM.out hb)
          clear hb
          go_wp2_with fail
          go_ret
          exact ⟨rfl, HM.out⟩
end Go.Proofs.Ytlcgjlganmblpaa
