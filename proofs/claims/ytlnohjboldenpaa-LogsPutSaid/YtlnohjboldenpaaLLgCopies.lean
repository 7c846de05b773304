/-
  Logs: entries copied, and held against an index and a term.
-/
import Derived.Test.YtlnohjboldenpaaLLgSmall
import Derived.OwnWalk
import Derived.Deep.DeepCutAuto
import Derived.Deep.CutBlock
set_option linter.unusedSimpArgs false
set_option linter.unusedVariables false
namespace Go.Proofs.Ytlnohjboldenpaa
open Go.RowKit
set_option maxRecDepth 100000 in
theorem twinL_any (e : En.E) (w : World) (hb : e.body.size ≤ 140737488355328) : Calls Try.prog 87 #[.agg (entC e)] w fun r w' => r = .returned (.agg (entC e)) ∧ Below w.heap.size w w' := by
  have HC := Lib.hid (fun W => stringsClone_any e.body W (by omega))
  have FX := entF e
  obtain ⟨X, hX⟩ : ∃ X, X = entC e := ⟨_, rfl⟩
  rw [← hX] at FX ⊢
  obtain ⟨hx, ho, _, _, _, _, _, _, _, _, _, _, _, _, x12⟩ := FX
  have H12 : Hid (X[12]? = some (.string e.body)) := Lib.hid (by rw [Array.getElem?_eq_getElem (by omega), x12])
  have HZ : Hid ((Try.prog.info? 49).map (·.size) = some X.size) := Lib.hid (by rw [hx]; exact sizeEnt)
  have Ho := Lib.hid ho
  clear hX ho
  go_enter Try.func87, Try.ntmps87
  go_upto_region 1 with (fail)
  refine forget (fun W => Rw W w.heap.size X 49 ∧ Rw W (w.heap.size + 1) (entC En.zero) 49 ∧ Bl w W ∧ w.heap.size ≤ w.heap.size) ⟨(Rw.new w X _).alloc _, by have := Rw.new (w.alloc (.cells X 49)) (entC En.zero) 49; rw [World.size_alloc] at this; exact this, ((Bl.refl w).alloc _).alloc _, Nat.le_refl _⟩ ?_
  intro W1 H1
  obtain ⟨g, hg⟩ : ∃ g, g = w.heap.size := ⟨_, rfl⟩
  have hg2 : w.heap.size ≤ g := by omega
  rw [← hg] at H1 ⊢
  clear hg x12
  have c12 := H1.1.cell 12 H12.out
  have HI := Lib.hid H1
  clear H1
  go_wp2_with fail
  refine (HC.out _).mono ?_
  rintro r w1 ⟨rfl, hb1⟩
  have H2 : Hid (Rw (w1.setCell ⟨g, 12, none⟩ (.string e.body)) g X 49 ∧ Rw (w1.setCell ⟨g, 12, none⟩ (.string e.body)) (g + 1) (entC En.zero) 49 ∧ Bl w (w1.setCell ⟨g, 12, none⟩ (.string e.body))) := Lib.hid
    ⟨(HI.out.1.bel hb1).same 12 _ H12.out, (HI.out.2.1.bel hb1).oput (by omega) _ _, (HI.out.2.2.1.next hb1).put hg2 _ _⟩
  have c12b := later hb1 c12
  have f12 := (HI.out.1.bel hb1).free 12
  clear hb1 c12
  go_wp2_with (first
    | (refine wpList_load_sub rfl 49 _ rfl g 0 rfl 49 X X (0, 0) _ H2.out.1 (fun j hj => by rw [Nat.zero_add]) Try.underlying49 rfl HZ.out ?_)
    | (refine wpList_store_sub rfl 49 _ _ rfl (g + 1) 0 rfl 49 (entC En.zero) X rfl H2.out.2.1 (by show 0 + X.size ≤ 13; omega) HZ.out Ho.out ?_))
  refine bodyPost_ret (results_cell_row (P := Try.prog) (fn := Try.f87) rfl _ _ (g + 1) 49 X (0, 0) _ rfl (H2.out.2.1.over (by rw [hx]; rfl)) Try.underlying49 rfl HZ.out) rfl ?_
  exact ⟨rfl, H2.out.2.2.puts (by omega) _ _⟩
/-- Entries handed back in memory of one's own. -/
def RetE (es : List En.E) (w : World) (e : Ending) (w' : World) : Prop := ∃ A c, e = .returned (.slice A es.length c) ∧ Sl w' 13 A es.length c (ec es) ∧ (∀ b, blk A = some b → w.heap.size ≤ b) ∧ Below w.heap.size w w'
theorem RetE.lies {es : List En.E} {w w' : World} {e : Ending} (h : RetE es w e w') : ∃ A c, e = .returned (.slice A es.length c) ∧ Lies w' A (ec es) ∧ (A = none → es.length = 0) ∧ (∀ b, blk A = some b → w.heap.size ≤ b) ∧ Below w.heap.size w w' := by
  obtain ⟨A, c, h1, h2, h3, h4⟩ := h
  refine ⟨A, c, h1, h2.liesV, fun hA => ?_, h3, h4⟩
  rcases h2.lies with ⟨_, h0⟩ | ⟨b, off, hb, _⟩
  · have := h2.le; omega
  · rw [hA] at hb; cases hb
theorem grown_bel {B : Nat} {w a b : World} {row : Option Nat} (h : Below B w a) (hg : a.grownBy b row) (hB : B ≤ a.heap.size) (hr : ∀ k, row = some k → B ≤ k) : Below B w b := h.grown hg hB hr
set_option maxRecDepth 100000 in
set_option maxHeartbeats 2000000 in
theorem copies_any (w : World) (A : Option Addr) (cp : Nat) (es : List En.E) (hA : Lies w A (ec es)) (hn : es.length ≤ 1000000) (hb : ∀ e ∈ es, e.body.size ≤ 140737488355328) :
    Calls Try.prog 54 #[.slice A es.length cp] w (RetE es w) := by
  obtain ⟨i0, hi, hz0, hz1, hz2⟩ := info_parts infoEntL
  have HA := Lib.hid hA
  have HT := Lib.hid (fun i (hi : i < es.length) W => twinL_any es[i] W (hb _ (List.getElem_mem hi)))
  obtain ⟨n, hnn⟩ : ∃ n, n = es.length := ⟨_, rfl⟩
  have Hn := Lib.hid hnn
  rw [← hnn] at hn ⊢
  clear hA hb hnn
  go_enter Try.func54, Try.ntmps54
  go_wp2_with (at_make; refine wpList_make_own _ rfl _ _ 23 rfl w.heap.size 49 i0 (.agg (entC En.zero)) 13 Try.underlying23 hi hz0 hz1 _ _ _ n rfl rfl rfl (by rw [hz2]; omega) (by simp only [maxLen]; omega) (Nat.le_refl _) ?_; intro w1 hrow1 hg1)
  obtain ⟨A1, c1, he1, hs1, hb1⟩ := Sl.ofOwn hrow1
  injection he1 with e1 e2 e3
  subst e1 e3
  have HS1 : Hid (Sl w1 13 (some ⟨w.heap.size, 0, none⟩) 0 n (ec (es.take 0)) ∧ Below w.heap.size w w1) := Lib.hid ⟨by simpa [ec] using hs1, (Below.refl _ _).grown hg1 (Nat.le_refl _) (by simp)⟩
  clear hrow1 hg1 hs1 hb1 e2
  go_loopw [3, 11] (fun ov iv wr => ∃ (i : Nat) (B : Option Addr) (c : Nat), i ≤ n ∧ iv = .int .i64 (i : Int) ∧ ov = .slice B i c ∧ Sl wr 13 B i c (ec (es.take i)) ∧ (∀ b, blk B = some b → w.heap.size ≤ b) ∧ Below w.heap.size w wr) (fun _ iv _ => n - (intOf iv).toNat)
  case atStart => exact ⟨0, _, _, Nat.zero_le _, rfl, rfl, HS1.out.1, fun b hb => by cases hb; exact Nat.le_refl _, HS1.out.2⟩
  case round =>
    obtain ⟨i, B, c, hin, rfl, rfl, hS, hB, hW⟩ := hrel
    by_cases hlt : i < n
    · have hie : i < es.length := by rw [← Hn.out]; exact hlt
      obtain ⟨b, off, rfl, hE⟩ := (HA.out.below hW).ent i hie
      have HTi := Lib.hid (HT.out i hie)
      have HE : Hid (ec (es.take (i + 1)) = ec (es.take i) ++ ec1 es[i]) := Lib.hid (by rw [List.take_succ_eq_append_getElem hie, ecL_app, ecL_1])
      obtain ⟨x, hx⟩ : ∃ x, x = es[i] := ⟨_, rfl⟩
      rw [← hx] at hE HTi HE
      have HR := Lib.hid hE.rng
      have HJ := Lib.hid (And.intro hS (And.intro hB hW))
      have HZ := sizeEntL x
      have HO := (entF x).one
      obtain ⟨X, hX⟩ : ∃ X, X = entC x := ⟨_, rfl⟩
      have HX := Lib.hid hX
      rw [← hX] at HZ HO HR
      have hXs : X.size = 13 := by rw [hX]; rfl
      clear hS hB hW hx hE hX
      go_upto_region 5 with (first
        | (refine wpList_load_rgL rfl 49 _ rfl b (off + i * 13) rfl X _ HR.out Try.underlying49 rfl HZ ?_)
        | (refine wpList_store_sub rfl 49 _ _ rfl wr.heap.size 0 rfl 49 (entC En.zero) X rfl (Rw.new wr (entC En.zero) 49) (by rw [hXs]; decide) HZ HO ?_))
      refine forget (fun W2 => Rw W2 wr.heap.size X 49 ∧ Sl W2 13 B i c (ec (es.take i)) ∧ (∀ b, blk B = some b → w.heap.size ≤ b) ∧ Below w.heap.size w W2) ?_ ?_
      · have hsb : Below wr.heap.size wr ((wr.alloc (.cells (entC En.zero) 49)).setCells wr.heap.size 0 X.toList) := ((Bl.refl wr).alloc _).puts (Nat.le_refl _) _ _
        exact ⟨(Rw.new wr (entC En.zero) 49).over (by rw [hXs]; rfl), HJ.out.1.below hsb, HJ.out.2.1, bnext HJ.out.2.2 hsb⟩
      intro W2 H2
      generalize wr.heap.size = gb at H2 ⊢
      have HK := Lib.hid H2
      clear H2 HJ HR
      go_wp2_with (refine wpList_load_sub rfl 49 _ rfl gb 0 rfl 49 X X (0, 0) _ HK.out.1 (fun j hj => by rw [Nat.zero_add]) Try.underlying49 rfl HZ ?_)
      rw [HX.out]
      refine (HTi.out _).mono ?_
      rintro r W3 ⟨rfl, hb3⟩
      have H3 : Hid (Sl W3 13 B i c (ec (es.take i)) ∧ (∀ b, blk B = some b → w.heap.size ≤ b) ∧ Below w.heap.size w W3) := Lib.hid ⟨HK.out.2.1.below hb3, HK.out.2.2.1, bnext HK.out.2.2.2 hb3⟩
      have HN : Hid (Sl (W3.alloc (.cells (ec1 x).toArray 49)) 13 B i c (ec (es.take i)) ∧ Src Try.prog 13 23 (.slice (some ⟨W3.heap.size, 0, none⟩) 1 1) 1 (ec1 x) (W3.alloc (.cells (ec1 x).toArray 49)) ∧ Below w.heap.size w (W3.alloc (.cells (ec1 x).toArray 49))) := Lib.hid
        ⟨H3.out.1.below (bnew (Below.refl _ _) _), src_sl Try.underlying23 rfl (Lies.new W3 (ec1 x) 49) (fun h => by cases h) (fun u hu => ecL_one [x] u (by rw [ecL_1]; exact hu)), bnew H3.out.2.2 _⟩
      clear hb3 HK HX HZ HO hXs
      unfold entC
      unfold ec1 at HN HE
      go_wp2_with (at_builtin; refine wpList_app_sl rfl (.tmp 15) (.tmp 18) 23 23 rfl 49 i0 (.agg (entC En.zero)) 13 48 Try.underlying23 hi hz0 hz1 hz2 rfl (by decide) rfl HN.out.1 _ 1 _ rfl HN.out.2.1 (by simp only [maxLen]; omega) (by omega) ?_)
      intro B2 c2 W4 hS4 hg4 hB4
      have H4 : Hid (Sl W4 13 B2 (i + 1) c2 (ec (es.take (i + 1))) ∧ (∀ b, blk B2 = some b → w.heap.size ≤ b) ∧ Below w.heap.size w W4) := Lib.hid ⟨by rw [HE.out]; exact hS4, fun b hb => (hB4 b hb).elim (H3.out.2.1 b) (fun h => by have := HN.out.2.2.size; simp only [World.size_alloc] at this; omega), grown_bel HN.out.2.2 hg4 HN.out.2.2.size H3.out.2.1⟩
      clear hS4 hg4 hB4 HN H3 HE
      go_wp2_with fail
      go_roundw
      case rel => exact ⟨i + 1, B2, c2, by omega, by go_num, rfl, H4.out.1, H4.out.2.1, H4.out.2.2⟩
      case measure => simp [intOf]; omega
    · obtain rfl : i = n := by omega
      have HJ := Lib.hid (And.intro hS (And.intro hB hW))
      clear hS hB hW
      go_wp2_with fail
      go_ret
      have he : es.take i = es := List.take_of_length_le (by rw [← Hn.out]; exact Nat.le_refl _)
      have h1 := HJ.out.1
      rw [he] at h1
      have hn2 := Hn.out
      subst hn2
      exact ⟨B, c, rfl, h1, HJ.out.2.1, HJ.out.2.2⟩
end Go.Proofs.Ytlnohjboldenpaa
