/-
  The document's disk: put walked. WRITTEN BY wip/tools/gen_rkput.py.
-/
import Derived.Test.YtjmnoogaffjdiaaRRkPut2
set_option linter.unusedSimpArgs false
set_option linter.unusedVariables false
namespace Go.Proofs.Ytjmnoogaffjdiaa
open Go.RowKit
set_option maxRecDepth 100000 in
set_option maxHeartbeats 16000000 in
theorem put_any (W : World) (p : Nat) (xs : List Fx) (A : Option Addr) (cap : Nat) (off : Bool) (left : Nat) (h : RI W p xs A cap off left) (x : Fx) (hx : Lies W x.ra (sc x.f.recs)) (hxp : Off x p) (hxc : x.f.recs.length ≤ x.rc) (hl : xs.length ≤ 100000000) :
    Calls Try.prog 56 #[.pointer (some ⟨p, 0, none⟩), .agg (flC x)] W fun e w' => e = .returned (.tuple #[]) ∧ ∃ A' cap', RI w' p (rputX x xs false) A' cap' off left ∧ Ko (atP p) W w' ∧ ∀ b o, A' = some ⟨b, o, none⟩ → W.heap.size ≤ b := by
  have hplt := h.lt
  have H := Lib.hid h
  have HF : Hid (∀ wr v, Below W.heap.size W wr → ∀ base, W.heap.size ≤ base → ∀ ys, ys = rputX x xs false → wr.ownsRow base 65 5 v ys.length (fc ys) → ∃ A' cap', RI (wr.setCell ⟨p, 0, none⟩ v) p (rputX x xs false) A' cap' off left ∧ Ko (atP p) W (wr.setCell ⟨p, 0, none⟩ v) ∧ ∀ b o, A' = some ⟨b, o, none⟩ → W.heap.size ≤ b) := Lib.hid fun wr v hb base hbase ys hys ho => by
    subst hys
    refine h.renew hb (own_lower ho hbase) (fun y hy => ?_) (fun y hy => ?_) (fun y hy => ?_)
    · rcases mem_rputX hy with rfl | hy
      · exact hx
      · exact h.lies y hy
    · rcases mem_rputX hy with rfl | hy
      · exact hxp
      · exact h.ap y hy
    · rcases mem_rputX hy with rfl | hy
      · exact hxc
      · exact h.room y hy
  obtain ⟨i0, hi, hz0, hz1, hz2⟩ := info_parts infoFl
  have HI := Lib.hid (And.intro hi (And.intro hz0 (And.intro hz1 hz2)))
  have HC0 : Hid (∀ W2, Below W.heap.size W W2 → W2.cell? ⟨p, 0, none⟩ = some (.slice A xs.length cap) ∧ W2.frozen? ⟨p, 0, none⟩ = false) := Lib.hid fun W2 hb => ⟨(hb.cell (p := ⟨p, 0, none⟩) hplt).trans (cell_of_row W p 0 _ _ _ h.row), (hb.frozen (p := ⟨p, 0, none⟩) hplt).trans (frozen_of_row W p 0 _ _ h.row)⟩
  obtain ⟨⟨nm0, rs0, sy0, ct0, tn0⟩, ra0, rc0⟩ := x
  have hb1 : Below W.heap.size W (W.alloc (.cells #[.string nm0, .slice ra0 rs0.length rc0, .int .i64 (sy0 : Int), .bool ct0, .string tn0] 65)) := bnew (Below.refl _ _) _
  have HB1 := Lib.hid hb1
  have HS1 : Hid (W.heap.size ≤ (W.alloc (.cells #[.string nm0, .slice ra0 rs0.length rc0, .int .i64 (sy0 : Int), .bool ct0, .string tn0] 65)).heap.size) := Lib.hid (by simp)
  have HR1 : Hid (∀ Wz, Below (W.alloc (.cells #[.string nm0, .slice ra0 rs0.length rc0, .int .i64 (sy0 : Int), .bool ct0, .string tn0] 65)).heap.size (W.alloc (.cells #[.string nm0, .slice ra0 rs0.length rc0, .int .i64 (sy0 : Int), .bool ct0, .string tn0] 65)) Wz → Wz.heap[W.heap.size]? = some (.cells #[.string nm0, .slice ra0 rs0.length rc0, .int .i64 (sy0 : Int), .bool ct0, .string tn0] 65 (0, 0))) := Lib.hid fun Wz hb => (hb.block _ (by simp)).trans (heap_alloc_new W _)
  have HZ0 := Lib.hid (sizeFl ⟨⟨nm0, rs0, sy0, ct0, tn0⟩, ra0, rc0⟩)
  have HSub : Hid (∀ j, j < (#[.string nm0, .slice ra0 rs0.length rc0, .int .i64 (sy0 : Int), .bool ct0, .string tn0] : Array Value).size → (#[.string nm0, .slice ra0 rs0.length rc0, .int .i64 (sy0 : Int), .bool ct0, .string tn0] : Array Value)[0 + j]? = (#[.string nm0, .slice ra0 rs0.length rc0, .int .i64 (sy0 : Int), .bool ct0, .string tn0] : Array Value)[j]?) := Lib.hid fun j _ => by rw [Nat.zero_add]
  unfold flC at HZ0 ⊢
  simp only at HZ0 HF ⊢
  obtain ⟨c0, f0⟩ := HC0.out (W.alloc (.cells #[.string nm0, .slice ra0 rs0.length rc0, .int .i64 (sy0 : Int), .bool ct0, .string tn0] 65)) hb1
  clear h hi hz0 hz1 hz2 hplt hx hxp hxc hb1
  go_enter Try.func56, Try.ntmps56
  go_wp2_with fail
  clear c0 f0
  go_loopw [4, 5, 6] (fun v dn i wr => ∃ (k : Nat) (d : Bool) (ys : List Fx), k ≤ xs.length ∧ i = .int .i64 (k : Int) ∧ dn = .bool d ∧ wr.ownsRow (W.alloc (.cells #[.string nm0, .slice ra0 rs0.length rc0, .int .i64 (sy0 : Int), .bool ct0, .string tn0] 65)).heap.size 65 5 v ys.length (fc ys) ∧ Mid ⟨⟨nm0, rs0, sy0, ct0, tn0⟩, ra0, rc0⟩ xs ys k d ∧ Below (W.alloc (.cells #[.string nm0, .slice ra0 rs0.length rc0, .int .i64 (sy0 : Int), .bool ct0, .string tn0] 65)).heap.size (W.alloc (.cells #[.string nm0, .slice ra0 rs0.length rc0, .int .i64 (sy0 : Int), .bool ct0, .string tn0] 65)) wr) (fun _ _ i _ => xs.length - (intOf i).toNat)
  case atStart => exact ⟨0, false, [], Nat.zero_le _, rfl, rfl, World.ownsRow_nil _ _ _ _, ⟨rfl, Nat.le_refl _⟩, Below.refl _ _⟩
  case round =>
    obtain ⟨k, d, ys, hk, rfl, rfl, hown, hmid, hb⟩ := hrel
    obtain ⟨Av, cv, rfl, _⟩ := own_slice hown
    have Hb := Lib.hid hb
    obtain ⟨c0, f0⟩ := HC0.out wr (bnext2 HB1.out hb HS1.out)
    have hrow := HR1.out wr hb
    have r0 : wr.cell? ⟨W.heap.size, 0, none⟩ = some (.string nm0) := cell_of_row wr _ 0 _ _ _ hrow
    have hyl : ys.length ≤ 100000001 := by have := hmid.len; split at this <;> omega
    have HM := Lib.hid hmid
    clear hb hrow hmid
    by_cases hlt : k < xs.length
    · obtain ⟨g, hA, hg, hr⟩ := H.out.cellsAt k hlt
      have hr2 : Hid (∀ Wz, Below (W.alloc (.cells #[.string nm0, .slice ra0 rs0.length rc0, .int .i64 (sy0 : Int), .bool ct0, .string tn0] 65)).heap.size (W.alloc (.cells #[.string nm0, .slice ra0 rs0.length rc0, .int .i64 (sy0 : Int), .bool ct0, .string tn0] 65)) Wz → Wz.rangeAt g (k * 5) (flC xs[k]).toList) := Lib.hid fun Wz hb j v hv => ((bnext2 HB1.out hb HS1.out).cell (p := ⟨g, k * 5 + j, none⟩) hg).trans (hr j v hv)
      obtain ⟨x, hx⟩ : ∃ x, x = xs[k] := ⟨_, rfl⟩
      rw [← hx] at hr2
      have HMs : Hid (x.f.name = nm0 → Mid ⟨⟨nm0, rs0, sy0, ct0, tn0⟩, ra0, rc0⟩ xs ys (k + 1) d) := Lib.hid fun he => HM.out.skip hlt (by rw [← hx]; exact he)
      have HMp : Hid (x.f.name ≠ nm0 → ¬ (d = false ∧ Dk.lt nm0 x.f.name) → Mid ⟨⟨nm0, rs0, sy0, ct0, tn0⟩, ra0, rc0⟩ xs (ys ++ [x]) (k + 1) d) := Lib.hid fun he hl => by rw [hx]; exact HM.out.past hlt (by rw [← hx]; exact he) (by rw [← hx]; exact hl)
      have HMh : Hid (x.f.name ≠ nm0 → d = false → Dk.lt nm0 x.f.name → Mid ⟨⟨nm0, rs0, sy0, ct0, tn0⟩, ra0, rc0⟩ xs ((ys ++ [⟨⟨nm0, rs0, sy0, ct0, tn0⟩, ra0, rc0⟩]) ++ [x]) (k + 1) true) := Lib.hid fun he hd hl => by
        subst hd
        rw [hx]; exact HM.out.here hlt (by rw [← hx]; exact he) (by rw [← hx]; exact hl)
      obtain ⟨⟨nm, rs, sy, ct, tn⟩, ra, rc⟩ := x
      have c1 : wr.cell? ⟨g, k * 5, none⟩ = some (.string nm) := hr2.out wr Hb.out 0 _ rfl
      have HZ := Lib.hid (sizeFl ⟨⟨nm, rs, sy, ct, tn⟩, ra, rc⟩)
      have HO := Lib.hid hown
      simp only at HMs HMp HMh
      subst hA
      clear hr hx HM
      by_cases he : nm = nm0
      · subst he
        have HN := Lib.hid (HMs.out rfl)
        clear hown
        go_wp2_with fail
        go_quiet (fail)
        go_wp2_with fail
        go_roundw
        case rel => exact ⟨k + 1, d, ys, by omega, by go_num, rfl, own_drew HO.out _, HN.out, below_drewN Hb.out _⟩
        case measure => simp [intOf]; omega
      have q1 := beq_f he
      by_cases hd : d = false ∧ Dk.lt nm0 nm
      · obtain ⟨rfl, hlt2⟩ := hd
        have q2 := less_t hlt2
        have HN := Lib.hid (HMh.out he rfl hlt2)
        clear hown he hlt2 HMs HMp HMh
        go_wp2_with fail
        go_quiet (fail)
        go_wp2_with fail
        go_quiet (fail)
        go_upto_region 8 with (fail)
        refine forget (fun Wz => Below (W.alloc (.cells #[.string nm0, .slice ra0 rs0.length rc0, .int .i64 (sy0 : Int), .bool ct0, .string tn0] 65)).heap.size (W.alloc (.cells #[.string nm0, .slice ra0 rs0.length rc0, .int .i64 (sy0 : Int), .bool ct0, .string tn0] 65)) Wz ∧ Wz.ownsRow (W.alloc (.cells #[.string nm0, .slice ra0 rs0.length rc0, .int .i64 (sy0 : Int), .bool ct0, .string tn0] 65)).heap.size 65 5 (.slice Av ys.length cv) ys.length (fc ys)) ⟨below_drewN (below_drewN Hb.out _) _, own_drew (own_drew HO.out _) _⟩ ?_
        clear c0 f0 r0 c1
        intro Wz hz
        obtain ⟨hzb, hzo⟩ := hz
        have Hzb := Lib.hid hzb
        have Hrz := Lib.hid (HR1.out Wz hzb)
        obtain ⟨hi, hz0, hz1, hz2⟩ := HI.out
        clear hzb
        go_upto_region 10 with (first
          | (refine wpList_load_sub rfl 65 _ rfl W.heap.size 0 rfl 65 #[.string nm0, .slice ra0 rs0.length rc0, .int .i64 (sy0 : Int), .bool ct0, .string tn0] #[.string nm0, .slice ra0 rs0.length rc0, .int .i64 (sy0 : Int), .bool ct0, .string tn0] (0, 0) _ Hrz.out HSub.out Try.underlying65 rfl HZ0.out ?_)
          | (at_builtin; refine wpList_app_own rfl (.tmp 42) (.tmp 44) 28 rfl (W.alloc (.cells #[.string nm0, .slice ra0 rs0.length rc0, .int .i64 (sy0 : Int), .bool ct0, .string tn0] 65)).heap.size 65 i0 flZ 5 72 Try.underlying28 hi hz0 hz1 hz2 rfl (by decide) _ _ _ rfl (World.ownsRow.alloc hzo _) ⟨Wz.heap.size, 0, none⟩ 1 1 (fc1 ⟨⟨nm0, rs0, sy0, ct0, tn0⟩, ra0, rc0⟩) rfl rfl (news_fl Wz _ _) (fl_one _) (by have := hyl; simp only [maxLen]; omega) (by have := hyl; omega) (by have := Hzb.out.size; simp only [World.size_alloc] at this ⊢; omega) ?_; intro v2HQ w2HQ ho hg hn; obtain ⟨AHQ, cHQ, rfl, _⟩ := own_slice ho; have HQ := Lib.hid ho; have HP : Hid (Below (W.alloc (.cells #[.string nm0, .slice ra0 rs0.length rc0, .int .i64 (sy0 : Int), .bool ct0, .string tn0] 65)).heap.size (W.alloc (.cells #[.string nm0, .slice ra0 rs0.length rc0, .int .i64 (sy0 : Int), .bool ct0, .string tn0] 65)) w2HQ) := Lib.hid ((bnew Hzb.out _).grown hg (by have := Hzb.out.size; simp only [World.size_alloc] at this ⊢; omega) (fun j hj => (own_lt hzo hj).2)); clear ho hg hn))
        refine forget (fun Wy => Below (W.alloc (.cells #[.string nm0, .slice ra0 rs0.length rc0, .int .i64 (sy0 : Int), .bool ct0, .string tn0] 65)).heap.size (W.alloc (.cells #[.string nm0, .slice ra0 rs0.length rc0, .int .i64 (sy0 : Int), .bool ct0, .string tn0] 65)) Wy ∧ Wy.ownsRow (W.alloc (.cells #[.string nm0, .slice ra0 rs0.length rc0, .int .i64 (sy0 : Int), .bool ct0, .string tn0] 65)).heap.size 65 5 (.slice AHQ (ys.length + 1) cHQ) (ys.length + 1) (fc ys ++ fc1 ⟨⟨nm0, rs0, sy0, ct0, tn0⟩, ra0, rc0⟩)) ⟨HP.out, HQ.out⟩ ?_
        intro Wy hy
        obtain ⟨hyb, hyo⟩ := hy
        have Hyb := Lib.hid hyb
        obtain ⟨c0, f0⟩ := HC0.out Wy (bnext2 HB1.out hyb HS1.out)
        have HRg := Lib.hid (hr2.out Wy hyb)
        obtain ⟨hi, hz0, hz1, hz2⟩ := HI.out
        clear hyb hzo HQ HP
        go_wp2_with (first
          | (refine wpList_load_rng rfl 65 _ rfl g (k * 5) rfl (flC ⟨⟨nm, rs, sy, ct, tn⟩, ra, rc⟩) _ HRg.out Try.underlying65 rfl HZ.out ?_; unfold flC; simp only [])
          | (at_builtin; refine wpList_app_own rfl (.tmp 46) (.tmp 54) 28 rfl (W.alloc (.cells #[.string nm0, .slice ra0 rs0.length rc0, .int .i64 (sy0 : Int), .bool ct0, .string tn0] 65)).heap.size 65 i0 flZ 5 72 Try.underlying28 hi hz0 hz1 hz2 rfl (by decide) _ _ _ rfl (World.ownsRow.alloc hyo _) ⟨Wy.heap.size, 0, none⟩ 1 1 (fc1 ⟨⟨nm, rs, sy, ct, tn⟩, ra, rc⟩) rfl rfl (news_fl Wy _ _) (fl_one _) (by have := hyl; simp only [maxLen]; omega) (by have := hyl; omega) (by have := Hyb.out.size; simp only [World.size_alloc] at this ⊢; omega) ?_; intro v2HQ2 w2HQ2 ho hg hn; obtain ⟨AHQ2, cHQ2, rfl, _⟩ := own_slice ho; have HQ2 := Lib.hid ho; have HP2 : Hid (Below (W.alloc (.cells #[.string nm0, .slice ra0 rs0.length rc0, .int .i64 (sy0 : Int), .bool ct0, .string tn0] 65)).heap.size (W.alloc (.cells #[.string nm0, .slice ra0 rs0.length rc0, .int .i64 (sy0 : Int), .bool ct0, .string tn0] 65)) w2HQ2) := Lib.hid ((bnew Hyb.out _).grown hg (by have := Hyb.out.size; simp only [World.size_alloc] at this ⊢; omega) (fun j hj => (own_lt hyo hj).2)); clear ho hg hn))
        go_roundw
        case rel => exact ⟨k + 1, _, _, by omega, by go_num, rfl, by rw [List.length_append, List.length_append, fc_append, fc_append]; exact HQ2.out, HN.out, HP2.out⟩
        case measure => simp [intOf]; omega
      · have HN := Lib.hid (HMp.out he hd)
        cases d
        · have q2 := less_f (fun h => hd ⟨rfl, h⟩)
          clear hown he hd HMs HMp HMh
          go_wp2_with fail
          go_quiet (fail)
          go_wp2_with fail
          go_quiet (fail)
          go_upto_region 10 with (fail)
          refine forget (fun Wz => Below (W.alloc (.cells #[.string nm0, .slice ra0 rs0.length rc0, .int .i64 (sy0 : Int), .bool ct0, .string tn0] 65)).heap.size (W.alloc (.cells #[.string nm0, .slice ra0 rs0.length rc0, .int .i64 (sy0 : Int), .bool ct0, .string tn0] 65)) Wz ∧ Wz.ownsRow (W.alloc (.cells #[.string nm0, .slice ra0 rs0.length rc0, .int .i64 (sy0 : Int), .bool ct0, .string tn0] 65)).heap.size 65 5 (.slice Av ys.length cv) ys.length (fc ys)) ⟨below_drewN (below_drewN Hb.out _) _, own_drew (own_drew HO.out _) _⟩ ?_
          clear c0 f0 r0 c1
          intro Wz hz
          obtain ⟨hzb, hzo⟩ := hz
          have Hzb := Lib.hid hzb
          obtain ⟨c0, f0⟩ := HC0.out Wz (bnext2 HB1.out hzb HS1.out)
          have HRg := Lib.hid (hr2.out Wz hzb)
          obtain ⟨hi, hz0, hz1, hz2⟩ := HI.out
          clear hzb
          go_wp2_with (first
            | (refine wpList_load_rng rfl 65 _ rfl g (k * 5) rfl (flC ⟨⟨nm, rs, sy, ct, tn⟩, ra, rc⟩) _ HRg.out Try.underlying65 rfl HZ.out ?_; unfold flC; simp only [])
            | (at_builtin; refine wpList_app_own rfl (.tmp 46) (.tmp 54) 28 rfl (W.alloc (.cells #[.string nm0, .slice ra0 rs0.length rc0, .int .i64 (sy0 : Int), .bool ct0, .string tn0] 65)).heap.size 65 i0 flZ 5 72 Try.underlying28 hi hz0 hz1 hz2 rfl (by decide) _ _ _ rfl (World.ownsRow.alloc hzo _) ⟨Wz.heap.size, 0, none⟩ 1 1 (fc1 ⟨⟨nm, rs, sy, ct, tn⟩, ra, rc⟩) rfl rfl (news_fl Wz _ _) (fl_one _) (by have := hyl; simp only [maxLen]; omega) (by have := hyl; omega) (by have := Hzb.out.size; simp only [World.size_alloc] at this ⊢; omega) ?_; intro v2HQ w2HQ ho hg hn; obtain ⟨AHQ, cHQ, rfl, _⟩ := own_slice ho; have HQ := Lib.hid ho; have HP : Hid (Below (W.alloc (.cells #[.string nm0, .slice ra0 rs0.length rc0, .int .i64 (sy0 : Int), .bool ct0, .string tn0] 65)).heap.size (W.alloc (.cells #[.string nm0, .slice ra0 rs0.length rc0, .int .i64 (sy0 : Int), .bool ct0, .string tn0] 65)) w2HQ) := Lib.hid ((bnew Hzb.out _).grown hg (by have := Hzb.out.size; simp only [World.size_alloc] at this ⊢; omega) (fun j hj => (own_lt hzo hj).2)); clear ho hg hn))
          go_roundw
          case rel => exact ⟨k + 1, _, _, by omega, by go_num, rfl, by rw [List.length_append, fc_append]; exact HQ.out, HN.out, HP.out⟩
          case measure => simp [intOf]; omega
        · clear hown he hd HMs HMp HMh
          go_wp2_with fail
          go_quiet (fail)
          go_wp2_with fail
          go_quiet (fail)
          go_upto_region 10 with (fail)
          refine forget (fun Wz => Below (W.alloc (.cells #[.string nm0, .slice ra0 rs0.length rc0, .int .i64 (sy0 : Int), .bool ct0, .string tn0] 65)).heap.size (W.alloc (.cells #[.string nm0, .slice ra0 rs0.length rc0, .int .i64 (sy0 : Int), .bool ct0, .string tn0] 65)) Wz ∧ Wz.ownsRow (W.alloc (.cells #[.string nm0, .slice ra0 rs0.length rc0, .int .i64 (sy0 : Int), .bool ct0, .string tn0] 65)).heap.size 65 5 (.slice Av ys.length cv) ys.length (fc ys)) ⟨below_drewN (below_drewN Hb.out _) _, own_drew (own_drew HO.out _) _⟩ ?_
          clear c0 f0 r0 c1
          intro Wz hz
          obtain ⟨hzb, hzo⟩ := hz
          have Hzb := Lib.hid hzb
          obtain ⟨c0, f0⟩ := HC0.out Wz (bnext2 HB1.out hzb HS1.out)
          have HRg := Lib.hid (hr2.out Wz hzb)
          obtain ⟨hi, hz0, hz1, hz2⟩ := HI.out
          clear hzb
          go_wp2_with (first
            | (refine wpList_load_rng rfl 65 _ rfl g (k * 5) rfl (flC ⟨⟨nm, rs, sy, ct, tn⟩, ra, rc⟩) _ HRg.out Try.underlying65 rfl HZ.out ?_; unfold flC; simp only [])
            | (at_builtin; refine wpList_app_own rfl (.tmp 46) (.tmp 54) 28 rfl (W.alloc (.cells #[.string nm0, .slice ra0 rs0.length rc0, .int .i64 (sy0 : Int), .bool ct0, .string tn0] 65)).heap.size 65 i0 flZ 5 72 Try.underlying28 hi hz0 hz1 hz2 rfl (by decide) _ _ _ rfl (World.ownsRow.alloc hzo _) ⟨Wz.heap.size, 0, none⟩ 1 1 (fc1 ⟨⟨nm, rs, sy, ct, tn⟩, ra, rc⟩) rfl rfl (news_fl Wz _ _) (fl_one _) (by have := hyl; simp only [maxLen]; omega) (by have := hyl; omega) (by have := Hzb.out.size; simp only [World.size_alloc] at this ⊢; omega) ?_; intro v2HQ w2HQ ho hg hn; obtain ⟨AHQ, cHQ, rfl, _⟩ := own_slice ho; have HQ := Lib.hid ho; have HP : Hid (Below (W.alloc (.cells #[.string nm0, .slice ra0 rs0.length rc0, .int .i64 (sy0 : Int), .bool ct0, .string tn0] 65)).heap.size (W.alloc (.cells #[.string nm0, .slice ra0 rs0.length rc0, .int .i64 (sy0 : Int), .bool ct0, .string tn0] 65)) w2HQ) := Lib.hid ((bnew Hzb.out _).grown hg (by have := Hzb.out.size; simp only [World.size_alloc] at this ⊢; omega) (fun j hj => (own_lt hzo hj).2)); clear ho hg hn))
          go_roundw
          case rel => exact ⟨k + 1, _, _, by omega, by go_num, rfl, by rw [List.length_append, fc_append]; exact HQ.out, HN.out, HP.out⟩
          case measure => simp [intOf]; omega
    · obtain rfl : k = xs.length := by omega
      have hy := HM.out.nil
      cases d
      · rw [if_neg (by simp)] at hy
        have HY := Lib.hid hy.symm
        have Hrz := Lib.hid (HR1.out wr Hb.out)
        obtain ⟨hi, hz0, hz1, hz2⟩ := HI.out
        have HPc : Hid (∀ w, Below (W.alloc (.cells #[.string nm0, .slice ra0 rs0.length rc0, .int .i64 (sy0 : Int), .bool ct0, .string tn0] 65)).heap.size (W.alloc (.cells #[.string nm0, .slice ra0 rs0.length rc0, .int .i64 (sy0 : Int), .bool ct0, .string tn0] 65)) w → w.cell? ⟨p, 0, none⟩ = some (.slice A xs.length cap) ∧ w.frozen? ⟨p, 0, none⟩ = false) := Lib.hid fun w hb => HC0.out w (bnext2 HB1.out hb HS1.out)
        clear hy
        go_upto_region 13 with (first
          | (refine wpList_load_sub rfl 65 _ rfl W.heap.size 0 rfl 65 #[.string nm0, .slice ra0 rs0.length rc0, .int .i64 (sy0 : Int), .bool ct0, .string tn0] #[.string nm0, .slice ra0 rs0.length rc0, .int .i64 (sy0 : Int), .bool ct0, .string tn0] (0, 0) _ Hrz.out HSub.out Try.underlying65 rfl HZ0.out ?_)
          | (at_builtin; refine wpList_app_own rfl (.tmp 58) (.tmp 60) 28 rfl (W.alloc (.cells #[.string nm0, .slice ra0 rs0.length rc0, .int .i64 (sy0 : Int), .bool ct0, .string tn0] 65)).heap.size 65 i0 flZ 5 72 Try.underlying28 hi hz0 hz1 hz2 rfl (by decide) _ _ _ rfl (World.ownsRow.alloc hown _) ⟨wr.heap.size, 0, none⟩ 1 1 (fc1 ⟨⟨nm0, rs0, sy0, ct0, tn0⟩, ra0, rc0⟩) rfl rfl (news_fl wr _ _) (fl_one _) (by have := hyl; simp only [maxLen]; omega) (by have := hyl; omega) (by have := Hb.out.size; simp only [World.size_alloc] at this ⊢; omega) ?_; intro v2HQ w2HQ ho hg hn; obtain ⟨AHQ, cHQ, rfl, _⟩ := own_slice ho; have HQ := Lib.hid ho; have HP : Hid (Below (W.alloc (.cells #[.string nm0, .slice ra0 rs0.length rc0, .int .i64 (sy0 : Int), .bool ct0, .string tn0] 65)).heap.size (W.alloc (.cells #[.string nm0, .slice ra0 rs0.length rc0, .int .i64 (sy0 : Int), .bool ct0, .string tn0] 65)) w2HQ) := Lib.hid ((bnew Hb.out _).grown hg (by have := Hb.out.size; simp only [World.size_alloc] at this ⊢; omega) (fun j hj => (own_lt hown hj).2)); clear ho hg hn))
        clear c0 f0
        obtain ⟨c0, f0⟩ := HPc.out _ HP.out
        go_wp2_with fail
        go_end0
        exact ⟨rfl, HF.out _ _ (bnext2 HB1.out HP.out HS1.out) _ HS1.out (ys ++ [⟨⟨nm0, rs0, sy0, ct0, tn0⟩, ra0, rc0⟩]) HY.out (by rw [List.length_append, fc_append]; exact HQ.out)⟩
      · rw [if_pos rfl] at hy
        have HY := Lib.hid hy.symm
        have HO := Lib.hid hown
        clear hy hown
        go_wp2_with fail
        go_end0
        exact ⟨rfl, HF.out _ _ (bnext2 HB1.out Hb.out HS1.out) _ HS1.out ys HY.out HO.out⟩
end Go.Proofs.Ytjmnoogaffjdiaa
