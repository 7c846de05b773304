/-
  Layer 13: the document's Begin walked.
-/
import Derived.Test.YtlnohjboldenpaaPRdRef
set_option linter.unusedSimpArgs false
set_option linter.unusedVariables false
namespace Go.Proofs.Ytlnohjboldenpaa
open Go.RowKit Go.Sort
namespace Rd
def mxi (l : List E) (i : Nat) : Nat := l.foldl (fun m e => max m e.idx) i
def mxt (l : List E) (t : Nat) : Nat := l.foldl (fun m e => max m e.rnd) t
def dbegin (r : R) (i t : Nat) : R := ⟨r.b ++ put (mxi r.b i) (mxt r.b t) r.w, []⟩
theorem mxi_step (l : List E) (i k : Nat) (h : k < l.length) : mxi (l.take (k + 1)) i = max (mxi (l.take k) i) l[k].idx := by
  unfold mxi; rw [List.take_succ_eq_append_getElem h, List.foldl_append]; rfl
theorem mxt_step (l : List E) (i k : Nat) (h : k < l.length) : mxt (l.take (k + 1)) i = max (mxt (l.take k) i) l[k].rnd := by
  unfold mxt; rw [List.take_succ_eq_append_getElem h, List.foldl_append]; rfl
end Rd
theorem infoDRd : (Try.prog.info? 141).map (fun i => (i.zero, i.size, i.bytes)) = some (some (.agg #[.int .u64 0, .int .u64 0, .int .u64 0]), 3, 24) := by kernel_rfl
set_option maxRecDepth 100000 in
set_option maxHeartbeats 4000000 in
theorem dBegin_any (w : World) (r : Rd.R) (A : Option Addr) (c : Nat) (B : Option Addr) (d : Nat) (h : DV w r A c B d) (i t : Nat) :
    Calls Try.prog 81 #[.agg #[.slice A r.b.length c, .slice B r.w.length d], .int .u64 (i : Int), .int .u64 (t : Int)] w (RetD (Rd.dbegin r i t) (.int .i64 (r.w.length : Int)) w A B) := by
  obtain ⟨i0, hi0, hz0, hz1, hz2⟩ := info_partsR infoDRd
  have H := Lib.hid h
  obtain ⟨I, hI⟩ : ∃ I, I = Rd.mxi r.b i := ⟨_, rfl⟩
  obtain ⟨T, hT⟩ : ∃ T, T = Rd.mxt r.b t := ⟨_, rfl⟩
  have HI := Lib.hid hI
  have HT := Lib.hid hT
  have HQ : Hid (Rd.dbegin r i t = ⟨r.b ++ Rd.put I T r.w, []⟩) := Lib.hid (by rw [hI, hT]; rfl)
  obtain ⟨R, hR⟩ : ∃ R, R = Rd.dbegin r i t := ⟨_, rfl⟩
  unfold RetD
  rw [← hR] at HQ ⊢
  obtain ⟨n, hn⟩ : ∃ n, n = r.b.length := ⟨_, rfl⟩
  obtain ⟨m, hm⟩ : ∃ m, m = r.w.length := ⟨_, rfl⟩
  have Hn := Lib.hid hn
  have Hm := Lib.hid hm
  have hfew := h.few
  rw [← hn, ← hm] at hfew
  rw [← hn, ← hm]
  clear h hR hT hn hm hI
  go_enter Try.func81, Try.ntmps81
  go_upto_region 1 with (fail)
  refine forget (fun W => Rw W w.heap.size #[.slice A n c, .slice B m d] 86 ∧ Rw W (w.heap.size + 1) #[.slice none 0 0, .slice none 0 0] 86 ∧ Below w.heap.size w W ∧ w.heap.size ≤ w.heap.size) ⟨(Rw.new w _ _).alloc _, by have := Rw.new (w.alloc (.cells #[.slice A n c, .slice B m d] 86)) #[.slice none 0 0, .slice none 0 0] 86; rw [World.size_alloc] at this; exact this, bnew (bnew (Below.refl _ _) _) _, Nat.le_refl _⟩ ?_
  intro W1 H1
  obtain ⟨g, hg⟩ : ∃ g, g = w.heap.size := ⟨_, rfl⟩
  have HG : Hid (g = w.heap.size) := Lib.hid hg
  rw [← hg] at H1 ⊢
  clear hg
  have HK := Lib.hid H1
  have c0 := H1.1.cell 0 (v := .slice A n c) rfl
  have c1 := H1.1.cell 1 (v := .slice B m d) rfl
  have HGw : Hid (w.heap.size ≤ g + 1) := Lib.hid (by have := HG.out; omega)
  have HBw : Hid (Below w.heap.size w W1) := Lib.hid (by have := H1.2.2.1; rw [HG.out] at this; exact this)
  have HLb := Lib.hid (H.out.lb.below HBw.out)
  have HLw := Lib.hid (H.out.lw.below HBw.out)
  have hnc : n ≤ c := by rw [Hn.out]; exact H.out.rb
  have hmd : m ≤ d := by rw [Hm.out]; exact H.out.rw_
  clear H1
  go_wp2_with fail
  go_loopw [1, 2, 8] (fun iv tv kv wr => ∃ (k a b : Nat), k ≤ n ∧ Hid (a = Rd.mxi (r.b.take k) i) ∧ Hid (b = Rd.mxt (r.b.take k) t) ∧ kv = .int .i64 (k : Int) ∧ iv = .int .u64 (a : Int) ∧ tv = .int .u64 (b : Int) ∧ W1 = wr) (fun _ _ kv _ => n - (intOf kv).toNat)
  case atStart => exact ⟨0, i, t, Nat.zero_le _, Lib.hid rfl, Lib.hid rfl, rfl, rfl, rfl, rfl⟩
  case round =>
    obtain ⟨k, a, b, hkn, Ha, Hb, rfl, rfl, rfl, hw⟩ := hrel
    subst hw
    by_cases hlt : k < n
    · have hkr : k < r.b.length := by rw [← Hn.out]; exact hlt
      obtain ⟨gb, go, rfl, hE⟩ := HLb.out.rd k hkr
      have HS1 := Lib.hid (Rd.mxi_step r.b i k hkr)
      have HS2 := Lib.hid (Rd.mxt_step r.b t k hkr)
      obtain ⟨y, hy⟩ : ∃ y, y = r.b[k] := ⟨_, rfl⟩
      rw [← hy] at hE HS1 HS2
      rw [← Ha.out] at HS1
      rw [← Hb.out] at HS2
      obtain ⟨_, d0, d1, d2⟩ := hE
      clear hy hkr d0 Ha Hb
      by_cases h1 : a < y.idx
      · have q1 : decide (a < y.idx) = true := decide_eq_true h1
        have q2 : ((a : Int) < (y.idx : Int)) = True := by simp; omega
        have E1 : Hid (y.idx = Rd.mxi (r.b.take (k + 1)) i) := Lib.hid (by rw [HS1.out]; omega)
        clear h1 HS1
        by_cases h2 : b < y.rnd
        · have q3 : decide (b < y.rnd) = true := decide_eq_true h2
          have q4 : ((b : Int) < (y.rnd : Int)) = True := by simp; omega
          have E2 : Hid (y.rnd = Rd.mxt (r.b.take (k + 1)) t) := Lib.hid (by rw [HS2.out]; omega)
          clear h2 HS2
          go_wp2_with fail
          go_roundw
          case rel => exact ⟨k + 1, _, _, by omega, E1, E2, by go_num, rfl, rfl, by first | trivial | rfl⟩
          case measure => simp [intOf]; omega
        · have q3 : decide (b < y.rnd) = false := decide_eq_false h2
          have q4 : ((b : Int) < (y.rnd : Int)) = False := by simp; omega
          have E2 : Hid (b = Rd.mxt (r.b.take (k + 1)) t) := Lib.hid (by rw [HS2.out]; omega)
          clear h2 HS2
          go_wp2_with fail
          go_roundw
          case rel => exact ⟨k + 1, _, _, by omega, E1, E2, by go_num, rfl, rfl, by first | trivial | rfl⟩
          case measure => simp [intOf]; omega
      · have q1 : decide (a < y.idx) = false := decide_eq_false h1
        have q2 : ((a : Int) < (y.idx : Int)) = False := by simp; omega
        have E1 : Hid (a = Rd.mxi (r.b.take (k + 1)) i) := Lib.hid (by rw [HS1.out]; omega)
        clear h1 HS1
        by_cases h2 : b < y.rnd
        · have q3 : decide (b < y.rnd) = true := decide_eq_true h2
          have q4 : ((b : Int) < (y.rnd : Int)) = True := by simp; omega
          have E2 : Hid (y.rnd = Rd.mxt (r.b.take (k + 1)) t) := Lib.hid (by rw [HS2.out]; omega)
          clear h2 HS2
          go_wp2_with fail
          go_roundw
          case rel => exact ⟨k + 1, _, _, by omega, E1, E2, by go_num, rfl, rfl, by first | trivial | rfl⟩
          case measure => simp [intOf]; omega
        · have q3 : decide (b < y.rnd) = false := decide_eq_false h2
          have q4 : ((b : Int) < (y.rnd : Int)) = False := by simp; omega
          have E2 : Hid (b = Rd.mxt (r.b.take (k + 1)) t) := Lib.hid (by rw [HS2.out]; omega)
          clear h2 HS2
          go_wp2_with fail
          go_roundw
          case rel => exact ⟨k + 1, _, _, by omega, E1, E2, by go_num, rfl, rfl, by first | trivial | rfl⟩
          case measure => simp [intOf]; omega
    · have ea : a = I := by rw [Ha.out, List.take_of_length_le (by rw [← Hn.out]; omega), HI.out]
      have eb : b = T := by rw [Hb.out, List.take_of_length_le (by rw [← Hn.out]; omega), HT.out]
      clear Ha Hb HI HT
      subst ea eb
      have HN : Hid (Sl (W1.alloc (.cells #[] 141)) 3 (some ⟨W1.heap.size, 0, none⟩) 0 0 [] ∧ Src Try.prog 3 84 (.slice A n c) n (rdc r.b) (W1.alloc (.cells #[] 141))) := Lib.hid
        ⟨⟨rfl, Nat.le_refl _, Nat.zero_le _, .inr ⟨W1.heap.size, 0, rfl, by rw [World.size_alloc]; omega, (fun j u hu => by simp at hu), fun j hj => by omega⟩⟩,
         src_sl Try.underlying84 (by rw [rdc_length, ← Hn.out]) (HLb.out.below (bnew (Below.refl _ _) _)) (fun hB => by rw [Hn.out]; exact H.out.nb hB) (rdc_ones _)⟩
      have c0b := later (bnew (Below.refl W1.heap.size W1) (.cells #[] 141)) c0
      go_upto_region 9 with (at_builtin; refine wpList_app_sl rfl (.tmp 46) (.tmp 48) 84 84 rfl 141 i0 (.agg #[.int .u64 0, .int .u64 0, .int .u64 0]) 3 24 Try.underlying84 hi0 hz0 hz1 hz2 rfl (by decide) rfl HN.out.1 _ n _ rfl HN.out.2 (by simp only [maxLen]; omega) (by omega) ?_; intro A4 c4 w4 h4 g4 n4; rw [Nat.zero_add] at h4 ⊢; rw [List.nil_append] at h4; have HP4 : Hid (Sl w4 3 A4 n c4 (rdc r.b) ∧ Below w.heap.size w w4 ∧ Below W1.heap.size W1 w4 ∧ (∀ b, blk A4 = some b → W1.heap.size ≤ b)) := Lib.hid (app_fresh HBw.out h4 g4 n4); clear h4 g4 n4)
      clear HN c0b
      go_wp2_with fail
      go_loopw [9, 10] (fun lv kv wr => ∃ (j q : Nat) (A' : Option Addr) (c' : Nat), j ≤ m ∧ q ≤ 200000 ∧ Hid (q = n + j) ∧ kv = .int .i64 (j : Int) ∧ lv = .slice A' q c' ∧ Sl wr 3 A' q c' (rdc (r.b ++ Rd.put a b (r.w.take j))) ∧ (∀ b, blk A' = some b → W1.heap.size ≤ b) ∧ Below W1.heap.size W1 wr) (fun _ kv _ => m - (intOf kv).toNat)
      case atStart => exact ⟨0, n, A4, c4, Nat.zero_le _, by omega, Lib.hid rfl, rfl, rfl, by have := HP4.out.1; simpa [Rd.put] using this, HP4.out.2.2.2, HP4.out.2.2.1⟩
      case round =>
        obtain ⟨j, q, A', c', hjm, hq2, Hq, rfl, rfl, hS, hA, hW⟩ := hrel
        have HSW := Lib.hid (And.intro hS (And.intro hA hW))
        have c1' := later hW c1
        clear HP4
        by_cases hlt2 : j < m
        · have hjr : j < r.w.length := by rw [← Hm.out]; exact hlt2
          obtain ⟨gb, go, rfl, d0⟩ := (HLw.out.below hW).u j hjr
          obtain ⟨x, hx⟩ : ∃ x, x = r.w[j] := ⟨_, rfl⟩
          have HT1 : Hid (rdc (r.b ++ Rd.put a b (r.w.take (j + 1))) = rdc (r.b ++ Rd.put a b (r.w.take j)) ++ rd1 ⟨x, a, b⟩) := Lib.hid (by
            have e1 : Rd.put a b (r.w.take (j + 1)) = Rd.put a b (r.w.take j) ++ [⟨x, a, b⟩] := by rw [List.take_succ_eq_append_getElem hjr, hx]; unfold Rd.put; rw [List.map_append]; rfl
            rw [e1, ← List.append_assoc, rdc_app (_ ++ _), rdc_one])
          rw [← hx] at d0
          have HN : Hid (Sl (wr.alloc (.cells #[.int .u64 (x : Int), .int .u64 (a : Int), .int .u64 (b : Int)] 141)) 3 A' q c' (rdc (r.b ++ Rd.put a b (r.w.take j))) ∧ Src Try.prog 3 84 (.slice (some ⟨wr.heap.size, 0, none⟩) 1 1) 1 (rd1 ⟨x, a, b⟩) (wr.alloc (.cells #[.int .u64 (x : Int), .int .u64 (a : Int), .int .u64 (b : Int)] 141)) ∧ Below W1.heap.size W1 (wr.alloc (.cells #[.int .u64 (x : Int), .int .u64 (a : Int), .int .u64 (b : Int)] 141))) := Lib.hid
            ⟨hS.below (bnew (Below.refl _ _) _), src_sl Try.underlying84 rfl (Lies.new wr (rd1 ⟨x, a, b⟩) 141) (fun h => by cases h) (fun u hu => rdc_ones [⟨x, a, b⟩] u (by rw [rdc_one]; exact hu)), bnew hW _⟩
          have hqs : q + 1 ≤ 200000 := by have := Hq.out; omega
          have HQ1 : Hid (q + 1 = n + (j + 1)) := Lib.hid (by have := Hq.out; omega)
          clear hS hA hW hx hjr Hq
          unfold rd1 at HN
          go_wp2_with (at_builtin; refine wpList_app_sl rfl (.tmp 57) (.tmp 66) 84 84 rfl 141 i0 (.agg #[.int .u64 0, .int .u64 0, .int .u64 0]) 3 24 Try.underlying84 hi0 hz0 hz1 hz2 rfl (by decide) rfl HN.out.1 _ 1 _ rfl HN.out.2.1 (by simp only [maxLen]; omega) (by omega) ?_)
          intro A5 c5 w5 h5 g5 n5
          have H5 : Hid (Sl w5 3 A5 (q + 1) c5 (rdc (r.b ++ Rd.put a b (r.w.take (j + 1)))) ∧ (∀ b, blk A5 = some b → W1.heap.size ≤ b) ∧ Below W1.heap.size W1 w5) := Lib.hid ⟨by rw [HT1.out]; exact h5, fun b hb => (n5 b hb).elim (HSW.out.2.1 b) (fun h => by have := HSW.out.2.2.size; first | omega | (rw [World.size_alloc] at h; omega)), Below.grown HN.out.2.2 g5 HN.out.2.2.size HSW.out.2.1⟩
          clear h5 g5 n5 HN HSW HT1
          go_wp2_with fail
          go_roundw
          case rel => exact ⟨j + 1, q + 1, A5, c5, by omega, hqs, HQ1, by go_num, rfl, H5.out.1, H5.out.2.1, H5.out.2.2⟩
          case measure => simp [intOf]; omega
        · have HR : Hid (R = ⟨r.b ++ Rd.put a b (r.w.take j), []⟩) := Lib.hid (by rw [HQ.out, List.take_of_length_le (by rw [← Hm.out]; omega)])
          have hr1 := HK.out.1.bel hW
          have hr2 := HK.out.2.1.bel hW
          have z0 := hr2.cell 0 (v := .slice none 0 0) rfl
          have z1 := hr2.cell 1 (v := .slice none 0 0) rfl
          have y0 := hr2.free 0
          have y1 := hr2.free 1
          have hbd := below_drew (Below.refl wr.heap.size wr)
          have z0' := later hbd z0
          have z1' := later hbd z1
          have y0' := (hr2.bel hbd).free 0
          have y1' := (hr2.bel hbd).free 1
          have c1d := later hbd c1'
          have HR2 := Lib.hid (hr2.bel hbd)
          have HRr := Lib.hid hr2
          have HFin : Hid (∃ A2 c2 B2 d2, Ending.returned (.tuple #[.agg #[.slice A' q c', .slice none 0 0], .int .i64 (m : Int)]) = Ending.returned (.tuple #[.agg #[.slice A2 R.b.length c2, .slice B2 R.w.length d2], .int .i64 (m : Int)]) ∧ DV ((wr.setCell ⟨g + 1, 0, none⟩ (.slice A' q c')).setCell ⟨g + 1, 1, none⟩ (.slice none 0 0)).drew R A2 c2 B2 d2 ∧ (∀ b, blk A2 = some b → blk A = some b ∨ w.heap.size ≤ b) ∧ (∀ b, blk B2 = some b → blk B = some b ∨ w.heap.size ≤ b) ∧ Below w.heap.size w ((wr.setCell ⟨g + 1, 0, none⟩ (.slice A' q c')).setCell ⟨g + 1, 1, none⟩ (.slice none 0 0)).drew) := Lib.hid (by
            have hgl : g + 1 < W1.heap.size := HK.out.2.1.lt
            have hq : R.b.length = q := by rw [HR.out]; show (r.b ++ Rd.put a b (r.w.take j)).length = q; rw [List.length_append, Rd.put_len, List.length_take, ← Hn.out, ← Hm.out, Hq.out]; omega
            have hwl : R.w.length = 0 := by rw [HR.out]; rfl
            have hb9 : Below w.heap.size w ((wr.setCell ⟨g + 1, 0, none⟩ (.slice A' q c')).setCell ⟨g + 1, 1, none⟩ (.slice none 0 0)).drew := below_drew (((bnext HBw.out hW).setCell (p := ⟨g + 1, 0, none⟩) HGw.out _).setCell (p := ⟨g + 1, 1, none⟩) HGw.out _)
            have hs9 : Sl ((wr.setCell ⟨g + 1, 0, none⟩ (.slice A' q c')).setCell ⟨g + 1, 1, none⟩ (.slice none 0 0)).drew 3 A' q c' (rdc (r.b ++ Rd.put a b (r.w.take j))) := hS.keep fun k hk => (heap_setCell_other _ ⟨g + 1, 1, none⟩ k _ (fun e => by have := hA k hk; simp only at e; omega)).trans (heap_setCell_other wr ⟨g + 1, 0, none⟩ k _ (fun e => by have := hA k hk; simp only at e; omega))
            rw [hq, hwl]
            refine ⟨A', c', none, 0, rfl, ⟨?_, ?_, ?_, (fun _ => hwl), ?_, by rw [hwl]; exact Nat.le_refl _, (fun k hk => hs9.lt hk), (fun k hk => by cases hk), by rw [hq, hwl]; exact hq2⟩, fun k hk => .inr (by have h1 := hA k hk; have h2 := HBw.out.size; omega), (fun k hk => by cases hk), hb9⟩
            · rw [HR.out]; exact hs9.liesV
            · rw [HR.out]; exact .inl rfl
            · intro hN
              rw [hq]
              rcases hs9.lies with ⟨_, h0⟩ | ⟨b', off', hb', _⟩
              · have := hs9.le; omega
              · rw [hN] at hb'; cases hb'
            · rw [hq]; exact hs9.le)
          clear hS hA hW hr1 hr2 hbd
          go_wp2_with fail
          go_region
          go_wp2_with fail
          have hres := results_ct (P := Try.prog) (fn := Try.f81) rfl
          refine bodyPost_ret (hres _ _ (g + 1) 86 #[.slice A' q c', .slice none 0 0] (0, 0) _ rfl (((HRr.out.put 0 (.slice A' q c')).put 1 (.slice none 0 0)).drew) Try.underlying86 rfl sizeDR) rfl ?_
          exact HFin.out
end Go.Proofs.Ytlnohjboldenpaa
