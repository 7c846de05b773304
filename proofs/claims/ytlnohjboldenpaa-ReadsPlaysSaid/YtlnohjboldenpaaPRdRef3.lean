/-
  Layer 13: the document's Told and Drop walked.
-/
import Derived.Test.YtlnohjboldenpaaPRdRef2
set_option linter.unusedSimpArgs false
set_option linter.unusedVariables false
namespace Go.Proofs.Ytlnohjboldenpaa
open Go.RowKit Go.Sort
namespace Rd
def yes (t : Nat) (l : List E) : List E := l.filter (fun e => decide (e.rnd ≤ t))
def no (t : Nat) (l : List E) : List E := l.filter (fun e => !decide (e.rnd ≤ t))
theorem yes_step (t : Nat) (l : List E) (k : Nat) (h : k < l.length) : (l[k].rnd ≤ t → yes t (l.take (k + 1)) = yes t (l.take k) ++ [l[k]] ∧ no t (l.take (k + 1)) = no t (l.take k)) ∧ (¬ l[k].rnd ≤ t → yes t (l.take (k + 1)) = yes t (l.take k) ∧ no t (l.take (k + 1)) = no t (l.take k) ++ [l[k]]) := by
  unfold yes no
  rw [List.take_succ_eq_append_getElem h, List.filter_append, List.filter_append]
  refine ⟨fun hr => ?_, fun hr => ?_⟩
  · simp [hr]
  · simp [hr]
theorem yes_len (t : Nat) (l : List E) : (yes t l).length ≤ l.length := List.length_filter_le _ _
theorem no_len (t : Nat) (l : List E) : (no t l).length ≤ l.length := List.length_filter_le _ _
end Rd
/-- What the document's Told hands back. -/
def RetDT (r : Rd.R) (t : Nat) (w : World) (B : Option Addr) (e : Ending) (w' : World) : Prop :=
  ∃ A' c' B' d' O co, e = .returned (.tuple #[.agg #[.slice A' (Rd.no t r.b).length c', .slice B' r.w.length d'], .slice O (Rd.yes t r.b).length co]) ∧ DV w' ⟨Rd.no t r.b, r.w⟩ A' c' B' d' ∧ (∀ b, blk A' = some b → w.heap.size ≤ b) ∧ (∀ b, blk B' = some b → blk B = some b ∨ w.heap.size ≤ b) ∧ Lies w' O (rdc (Rd.yes t r.b)) ∧ (Rd.yes t r.b).length ≤ co ∧ (∀ b, blk O = some b → w.heap.size ≤ b ∧ b < w'.heap.size) ∧ Below w.heap.size w w'
/-- A list that grows in memory of its own, since W1. -/
structure Gr (W1 wr : World) (A : Option Addr) (n c : Nat) (es : List Rd.E) : Prop where
  sl : Sl wr 3 A n c (rdc es)
  new : ∀ b, blk A = some b → W1.heap.size ≤ b
theorem Gr.nil (W1 wr : World) : Gr W1 wr none 0 0 [] := ⟨Sl.nil _ _, fun b h => by cases h⟩
theorem Gr.bel {W1 wr W2 : World} {A : Option Addr} {n c : Nat} {es : List Rd.E} (h : Gr W1 wr A n c es) (hb : Below wr.heap.size wr W2) : Gr W1 W2 A n c es := ⟨h.sl.below hb, h.new⟩
theorem Gr.app {W1 wr w5 : World} {A A5 : Option Addr} {n c c5 : Nat} {es : List Rd.E} {y : Rd.E} (h : Gr W1 wr A n c es) (h1 : W1.heap.size ≤ wr.heap.size) (h5 : Sl w5 3 A5 (n + 1) c5 (rdc es ++ rd1 y)) (n5 : ∀ b, blk A5 = some b → blk A = some b ∨ wr.heap.size + 1 ≤ b) : Gr W1 w5 A5 (n + 1) c5 (es ++ [y]) :=
  ⟨by rw [rdc_app, rdc_one]; exact h5, fun b hb => (n5 b hb).elim (h.new b) fun h => by omega⟩
theorem Gr.other {W1 wr w5 : World} {A C : Option Addr} {n c : Nat} {es : List Rd.E} {o : Obj} (h : Gr W1 wr A n c es) (hd : ∀ b, blk A = some b → blk C ≠ some b) (g5 : (wr.alloc o).grownBy w5 (blk C)) : Gr W1 w5 A n c es :=
  ⟨(h.sl.below (bnew (Below.refl _ _) o)).keep fun b hb => grownBy_block g5 (by have := h.sl.lt hb; rw [World.size_alloc]; omega) (hd b hb), h.new⟩
theorem apart_app {wr : World} {A C C5 : Option Addr} (hd : ∀ b, blk A = some b → blk C ≠ some b) (hl : ∀ b, blk A = some b → b < wr.heap.size) (n5 : ∀ b, blk C5 = some b → blk C = some b ∨ wr.heap.size + 1 ≤ b) : ∀ b, blk A = some b → blk C5 ≠ some b := fun b hb hc => by
  rcases n5 b hc with h | h
  · exact hd b hb h
  · have := hl b hb; omega
set_option maxRecDepth 100000 in
set_option maxHeartbeats 4000000 in
theorem dTold_any (w : World) (r : Rd.R) (A : Option Addr) (c : Nat) (B : Option Addr) (d : Nat) (h : DV w r A c B d) (t : Nat) :
    Calls Try.prog 82 #[.agg #[.slice A r.b.length c, .slice B r.w.length d], .int .u64 (t : Int)] w (RetDT r t w B) := by
  obtain ⟨i0, hi0, hz0, hz1, hz2⟩ := info_partsR infoDRd
  have H := Lib.hid h
  obtain ⟨Y, hY⟩ : ∃ Y, Y = Rd.yes t r.b := ⟨_, rfl⟩
  obtain ⟨N, hN⟩ : ∃ N, N = Rd.no t r.b := ⟨_, rfl⟩
  have HYY := Lib.hid hY
  have HNN := Lib.hid hN
  unfold RetDT
  rw [← hY, ← hN]
  obtain ⟨n, hn⟩ : ∃ n, n = r.b.length := ⟨_, rfl⟩
  obtain ⟨m, hm⟩ : ∃ m, m = r.w.length := ⟨_, rfl⟩
  have Hn := Lib.hid hn
  have Hm := Lib.hid hm
  have hfew := h.few
  rw [← hn, ← hm] at hfew
  rw [← hn, ← hm]
  clear h hY hN hn hm
  go_enter Try.func82, Try.ntmps82
  go_upto_region 1 with (fail)
  refine forget (fun W => Rw W w.heap.size #[.slice A n c, .slice B m d] 86 ∧ Rw W (w.heap.size + 1) #[.slice none 0 0, .slice none 0 0] 86 ∧ Below w.heap.size w W ∧ w.heap.size ≤ w.heap.size) ⟨(Rw.new w _ _).alloc _, by have := Rw.new (w.alloc (.cells #[.slice A n c, .slice B m d] 86)) #[.slice none 0 0, .slice none 0 0] 86; rw [World.size_alloc] at this; exact this, bnew (bnew (Below.refl _ _) _) _, Nat.le_refl _⟩ ?_
  intro W1 H1
  obtain ⟨g, hg⟩ : ∃ g, g = w.heap.size := ⟨_, rfl⟩
  have HG : Hid (g = w.heap.size) := Lib.hid hg
  rw [← hg] at H1 ⊢
  clear hg
  have HK := Lib.hid H1
  have c0 := H1.1.cell 0 (v := .slice A n c) rfl
  have HGw : Hid (w.heap.size ≤ g + 1) := Lib.hid (by have := HG.out; omega)
  have HBw : Hid (Below w.heap.size w W1) := Lib.hid (by have := H1.2.2.1; rw [HG.out] at this; exact this)
  have HLb := Lib.hid (H.out.lb.below HBw.out)
  have hnc : n ≤ c := by rw [Hn.out]; exact H.out.rb
  clear H1
  go_wp2_with fail
  go_loopw [6, 7, 8] (fun ov lv kv wr => ∃ (k o l : Nat) (O : Option Addr) (co : Nat) (L : Option Addr) (cl : Nat), k ≤ n ∧ o ≤ k ∧ l ≤ k ∧ kv = .int .i64 (k : Int) ∧ ov = .slice O o co ∧ lv = .slice L l cl ∧ Gr W1 wr O o co (Rd.yes t (r.b.take k)) ∧ Gr W1 wr L l cl (Rd.no t (r.b.take k)) ∧ (∀ b, blk O = some b → blk L ≠ some b) ∧ Below W1.heap.size W1 wr) (fun _ _ kv _ => n - (intOf kv).toNat)
  case atStart => exact ⟨0, 0, 0, none, 0, none, 0, Nat.zero_le _, Nat.le_refl _, Nat.le_refl _, rfl, rfl, rfl, Gr.nil _ _, Gr.nil _ _, (fun b h => by cases h), Below.refl _ _⟩
  case round =>
    obtain ⟨k, o, l, O, co, L, cl, hkn, hok, hlk, rfl, rfl, rfl, hO, hL, hA, hW⟩ := hrel
    have HO := Lib.hid hO
    have HL := Lib.hid hL
    have HA := Lib.hid hA
    have HW := Lib.hid hW
    by_cases hlt : k < n
    · have hkr : k < r.b.length := by rw [← Hn.out]; exact hlt
      have c0' := later hW c0
      obtain ⟨gb, go, rfl, hE⟩ := (HLb.out.below hW).rd k hkr
      obtain ⟨hS1, hS2⟩ := Rd.yes_step t r.b k hkr
      have HS1 := Lib.hid hS1
      have HS2 := Lib.hid hS2
      obtain ⟨y, hy⟩ : ∃ y, y = r.b[k] := ⟨_, rfl⟩
      rw [← hy] at hE HS1 HS2
      obtain ⟨_, d0, d1, d2⟩ := hE
      obtain ⟨y0, y1, y2⟩ := y
      simp only at d0 d1 d2 HS1 HS2
      have hd0 := later (bnew (Below.refl wr.heap.size wr) (.cells #[.int .u64 (y0 : Int), .int .u64 (y1 : Int), .int .u64 (y2 : Int)] 141)) d0
      have HSrc : Hid (Src Try.prog 3 84 (.slice (some ⟨wr.heap.size, 0, none⟩) 1 1) 1 (rd1 ⟨y0, y1, y2⟩) (wr.alloc (.cells #[.int .u64 (y0 : Int), .int .u64 (y1 : Int), .int .u64 (y2 : Int)] 141))) := Lib.hid (src_sl Try.underlying84 rfl (Lies.new wr (rd1 ⟨y0, y1, y2⟩) 141) (fun h => by cases h) (fun u hu => rdc_ones [⟨y0, y1, y2⟩] u (by rw [rdc_one]; exact hu)))
      clear hO hL hA hW hS1 hS2 hy hkr hd0
      by_cases hyt : y2 ≤ t
      · have q1 : decide (y2 ≤ t) = true := decide_eq_true hyt
        have q2 : ((y2 : Int) ≤ (t : Int)) = True := by simp; omega
        have HE := Lib.hid (HS1.out hyt)
        have HN : Hid (Sl (wr.alloc (.cells #[.int .u64 (y0 : Int), .int .u64 (y1 : Int), .int .u64 (y2 : Int)] 141)) 3 O o co (rdc (Rd.yes t (r.b.take k)))) := Lib.hid (HO.out.sl.below (bnew (Below.refl _ _) _))
        clear HS1 HS2 hyt
        unfold rd1 at HSrc
        go_wp2_with (at_builtin; refine wpList_app_sl rfl (.tmp 24) (.tmp 30) 84 84 rfl 141 i0 (.agg #[.int .u64 0, .int .u64 0, .int .u64 0]) 3 24 Try.underlying84 hi0 hz0 hz1 hz2 rfl (by decide) rfl HN.out _ 1 _ rfl HSrc.out (by simp only [maxLen]; omega) (by omega) ?_)
        intro A5 c5 w5 h5 g5 n5
        have H5 : Hid (Gr W1 w5 A5 (o + 1) c5 (Rd.yes t (r.b.take (k + 1))) ∧ Gr W1 w5 L l cl (Rd.no t (r.b.take (k + 1))) ∧ (∀ b, blk A5 = some b → blk L ≠ some b) ∧ Below W1.heap.size W1 w5) := Lib.hid (by
          rw [HE.out.1, HE.out.2]
          have h1 := HW.out.size
          refine ⟨HO.out.app h1 h5 n5, HL.out.other (fun b hb hc => HA.out b hc hb) g5, fun b hb hc => apart_app (fun b hb hc => HA.out b hc hb) (fun b hb => HL.out.sl.lt hb) n5 b hc hb, Below.grown (bnew HW.out _) g5 (by have := (bnew HW.out (.cells #[.int .u64 (y0 : Int), .int .u64 (y1 : Int), .int .u64 (y2 : Int)] 141)).size; exact this) HO.out.new⟩)
        clear h5 g5 n5 HN HSrc HO HL HA HW HE d0 d1 d2 c0'
        go_wp2_with fail
        go_roundw
        case rel => exact ⟨k + 1, o + 1, l, A5, c5, L, cl, by omega, by omega, by omega, by go_num, rfl, rfl, H5.out.1, H5.out.2.1, H5.out.2.2.1, H5.out.2.2.2⟩
        case measure => simp [intOf]; omega
      · have q1 : decide (y2 ≤ t) = false := decide_eq_false hyt
        have q2 : ((y2 : Int) ≤ (t : Int)) = False := by simp; omega
        have HE := Lib.hid (HS2.out hyt)
        have HN : Hid (Sl (wr.alloc (.cells #[.int .u64 (y0 : Int), .int .u64 (y1 : Int), .int .u64 (y2 : Int)] 141)) 3 L l cl (rdc (Rd.no t (r.b.take k)))) := Lib.hid (HL.out.sl.below (bnew (Below.refl _ _) _))
        clear HS1 HS2 hyt
        unfold rd1 at HSrc
        go_wp2_with (at_builtin; refine wpList_app_sl rfl (.tmp 32) (.tmp 38) 84 84 rfl 141 i0 (.agg #[.int .u64 0, .int .u64 0, .int .u64 0]) 3 24 Try.underlying84 hi0 hz0 hz1 hz2 rfl (by decide) rfl HN.out _ 1 _ rfl HSrc.out (by simp only [maxLen]; omega) (by omega) ?_)
        intro A5 c5 w5 h5 g5 n5
        have H5 : Hid (Gr W1 w5 O o co (Rd.yes t (r.b.take (k + 1))) ∧ Gr W1 w5 A5 (l + 1) c5 (Rd.no t (r.b.take (k + 1))) ∧ (∀ b, blk O = some b → blk A5 ≠ some b) ∧ Below W1.heap.size W1 w5) := Lib.hid (by
          rw [HE.out.1, HE.out.2]
          have h1 := HW.out.size
          refine ⟨HO.out.other HA.out g5, HL.out.app h1 h5 n5, apart_app HA.out (fun b hb => HO.out.sl.lt hb) n5, Below.grown (bnew HW.out _) g5 (by have := (bnew HW.out (.cells #[.int .u64 (y0 : Int), .int .u64 (y1 : Int), .int .u64 (y2 : Int)] 141)).size; exact this) HL.out.new⟩)
        clear h5 g5 n5 HN HSrc HO HL HA HW HE d0 d1 d2 c0'
        go_wp2_with fail
        go_roundw
        case rel => exact ⟨k + 1, o, l + 1, O, co, A5, c5, by omega, by omega, by omega, by go_num, rfl, rfl, H5.out.1, H5.out.2.1, H5.out.2.2.1, H5.out.2.2.2⟩
        case measure => simp [intOf]; omega
    · have hr1 := HK.out.1.bel hW
      have hr2 := HK.out.2.1.bel hW
      have z0 := hr1.cell 0 (v := .slice A n c) rfl
      have f0 := hr1.free 0
      have HR1 : Hid (Rw (wr.setCell ⟨g, 0, none⟩ (.slice L l cl)) g #[.slice L l cl, .slice B m d] 86) := Lib.hid (hr1.put 0 (.slice L l cl))
      have HR2 := Lib.hid (hr2.oput (i := 0) (j := g) (by omega) (.slice L l cl))
      have ek : r.b.take k = r.b := List.take_of_length_le (by rw [← Hn.out]; omega)
      have HFin : Hid (∀ vs, ∃ A' c' B' d' O' co', Ending.returned (.tuple #[.agg #[.slice L l cl, .slice B m d], .slice O o co]) = Ending.returned (.tuple #[.agg #[.slice A' N.length c', .slice B' m d'], .slice O' Y.length co']) ∧ DV ((wr.setCell ⟨g, 0, none⟩ (.slice L l cl)).setCells (g + 1) 0 vs) ⟨N, r.w⟩ A' c' B' d' ∧ (∀ b, blk A' = some b → w.heap.size ≤ b) ∧ (∀ b, blk B' = some b → blk B = some b ∨ w.heap.size ≤ b) ∧ Lies ((wr.setCell ⟨g, 0, none⟩ (.slice L l cl)).setCells (g + 1) 0 vs) O' (rdc Y) ∧ Y.length ≤ co' ∧ (∀ b, blk O' = some b → w.heap.size ≤ b ∧ b < ((wr.setCell ⟨g, 0, none⟩ (.slice L l cl)).setCells (g + 1) 0 vs).heap.size) ∧ Below w.heap.size w ((wr.setCell ⟨g, 0, none⟩ (.slice L l cl)).setCells (g + 1) 0 vs)) := Lib.hid fun vs => by
        have hgl : g + 1 < W1.heap.size := HK.out.2.1.lt
        have hgw := HG.out
        have hlY : Y.length = o := by have := hO.sl.len; rw [ek, rdc_length, ← HYY.out] at this; omega
        have hlN : N.length = l := by have := hL.sl.len; rw [ek, rdc_length, ← HNN.out] at this; omega
        have b7 : Below w.heap.size w ((wr.setCell ⟨g, 0, none⟩ (.slice L l cl)).setCells (g + 1) 0 vs) := Bl.puts (w := w) (g := g + 1) ((bnext HBw.out hW).setCell (p := ⟨g, 0, none⟩) (by show w.heap.size ≤ g; omega) _) HGw.out 0 vs
        have hk : ∀ b, W1.heap.size ≤ b → ((wr.setCell ⟨g, 0, none⟩ (.slice L l cl)).setCells (g + 1) 0 vs).heap[b]? = wr.heap[b]? := fun b hb => (setCells_other (fun e => by omega) _ _ _).trans (heap_setCell_other wr ⟨g, 0, none⟩ b _ (fun e => by simp only at e; omega))
        have sO : Sl ((wr.setCell ⟨g, 0, none⟩ (.slice L l cl)).setCells (g + 1) 0 vs) 3 O o co (rdc Y) := by
          have := hO.sl.keep (fun b hb => hk b (hO.new b hb)); rw [ek, ← HYY.out] at this; exact this
        have sL : Sl ((wr.setCell ⟨g, 0, none⟩ (.slice L l cl)).setCells (g + 1) 0 vs) 3 L l cl (rdc N) := by
          have := hL.sl.keep (fun b hb => hk b (hL.new b hb)); rw [ek, ← HNN.out] at this; exact this
        have hws := HBw.out.size
        rw [hlY, hlN]
        refine ⟨L, cl, B, d, O, co, rfl, ⟨sL.liesV, H.out.lw.below b7, ?_, H.out.nw, by rw [hlN]; exact sL.le, H.out.rw_, (fun b hb => sL.lt hb), fun b hb => Nat.lt_of_lt_of_le (H.out.tw b hb) b7.size, ?_⟩, (fun b hb => by have := hL.new b hb; omega), (fun b hb => .inl hb), sO.liesV, sO.le, (fun b hb => ⟨by have := hO.new b hb; omega, sO.lt hb⟩), b7⟩
        · intro hN
          rcases sL.lies with ⟨_, h0⟩ | ⟨b', off', hb', _⟩
          · have := sL.le; rw [hlN]; omega
          · rw [hN] at hb'; cases hb'
        · show N.length + r.w.length ≤ _; rw [hlN, ← Hm.out]; omega
      have hX5 : (#[.slice L l cl, .slice B m d] : Array Value).all (·.oneCell') = true := by simp [Value.oneCell']
      clear hO hL hA hW HO HL HA HW hr1 hr2 ek HLb H
      go_wp2_with (first
        | (refine wpList_load_sub rfl 86 _ rfl g 0 rfl 86 _ #[.slice L l cl, .slice B m d] (0, 0) _ HR1.out (fun j hj => by rw [Nat.zero_add]) Try.underlying86 rfl sizeDR ?_)
        | (refine wpList_store_sub rfl 86 _ _ rfl (g + 1) 0 rfl 86 #[.slice none 0 0, .slice none 0 0] #[.slice L l cl, .slice B m d] rfl HR2.out (Nat.le_refl 2) sizeDR hX5 ?_))
      have hres := results_ct (P := Try.prog) (fn := Try.f82) rfl
      refine bodyPost_ret (hres _ _ (g + 1) 86 #[.slice L l cl, .slice B m d] (0, 0) _ rfl (HR2.out.over rfl) Try.underlying86 rfl sizeDR) rfl ?_
      exact HFin.out _
end Go.Proofs.Ytlnohjboldenpaa
