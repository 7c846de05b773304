/-
  Layer 13: the document's Ask and Drop walked.
-/
import Derived.Test.YtlnohjboldenpaaPRdZ
set_option linter.unusedSimpArgs false
set_option linter.unusedVariables false
namespace Go.Proofs.Ytlnohjboldenpaa
open Go.RowKit Go.Sort
/-- The document's reads, as a value in a world. -/
structure DV (W : World) (r : Rd.R) (A : Option Addr) (c : Nat) (B : Option Addr) (d : Nat) : Prop where
  lb : Lies W A (rdc r.b)
  lw : Lies W B (uc r.w)
  nb : A = none → r.b.length = 0
  nw : B = none → r.w.length = 0
  rb : r.b.length ≤ c
  rw_ : r.w.length ≤ d
  tb : ∀ b, blk A = some b → b < W.heap.size
  tw : ∀ b, blk B = some b → b < W.heap.size
  few : r.b.length + r.w.length ≤ 200000
section
variable {W W' : World} {r : Rd.R} {A B : Option Addr} {c d : Nat}
theorem DV.bel (h : DV W r A c B d) (hb : Below W.heap.size W W') : DV W' r A c B d := ⟨h.lb.below hb, h.lw.below hb, h.nb, h.nw, h.rb, h.rw_, fun b hk => Nat.lt_of_lt_of_le (h.tb b hk) hb.size, fun b hk => Nat.lt_of_lt_of_le (h.tw b hk) hb.size, h.few⟩
theorem Zk.lies {Z : Nat → Prop} (h : Zk Z W W') {xs : List Value} (hs : Lies W A xs) (hz : ∀ b, blk A = some b → Z b) : Lies W' A xs := by
  rcases hs with h0 | ⟨g, off, rfl, hlt, hc⟩
  · exact .inl h0
  · exact .inr ⟨g, off, rfl, Nat.lt_of_lt_of_le hlt h.size, fun i u hu => (World.cell?_of_block (a := ⟨g, off + i, none⟩) (h.keep g (hz g rfl))).trans (hc i u hu)⟩
theorem DV.zk {Z : Nat → Prop} (h : DV W r A c B d) (hz : Zk Z W W') (ha : ∀ b, blk A = some b → Z b) (hb : ∀ b, blk B = some b → Z b) : DV W' r A c B d := ⟨hz.lies h.lb ha, hz.lies h.lw hb, h.nb, h.nw, h.rb, h.rw_, fun b hk => Nat.lt_of_lt_of_le (h.tb b hk) hz.size, fun b hk => Nat.lt_of_lt_of_le (h.tw b hk) hz.size, h.few⟩
theorem DV.none (W : World) : DV W ⟨[], []⟩ Option.none 0 Option.none 0 := ⟨.inl rfl, .inl rfl, fun _ => rfl, fun _ => rfl, Nat.le_refl _, Nat.le_refl _, (fun b h => by cases h), (fun b h => by cases h), by simp⟩
end
/-- The document's answer: these reads, and a value beside them; what was there is as it was. -/
def RetD (r' : Rd.R) (v : Value) (w : World) (A B : Option Addr) (e : Ending) (w' : World) : Prop :=
  ∃ A' c' B' d', e = .returned (.tuple #[.agg #[.slice A' r'.b.length c', .slice B' r'.w.length d'], v]) ∧ DV w' r' A' c' B' d' ∧ (∀ b, blk A' = some b → blk A = some b ∨ w.heap.size ≤ b) ∧ (∀ b, blk B' = some b → blk B = some b ∨ w.heap.size ≤ b) ∧ Below w.heap.size w w'
theorem sizeDR : (Try.prog.info? 86).map (·.size) = some 2 := by kernel_rfl
theorem any_take_step (f : Nat → Bool) (l : List Nat) (k : Nat) (h : k < l.length) : (l.take (k + 1)).any f = ((l.take k).any f || f l[k]) := by
  rw [List.take_succ_eq_append_getElem h, List.any_append]; simp
theorem any_take_stepR (f : Rd.E → Bool) (l : List Rd.E) (k : Nat) (h : k < l.length) : (l.take (k + 1)).any f = ((l.take k).any f || f l[k]) := by
  rw [List.take_succ_eq_append_getElem h, List.any_append]; simp
theorem any_take_true (f : Nat → Bool) (l : List Nat) (k : Nat) (h : k < l.length) (hf : f l[k] = true) : l.any f = true := List.any_eq_true.2 ⟨_, List.getElem_mem h, hf⟩
theorem any_take_trueR (f : Rd.E → Bool) (l : List Rd.E) (k : Nat) (h : k < l.length) (hf : f l[k] = true) : l.any f = true := List.any_eq_true.2 ⟨_, List.getElem_mem h, hf⟩
/-- Behind an append to an empty row that was just made. -/
theorem app_fresh {w W1 w4 : World} {T : TypeId} {size : Nat} {A4 : Option Addr} {m c4 : Nat} {xs : List Value} (hw : Below w.heap.size w W1) (h4 : Sl w4 size A4 m c4 xs) (g4 : (W1.alloc (.cells #[] T)).grownBy w4 (blk (some ⟨W1.heap.size, 0, none⟩))) (n4 : ∀ b, blk A4 = some b → blk (some ⟨W1.heap.size, 0, none⟩) = some b ∨ (W1.alloc (.cells #[] T)).heap.size ≤ b) :
    Sl w4 size A4 m c4 xs ∧ Below w.heap.size w w4 ∧ Below W1.heap.size W1 w4 ∧ (∀ b, blk A4 = some b → W1.heap.size ≤ b) := by
  have b1 : Below W1.heap.size W1 w4 := (bnew (Below.refl W1.heap.size W1) (.cells #[] T)).grown g4 (by rw [World.size_alloc]; omega) (fun k hk => by rw [blk_some] at hk; injection hk with hk; omega)
  refine ⟨h4, bnext hw b1, b1, fun b hb => ?_⟩
  rcases n4 b hb with h | h
  · rw [blk_some] at h; injection h with h; omega
  · rw [World.size_alloc] at h; omega
set_option maxRecDepth 100000 in
set_option maxHeartbeats 4000000 in
theorem dAsk_any (w : World) (r : Rd.R) (A : Option Addr) (c : Nat) (B : Option Addr) (d : Nat) (h : DV w r A c B d) (x : Nat) (hfew : r.b.length + r.w.length + 1 ≤ 200000) :
    Calls Try.prog 80 #[.agg #[.slice A r.b.length c, .slice B r.w.length d], .int .u64 (x : Int)] w (RetD (Rd.ask r x) (.bool (!Rd.has r x)) w A B) := by
  obtain ⟨i0, hi0, hz0, hz1, hz2⟩ := info_partsR infoU
  have H := Lib.hid h
  have HH : Hid (Rd.has r x = (r.w.any (fun y => decide (y = x)) || r.b.any (Rd.isIt x))) := Lib.hid rfl
  have HQ : Hid (Rd.ask r x = if Rd.has r x = true then r else { r with w := r.w ++ [x] }) := Lib.hid rfl
  obtain ⟨R, hR⟩ : ∃ R, R = Rd.ask r x := ⟨_, rfl⟩
  obtain ⟨T, hT⟩ : ∃ T, T = Rd.has r x := ⟨_, rfl⟩
  unfold RetD
  rw [← hR, ← hT] at HQ
  rw [← hT] at HH
  rw [← hR, ← hT]
  obtain ⟨n, hn⟩ : ∃ n, n = r.b.length := ⟨_, rfl⟩
  obtain ⟨m, hm⟩ : ∃ m, m = r.w.length := ⟨_, rfl⟩
  have Hn := Lib.hid hn
  have Hm := Lib.hid hm
  rw [← hn, ← hm] at hfew ⊢
  clear h hR hT hn hm
  go_enter Try.func80, Try.ntmps80
  go_upto_region 1 with (fail)
  refine forget (fun W => Rw W w.heap.size #[.slice A n c, .slice B m d] 86 ∧ Rw W (w.heap.size + 1) #[.slice none 0 0, .slice none 0 0] 86 ∧ Below w.heap.size w W ∧ w.heap.size ≤ w.heap.size) ⟨(Rw.new w _ _).alloc _, by have := Rw.new (w.alloc (.cells #[.slice A n c, .slice B m d] 86)) #[.slice none 0 0, .slice none 0 0] 86; rw [World.size_alloc] at this; exact this, bnew (bnew (Below.refl _ _) _) _, Nat.le_refl _⟩ ?_
  intro W1 H1
  obtain ⟨g, hg⟩ : ∃ g, g = w.heap.size := ⟨_, rfl⟩
  have HG : Hid (g = w.heap.size) := Lib.hid hg
  rw [← hg] at H1 ⊢
  clear hg
  have HK := Lib.hid H1
  have c0 := H1.1.cell 0 (v := .slice A n c) rfl
  have c1 := H1.1.cell 1 (v := .slice B m d) rfl
  have hLb : Lies W1 A (rdc r.b) := H.out.lb.below (by rw [← HG.out]; exact H1.2.2.1)
  have hLw : Lies W1 B (uc r.w) := H.out.lw.below (by rw [← HG.out]; exact H1.2.2.1)
  have HLb := Lib.hid hLb
  have HLw := Lib.hid hLw
  have hnc : n ≤ c := by rw [Hn.out]; exact H.out.rb
  have hmd : m ≤ d := by rw [Hm.out]; exact H.out.rw_
  -- the way out where it is there
  have HYes : Hid (T = true → ∀ W2, Below w.heap.size w W2 → (∃ A' c' B' d', Ending.returned (.tuple #[.agg #[.slice A n c, .slice B m d], .bool false]) = Ending.returned (.tuple #[.agg #[.slice A' R.b.length c', .slice B' R.w.length d'], .bool (!T)]) ∧ DV W2 R A' c' B' d' ∧ (∀ b, blk A' = some b → blk A = some b ∨ w.heap.size ≤ b) ∧ (∀ b, blk B' = some b → blk B = some b ∨ w.heap.size ≤ b) ∧ Below w.heap.size w W2)) := Lib.hid fun hT W2 hB => by
    have e : R = r := by rw [HQ.out, if_pos hT]
    rw [e, hT, ← Hn.out, ← Hm.out]
    exact ⟨A, c, B, d, rfl, H.out.bel hB, (fun b hb => .inl hb), (fun b hb => .inl hb), hB⟩
  have HGw : Hid (w.heap.size ≤ g + 1) := Lib.hid (by have := HG.out; omega)
  have HBw : Hid (Below w.heap.size w W1) := Lib.hid (by have := HK.out.2.2.1; rw [HG.out] at this; exact this)
  have hX1 : (#[.slice A n c, .slice B m d] : Array Value).all (·.oneCell') = true := by simp [Value.oneCell']
  clear H1 hLb hLw
  go_wp2_with fail
  go_loopw [6] (fun iv wr => ∃ (k : Nat), k ≤ n ∧ iv = .int .i64 (k : Int) ∧ (r.b.take k).any (Rd.isIt x) = false ∧ W1 = wr) (fun iv _ => n - (intOf iv).toNat)
  case atStart => exact ⟨0, Nat.zero_le _, rfl, rfl, rfl⟩
  case round =>
    obtain ⟨k, hkn, rfl, hT, hw⟩ := hrel
    subst hw
    have HT := Lib.hid hT
    clear hT
    by_cases hlt : k < n
    · have hkr : k < r.b.length := by rw [← Hn.out]; exact hlt
      obtain ⟨b, off, rfl, hE⟩ := HLb.out.rd k hkr
      have HS := Lib.hid (any_take_stepR (Rd.isIt x) r.b k hkr)
      have HY2 := Lib.hid (fun h => any_take_trueR (Rd.isIt x) r.b k hkr h)
      obtain ⟨y, hy⟩ : ∃ y, y = r.b[k] := ⟨_, rfl⟩
      rw [← hy] at hE HS HY2
      obtain ⟨_, d0, d1, d2⟩ := hE
      clear hy hkr d1 d2
      by_cases hxy : y.id = x
      · have E : Hid (T = true) := Lib.hid (by rw [HH.out, HY2.out (by unfold Rd.isIt; exact decide_eq_true hxy), Bool.or_true])
        have q1 : ((y.id : Int) == (x : Int)) = true := by simp; omega
        have q2 : ((y.id : Int) = (x : Int)) = True := by simp; omega
        clear hxy HS HY2 HT
        go_wp2_with (first
          | (refine wpList_load_sub rfl 86 _ rfl g 0 rfl 86 _ #[.slice (some ⟨b, off, none⟩) n c, .slice B m d] (0, 0) _ HK.out.1 (fun j hj => by rw [Nat.zero_add]) Try.underlying86 rfl sizeDR ?_)
          | (refine wpList_store_sub rfl 86 _ _ rfl (g + 1) 0 rfl 86 #[.slice none 0 0, .slice none 0 0] #[.slice (some ⟨b, off, none⟩) n c, .slice B m d] rfl HK.out.2.1 (Nat.le_refl 2) sizeDR hX1 ?_))
        have hres := results_ct (P := Try.prog) (fn := Try.f80) rfl
        refine bodyPost_ret (hres _ _ (g + 1) 86 #[.slice (some ⟨b, off, none⟩) n c, .slice B m d] (0, 0) _ rfl (HK.out.2.1.over rfl) Try.underlying86 rfl sizeDR) rfl ?_
        exact HYes.out E.out _ (Bl.puts (w := w) (g := g + 1) HBw.out HGw.out _ _)
      · have E : Hid ((r.b.take (k + 1)).any (Rd.isIt x) = false) := Lib.hid (by rw [HS.out, HT.out]; unfold Rd.isIt; simp [hxy])
        have q1 : ((y.id : Int) == (x : Int)) = false := by simp; omega
        have q2 : ((y.id : Int) = (x : Int)) = False := by simp; omega
        clear hxy HS HY2 HT
        go_wp2_with fail
        go_roundw
        case rel => exact ⟨k + 1, by omega, by go_num, E.out, by first | trivial | rfl⟩
        case measure => simp [intOf]; omega
    · have HNb : Hid (r.b.any (Rd.isIt x) = false) := Lib.hid (by have := HT.out; rw [List.take_of_length_le (by rw [← Hn.out]; omega)] at this; exact this)
      clear HT
      go_wp2_with fail
      go_loopw [7] (fun iv wr => ∃ (j : Nat), j ≤ m ∧ iv = .int .i64 (j : Int) ∧ (r.w.take j).any (fun y => decide (y = x)) = false ∧ W1 = wr) (fun iv _ => m - (intOf iv).toNat)
      case atStart => exact ⟨0, Nat.zero_le _, rfl, rfl, rfl⟩
      case round =>
        obtain ⟨j, hjm, rfl, hT, hw⟩ := hrel
        subst hw
        have HT := Lib.hid hT
        clear hT
        by_cases hlt2 : j < m
        · have hjr : j < r.w.length := by rw [← Hm.out]; exact hlt2
          obtain ⟨b, off, rfl, d0⟩ := HLw.out.u j hjr
          have HS := Lib.hid (any_take_step (fun y => decide (y = x)) r.w j hjr)
          have HY2 := Lib.hid (fun h => any_take_true (fun y => decide (y = x)) r.w j hjr h)
          obtain ⟨y, hy⟩ : ∃ y, y = r.w[j] := ⟨_, rfl⟩
          rw [← hy] at d0 HS HY2
          clear hy hjr
          by_cases hxy : y = x
          · have E : Hid (T = true) := Lib.hid (by rw [HH.out, HY2.out (decide_eq_true hxy), Bool.true_or])
            have q1 : ((y : Int) == (x : Int)) = true := by simp; omega
            have q2 : ((y : Int) = (x : Int)) = True := by simp; omega
            clear hxy HS HY2 HT
            go_wp2_with (first
              | (refine wpList_load_sub rfl 86 _ rfl g 0 rfl 86 _ #[.slice A n c, .slice (some ⟨b, off, none⟩) m d] (0, 0) _ HK.out.1 (fun j hj => by rw [Nat.zero_add]) Try.underlying86 rfl sizeDR ?_)
              | (refine wpList_store_sub rfl 86 _ _ rfl (g + 1) 0 rfl 86 #[.slice none 0 0, .slice none 0 0] #[.slice A n c, .slice (some ⟨b, off, none⟩) m d] rfl HK.out.2.1 (Nat.le_refl 2) sizeDR hX1 ?_))
            have hres := results_ct (P := Try.prog) (fn := Try.f80) rfl
            refine bodyPost_ret (hres _ _ (g + 1) 86 #[.slice A n c, .slice (some ⟨b, off, none⟩) m d] (0, 0) _ rfl (HK.out.2.1.over rfl) Try.underlying86 rfl sizeDR) rfl ?_
            exact HYes.out E.out _ (Bl.puts (w := w) (g := g + 1) HBw.out HGw.out _ _)
          · have E : Hid ((r.w.take (j + 1)).any (fun y => decide (y = x)) = false) := Lib.hid (by rw [HS.out, HT.out]; simp [hxy])
            have q1 : ((y : Int) == (x : Int)) = false := by simp; omega
            have q2 : ((y : Int) = (x : Int)) = False := by simp; omega
            clear hxy HS HY2 HT
            go_wp2_with fail
            go_roundw
            case rel => exact ⟨j + 1, by omega, by go_num, E.out, by first | trivial | rfl⟩
            case measure => simp [intOf]; omega
        · have HNw : Hid (r.w.any (fun y => decide (y = x)) = false) := Lib.hid (by have := HT.out; rw [List.take_of_length_le (by rw [← Hm.out]; omega)] at this; exact this)
          have E : Hid (T = false) := Lib.hid (by rw [HH.out, HNb.out, HNw.out]; rfl)
          have HR : Hid (R = { r with w := r.w ++ [x] }) := Lib.hid (by rw [HQ.out, E.out, if_neg (by decide)])
          have HN : Hid (Sl (W1.alloc (.cells #[] 22)) 1 (some ⟨W1.heap.size, 0, none⟩) 0 0 [] ∧ Src Try.prog 1 81 (.slice B m d) m (uc r.w) (W1.alloc (.cells #[] 22))) := Lib.hid
            ⟨⟨rfl, Nat.le_refl _, Nat.zero_le _, .inr ⟨W1.heap.size, 0, rfl, by rw [World.size_alloc]; omega, (fun j u hu => by simp at hu), fun j hj => by omega⟩⟩,
             src_sl Try.underlying81 (by rw [uc_length, ← Hm.out]) (HLw.out.below (bnew (Below.refl _ _) _)) (fun hB => by rw [Hm.out]; exact H.out.nw hB) (uc_ones _)⟩
          have HX : Hid (∀ w4, (∃ c4 A4, Sl w4 1 A4 m c4 (uc r.w)) → True) := Lib.hid fun _ _ => trivial
          have c1b := later (bnew (Below.refl W1.heap.size W1) (.cells #[] 22)) c1
          clear HYes HNb HNw HT HH HX
          have HF : Hid (∀ (w4 : World) (A4 : Option Addr) (w5 : World) (A5 : Option Addr) (c5 : Nat), Below w.heap.size w w4 → Below W1.heap.size W1 w4 → (∀ b, blk A4 = some b → W1.heap.size ≤ b) → (w4.alloc (.cells #[.int .u64 (x : Int)] 22)).grownBy w5 (blk A4) → Sl w5 1 A5 (m + 1) c5 (uc r.w ++ [.int .u64 (x : Int)]) → (∀ b, blk A5 = some b → blk A4 = some b ∨ (w4.alloc (.cells #[.int .u64 (x : Int)] 22)).heap.size ≤ b) →
              (∃ v, w5.cell? ⟨g, 1, none⟩ = some v) ∧ w5.frozen? ⟨g, 1, none⟩ = false ∧ Rw (w5.setCell ⟨g, 1, none⟩ (.slice A5 (m + 1) c5)) g #[.slice A n c, .slice A5 (m + 1) c5] 86 ∧ Rw (w5.setCell ⟨g, 1, none⟩ (.slice A5 (m + 1) c5)) (g + 1) #[.slice none 0 0, .slice none 0 0] 86 ∧
              ∀ vs, (∃ A' c' B' d', Ending.returned (.tuple #[.agg #[.slice A n c, .slice A5 (m + 1) c5], .bool true]) = Ending.returned (.tuple #[.agg #[.slice A' R.b.length c', .slice B' R.w.length d'], .bool (!T)]) ∧ DV ((w5.setCell ⟨g, 1, none⟩ (.slice A5 (m + 1) c5)).setCells (g + 1) 0 vs) R A' c' B' d' ∧ (∀ b, blk A' = some b → blk A = some b ∨ w.heap.size ≤ b) ∧ (∀ b, blk B' = some b → blk B = some b ∨ w.heap.size ≤ b) ∧ Below w.heap.size w ((w5.setCell ⟨g, 1, none⟩ (.slice A5 (m + 1) c5)).setCells (g + 1) 0 vs))) := Lib.hid fun w4 A4 w5 A5 c5 hw4 h14 hz4 hg5 hs5 hn5 => by
            have hgw := HG.out
            have h1s := h14.size
            have b5 : Below w.heap.size w w5 := (bnew hw4 (.cells #[.int .u64 (x : Int)] 22)).grown hg5 (by rw [World.size_alloc]; have := hw4.size; omega) (fun k hk => by have h1 := hz4 k hk; have h2 := HBw.out.size; omega)
            have b15 : Below W1.heap.size W1 w5 := (bnew h14 (.cells #[.int .u64 (x : Int)] 22)).grown hg5 (by rw [World.size_alloc]; omega) (fun k hk => hz4 k hk)
            have hr1 := HK.out.1.bel b15
            have hr2 := HK.out.2.1.bel b15
            have hz5 : ∀ b, blk A5 = some b → W1.heap.size ≤ b := fun b hb => (hn5 b hb).elim (hz4 b) (fun h => by rw [World.size_alloc] at h; omega)
            have hgl : g + 1 < W1.heap.size := HK.out.2.1.lt
            refine ⟨⟨_, hr1.cell 1 (v := .slice B m d) rfl⟩, hr1.free 1, hr1.put 1 _, hr2.oput (by omega) _ _, fun vs => ?_⟩
            have b6 : Below w.heap.size w (w5.setCell ⟨g, 1, none⟩ (.slice A5 (m + 1) c5)) := b5.setCell (p := ⟨g, 1, none⟩) (by show w.heap.size ≤ g; omega) _
            have b7 : Below w.heap.size w ((w5.setCell ⟨g, 1, none⟩ (.slice A5 (m + 1) c5)).setCells (g + 1) 0 vs) := Bl.puts (w := w) (g := g + 1) b6 HGw.out 0 vs
            have hs7 : Sl ((w5.setCell ⟨g, 1, none⟩ (.slice A5 (m + 1) c5)).setCells (g + 1) 0 vs) 1 A5 (m + 1) c5 (uc r.w ++ [.int .u64 (x : Int)]) := hs5.keep fun b hb => (setCells_other (fun e => by have := hz5 b hb; omega) _ _ _).trans (heap_setCell_other w5 ⟨g, 1, none⟩ b _ (fun e => by have := hz5 b hb; simp only at e; omega))
            rw [HR.out, E.out]
            refine ⟨A, c, A5, c5, by simp only [Hn.out, List.length_append, List.length_singleton, ← Hm.out]; rfl, ⟨H.out.lb.below b7, ?_, H.out.nb, ?_, ?_, ?_, fun b hb => Nat.lt_of_lt_of_le (H.out.tb b hb) b7.size, fun b hb => hs7.lt hb, ?_⟩, fun b hb => .inl hb, fun b hb => .inr (by have := hz5 b hb; omega), b7⟩
            · show Lies _ A5 (uc (r.w ++ [x])); rw [uc_app]; exact hs7.liesV
            · intro hA
              rcases hs7.lies with ⟨_, h0⟩ | ⟨b, off, hb, _⟩
              · have := hs7.le; omega
              · rw [hA] at hb; cases hb
            · exact H.out.rb
            · show (r.w ++ [x]).length ≤ c5; rw [List.length_append, List.length_singleton, ← Hm.out]; exact hs7.le
            · show r.b.length + (r.w ++ [x]).length ≤ _; rw [List.length_append, List.length_singleton, ← Hm.out, ← Hn.out]; omega
          have HFew : Hid (m + 1 ≤ 1000000) := Lib.hid (by omega)
          clear HLb HLw HK
          go_wp2_with (first
            | (refine wpList_store_sub rfl 86 _ _ rfl (g + 1) 0 rfl 86 #[.slice none 0 0, .slice none 0 0] #[.slice A n c, .slice A5 (m + 1) c5] rfl HQ2.out.1.2 (Nat.le_refl 2) sizeDR hX5 ?_)
            | (refine wpList_load_sub rfl 86 _ rfl g 0 rfl 86 _ #[.slice A n c, .slice A5 (m + 1) c5] (0, 0) _ HQ2.out.1.1 (fun j hj => by rw [Nat.zero_add]) Try.underlying86 rfl sizeDR ?_)
            | (at_builtin; refine wpList_app_sl rfl (.tmp 42) (.tmp 44) 81 81 rfl 22 i0 (.int .u64 0) 1 8 Try.underlying81 hi0 hz0 hz1 hz2 rfl (by decide) rfl (HP4.out.1.below (bnew (Below.refl w4.heap.size w4) _)) _ 1 _ rfl (src_sl Try.underlying81 rfl (Lies.new w4 [.int .u64 (x : Int)] 22) (fun h => by cases h) (fun u hu => by rw [List.mem_singleton.1 hu]; rfl)) (by simp only [maxLen]; omega) (by omega) ?_; intro A5 c5 w5 h5 g5 n5; obtain ⟨⟨v5, k1⟩, k2, k3, k4, k5⟩ := HF.out w4 A4 w5 A5 c5 HP4.out.2.1 HP4.out.2.2.1 HP4.out.2.2.2 g5 h5 n5; have HQ2 := Lib.hid (And.intro (And.intro k3 k4) k5); have hX5 : (#[.slice A n c, .slice A5 (m + 1) c5] : Array Value).all (·.oneCell') = true := (by simp [Value.oneCell']); clear k3 k4 k5 h5 g5 n5)
            | (at_builtin; refine wpList_app_sl rfl (.tmp 39) (.tmp 41) 81 81 rfl 22 i0 (.int .u64 0) 1 8 Try.underlying81 hi0 hz0 hz1 hz2 rfl (by decide) rfl HN.out.1 _ m _ rfl HN.out.2 (by simp only [maxLen]; omega) (by omega) ?_; intro A4 c4 w4 h4 g4 n4; rw [Nat.zero_add] at h4 ⊢; rw [List.nil_append] at h4; have HP4 : Hid (Sl w4 1 A4 m c4 (uc r.w) ∧ Below w.heap.size w w4 ∧ Below W1.heap.size W1 w4 ∧ (∀ b, blk A4 = some b → W1.heap.size ≤ b)) := Lib.hid (app_fresh HBw.out h4 g4 n4); clear h4 g4 n4))
          have hres := results_ct (P := Try.prog) (fn := Try.f80) rfl
          refine bodyPost_ret (hres _ _ (g + 1) 86 #[.slice A n c, .slice A5 (m + 1) c5] (0, 0) _ rfl (HQ2.out.1.2.over rfl) Try.underlying86 rfl sizeDR) rfl ?_
          exact HQ2.out.2 _
end Go.Proofs.Ytlnohjboldenpaa
