/-
  Logs: Add walked.
-/
import Derived.Test.YtlnohjboldenpaaLLgDel
set_option linter.unusedSimpArgs false
set_option linter.unusedVariables false
namespace Go.Proofs.Ytlnohjboldenpaa
open Go.RowKit Go.Sort
theorem cutL {G C : Prop} (h : Hid G → C) (g : G) : C := h (Lib.hid g)
theorem put_src {W w8 : World} {A A8 : Option Addr} {k c c8 m : Nat} {xs : List Value} {es : List En.E} (h : Sl W 13 A k c xs) (hb : Below W.heap.size W w8) (hs : Sl w8 13 A8 m c8 (ec es)) (hm : m = es.length) : Sl w8 13 A k c xs ∧ Src Try.prog 13 23 (.slice A8 m c8) m (ec es) w8 := by
  refine ⟨h.below hb, src_sl Try.underlying23 (by rw [ecL_len, hm]) hs.liesV (fun hA => ?_) (ecL_one es)⟩
  rcases hs.lies with ⟨_, h0⟩ | ⟨b, off, he, _⟩
  · have := hs.le; omega
  · rw [hA] at he; cases he
theorem step_app_sl {P : Program} {ops : Array Oper} {o : Oper} {a : Act} {w : World} {K : Act → World → Prop} {Q : Exit → Act → World → Prop} {E : Prop}
    (hgd : o.guard = none) (s x : Operand) (t tx : TypeId) (ho : o.op = .call { callee := .builtin .append, args := #[s, x], argTypes := #[t, tx] })
    (e : TypeId) (i : TypeInfo) (z : Value) (size bytes : Nat) (ht : P.underlying t = some (.slice e)) (hi : P.info? e = some i) (hz : i.zero = some z)
    (hsize : i.size = size) (hby : i.bytes = bytes) (hzs : z.cells.size = size) (hsz : 0 < size)
    {A : Option Addr} {n c : Nat} {xs : List Value} (hv : a.eval s = .slice A n c) (h : Sl w size A n c xs) (xv : Value) (m : Nat) (news : List Value) (hx : a.eval x = xv) (hs : Src P size tx xv m news w)
    (h63 : n + m ≤ maxLen) (hbytes : (n + m) * bytes ≤ 140737488355328)
    (hK : ∀ A' c' w', Sl w' size A' (n + m) c' (xs ++ news) → w.grownBy w' (blk A) → (∀ b, blk A' = some b → blk A = some b ∨ w.heap.size ≤ b) → K (a.put o.dst (.slice A' (n + m) c')) w') :
    if Region.wanted o (yielded ops a.tmps) = true then Oper.wp P o a w K Q else E := by
  have hw : Region.wanted o (yielded ops a.tmps) = true := by simp [Region.wanted, hgd]
  rw [if_pos hw]
  obtain ⟨A', c', w', hr, h2, h3, h4⟩ := run_app_sl (P := P) w t tx o.type e i z size bytes ht hi hz hsize hby hzs hsz h xv m news hs h63 hbytes
  unfold Oper.wp execOp
  simp only [ho, resolve, invoke, builtin, Sem.run_bind, Sem.run_pure, Result.andThen_ok, List.map_toArray, List.map_cons, List.map_nil, hv, hx, hr]
  exact hK A' c' w' h2 h3 h4
/-- A log has become l, by the blocks that it had, and such as came behind B. -/
structure LNowB (w W : World) (p : Nat) (S : Nat → Prop) (l : Lg.L) (B : Nat) : Prop where
  at_ : ∃ S', LgAt W p S' l ∧ ∀ k, S' k → S k ∨ B ≤ k
  ks : Ks S w W
section
variable {w W W' : World} {p B : Nat} {S : Nat → Prop} {l : Lg.L}
theorem LNowB.now (h : LNowB w W p S l B) (hB : w.heap.size ≤ B) : LNow w W p S l := by
  obtain ⟨⟨S', h1, h2⟩, h3⟩ := h
  exact ⟨⟨S', h1, fun k hk => (h2 k hk).imp id (Nat.le_trans hB)⟩, h3⟩
theorem LNowB.bel (h : LNowB w W p S l B) (hb : Below W.heap.size W W') : LNowB w W' p S l B := by
  obtain ⟨⟨S', h1, h2⟩, h3⟩ := h
  exact ⟨⟨S', h1.bel hb, h2⟩, h3.next hb⟩
/-- A block of one's own, of another make, is written. -/
theorem LNowB.puts (h : LNowB w W p S l B) {g : Nat} (hg : w.heap.size ≤ g) (hgB : g < B) (hS : ¬ S g) (k : Nat) (vs : List Value) : LNowB w (W.setCells g k vs) p S l B := by
  obtain ⟨⟨S', h1, h2⟩, h3⟩ := h
  have hgr := grownBy_setCells W g k vs
  refine ⟨⟨S', h1.stays hgr.size fun j hj => hgr.block j (h1.lt j hj) (fun e => ?_), h2⟩, h3.trans (T := fun j => j = g) ⟨hgr.os, hgr.tape, hgr.output, hgr.size, fun j hj hn => hgr.block j hj (fun e => hn (by injection e))⟩ (fun j hj => .inr (by rw [hj]; exact hg))⟩
  have e : j = g := by injection e
  subst e
  rcases h2 j hj with h | h
  · exact hS h
  · omega
end
/-- A log whose entries have grown by some that lie at the row's end, or in a new row. -/
theorem lg_grown {W w8 : World} {p : Nat} {S : Nat → Prop} {l : Lg.L} {w0 : World} {A A' : Option Addr} {c c' : Nat} {es : List En.E} (h : LgAt W p S l) (hb : Ks S W w0) (hr : Rw w0 p (lgC l (.slice A l.es.length c)) 109) (hp : blk A ≠ some p) (hS : ∀ b, blk A = some b → S b)
    (hg : w0.grownBy w8 (blk A)) (hs : Sl w8 13 A' es.length c' (ec es)) (hn : ∀ b, blk A' = some b → blk A = some b ∨ w0.heap.size ≤ b) (hf : ∀ e ∈ es, En.Fits e ∧ e.body.size ≤ 1000) (hfew : es.length ≤ 100000) :
    (∃ v, w8.cell? ⟨p, 4, none⟩ = some v) ∧ w8.frozen? ⟨p, 4, none⟩ = false ∧ LNowB W (w8.setCell ⟨p, 4, none⟩ (.slice A' es.length c')) p S { l with es := es } w0.heap.size := by
  have hpl : p < w0.heap.size := hr.lt
  have hr8 : Rw w8 p (lgC l (.slice A l.es.length c)) 109 := (grownBy_block hg hpl hp).trans hr
  have hpA : blk A' ≠ some p := fun e => (hn p e).elim hp (fun h => by omega)
  have hks : Ks S W w8 := hb.trans (T := fun j => blk A = some j) ⟨hg.os, hg.tape, hg.output, hg.size, fun j hj hn => grownBy_block hg hj hn⟩ (fun j hj => .inl (hS j hj))
  refine ⟨⟨_, hr8.cell 4 rfl⟩, hr8.free 4, ⟨⟨fun k => S k ∨ blk A' = some k, ?_, ?_⟩, ?_⟩⟩
  · refine ⟨⟨A', c', hr8.put 4 _, hs.keep fun b hb' => heap_setCell_other w8 ⟨p, 4, none⟩ b _ (fun e => hpA (by rw [hb']; exact congrArg some e)), hpA, fun b hb' => .inr hb'⟩, .inl h.sp, fun k hk => ?_, h.fit.idx, h.fit.trm, h.fit.mem, hf, hfew⟩
    rw [World.size_setCell]
    rcases hk with hk | hk
    · exact Nat.lt_of_lt_of_le (h.lt k hk) hks.size
    · exact hs.lt hk
  · intro k hk
    rcases hk with hk | hk
    · exact .inl hk
    · rcases hn k hk with h1 | h1
      · exact .inl (hS k h1)
      · exact .inr h1
  · exact hks.trans (T := fun j => j = p) ⟨rfl, rfl, rfl, by simp, fun j hj hn => heap_setCell_other w8 ⟨p, 4, none⟩ j _ hn⟩ (fun j hj => by rw [hj]; exact .inl h.sp)
set_option maxRecDepth 100000 in
set_option maxHeartbeats 2000000 in
theorem add_any {p : Nat} {S : Nat → Prop} {l : Lg.L} (w : World) (h : LgAt w p S l) (e : En.E) (he : En.Fits e ∧ e.body.size ≤ 1000) (hlast : (Lg.lst l).1 + 1 < Nm.top) (hlt2 : (Lg.lst l).2 < Nm.top) (hfew : l.es.length + 1 ≤ 100000) :
    Calls Try.prog 51 #[.pointer (some ⟨p, 0, none⟩), .agg (entC e)] w fun r w' => r = .returned (.agg (entC (Lg.next l e))) ∧ LNow w w' p S (Lg.add l e) := by
  obtain ⟨i0, hi, hz0, hz1, hz2⟩ := info_parts infoEntL
  have H := Lib.hid h
  have HM : Hid (∀ W', Below w.heap.size w W' → Calls Try.prog 71 #[.pointer (some ⟨p, 0, none⟩)] W' fun e w' => e = .returned (.bool true) ∧ w' = W') := Lib.hid fun W' hb => isMade_any W' (h.bel hb)
  have HL : Hid (∀ W', Below w.heap.size w W' → Calls Try.prog 25 #[.pointer (some ⟨p, 0, none⟩)] W' (RetL (.tuple #[.int .u64 ((Lg.lst l).1 : Int), .int .u64 ((Lg.lst l).2 : Int)]) W')) := Lib.hid fun W' hb => last_any W' (h.bel hb)
  have HN : Hid (Lg.next l e = { e with idx := (Lg.lst l).1 + 1, trm := max e.trm (Lg.lst l).2 }) := Lib.hid rfl
  have HTw : Hid (∀ W', Calls Try.prog 87 #[.agg (entC (Lg.next l e))] W' fun r w' => r = .returned (.agg (entC (Lg.next l e))) ∧ Below W'.heap.size W' w') := Lib.hid fun W' => twinL_any (Lg.next l e) W' (by show e.body.size ≤ _; omega)
  have hnf : En.Fits (Lg.next l e) ∧ (Lg.next l e).body.size ≤ 1000 := ⟨⟨hlast, by show max e.trm (Lg.lst l).2 < _; have := he.1.trm; omega, he.1.kind, he.1.slot⟩, he.2⟩
  have HNF := Lib.hid hnf
  have HA : Hid (Lg.add l e = { l with es := l.es ++ [Lg.next l e] }) := Lib.hid rfl
  obtain ⟨L, hL⟩ : ∃ L, L = Lg.add l e := ⟨_, rfl⟩
  rw [← hL] at HA ⊢
  obtain ⟨y, hy⟩ : ∃ y, y = Lg.next l e := ⟨_, rfl⟩
  rw [← hy] at HN HTw HNF HA ⊢
  obtain ⟨a, ha⟩ : ∃ a, a = (Lg.lst l).1 := ⟨_, rfl⟩
  obtain ⟨b, hb⟩ : ∃ b, b = (Lg.lst l).2 := ⟨_, rfl⟩
  rw [← ha] at HL HN hlast
  rw [← hb] at HL HN hlt2
  have hxt := he.1.trm
  unfold Nm.top at hlast hlt2 hxt
  clear h hy hnf ha hb hL he
  obtain ⟨X, hX⟩ : ∃ X, X = entC e := ⟨_, rfl⟩
  have HX := Lib.hid hX
  rw [← hX]
  clear hX
  go_enter Try.func51, Try.ntmps51
  go_upto_region 1 with (fail)
  refine forget (fun W => Rw W w.heap.size X 49 ∧ Rw W (w.heap.size + 1) (entC En.zero) 49 ∧ Bl w W ∧ w.heap.size ≤ w.heap.size) ⟨(Rw.new w X _).alloc _, by have := Rw.new (w.alloc (.cells X 49)) (entC En.zero) 49; rw [World.size_alloc] at this; exact this, ((Bl.refl w).alloc _).alloc _, Nat.le_refl _⟩ ?_
  intro W1 H1
  obtain ⟨g, hg⟩ : ∃ g, g = w.heap.size := ⟨_, rfl⟩
  have hg2 : w.heap.size ≤ g := by omega
  rw [← hg] at H1 ⊢
  clear hg
  have HK1 := Lib.hid H1
  have HM1 := Lib.hid (HM.out W1 H1.2.2.1)
  have HL1 := Lib.hid (HL.out W1 H1.2.2.1)
  clear H1 HM HL
  have HF2 : Hid (∀ w2, Below W1.heap.size W1 w2 → Rw w2 g X 49 ∧ Rw w2 (g + 1) (entC En.zero) 49 ∧ Bl w w2 ∧ w2.cell? ⟨g, 0, none⟩ = some (.int .u64 (e.idx : Int)) ∧ w2.cell? ⟨g, 1, none⟩ = some (.int .u64 (e.trm : Int)) ∧ w2.frozen? ⟨g, 0, none⟩ = false ∧ w2.frozen? ⟨g, 1, none⟩ = false) := Lib.hid fun w2 hb =>
    ⟨HK1.out.1.bel hb, HK1.out.2.1.bel hb, HK1.out.2.2.1.next hb, (HK1.out.1.bel hb).cell 0 (by rw [HX.out]; rfl), (HK1.out.1.bel hb).cell 1 (by rw [HX.out]; rfl), (HK1.out.1.bel hb).free 0, (HK1.out.1.bel hb).free 1⟩
  go_upto_region 5 with (first | (go_at_call 71; refine HM1.out.mono ?_; rintro r w' ⟨rfl, rfl⟩) | (go_at_call 25; refine HL1.out.mono ?_; rintro r w2 ⟨rfl, hb2⟩; obtain ⟨r1, r2, r3, d0, d1, f0, f1⟩ := HF2.out w2 hb2))
  have HY : Hid ((X.setIfInBounds 0 (.int .u64 ((a : Int) + 1))).setIfInBounds 1 (.int .u64 (if e.trm < b then (b : Int) else (e.trm : Int))) = entC y) := Lib.hid (by
    rw [HX.out, HN.out]
    have e1 : ((a : Int) + 1) = ((a + 1 : Nat) : Int) := by omega
    have e2 : (if e.trm < b then (b : Int) else (e.trm : Int)) = ((max e.trm b : Nat) : Int) := by split <;> omega
    rw [e1, e2]
    rfl)
  refine forget (fun W => Rw W g (entC y) 49 ∧ Rw W (g + 1) (entC En.zero) 49 ∧ Bl w W) ⟨by have := (r1.put 0 (.int .u64 ((a : Int) + 1))).put 1 (.int .u64 (if e.trm < b then (b : Int) else (e.trm : Int))); rwa [HY.out] at this, (r2.oput (by omega) _ _).oput (by omega) _ _, (r3.put hg2 _ _).put hg2 _ _⟩ ?_
  clear HY
  generalize (if e.trm < b then (b : Int) else (e.trm : Int)) = mx
  intro W5 H5
  have H5' := Lib.hid H5
  obtain ⟨A, c, hr, hs, hp, hS⟩ := (H.out.bel H5.2.2).own
  obtain ⟨n, hnn⟩ : ∃ n, n = l.es.length := ⟨_, rfl⟩
  have HNn := Lib.hid hnn
  rw [← hnn] at hr hs hfew
  have HF : Hid (∀ w6, Below W5.heap.size W5 w6 → w6.cell? ⟨p, 4, none⟩ = some (.slice A n c) ∧ (w6.alloc (.cells (ec1 y).toArray 49)).cell? ⟨p, 4, none⟩ = some (.slice A n c) ∧ Sl (w6.alloc (.cells (ec1 y).toArray 49)) 13 A n c (ec l.es) ∧ Src Try.prog 13 23 (.slice (some ⟨w6.heap.size, 0, none⟩) 1 1) 1 (ec1 y) (w6.alloc (.cells (ec1 y).toArray 49)) ∧
      (∀ A' c' w8, Sl w8 13 A' (n + 1) c' (ec l.es ++ ec1 y) → (w6.alloc (.cells (ec1 y).toArray 49)).grownBy w8 (blk A) → (∀ b, blk A' = some b → blk A = some b ∨ (w6.alloc (.cells (ec1 y).toArray 49)).heap.size ≤ b) → (∃ v, w8.cell? ⟨p, 4, none⟩ = some v) ∧ w8.frozen? ⟨p, 4, none⟩ = false ∧
      (LNowB w (w8.setCell ⟨p, 4, none⟩ (.slice A' (n + 1) c')) p S L (g + 2) ∧ Rw (w8.setCell ⟨p, 4, none⟩ (.slice A' (n + 1) c')) g (entC y) 49 ∧ Rw (w8.setCell ⟨p, 4, none⟩ (.slice A' (n + 1) c')) (g + 1) (entC En.zero) 49))) := Lib.hid fun w6 hb6 => by
    have hw6 := H5'.out.2.2.next hb6
    have hr6 := hr.bel hb6
    have hbn : Below w6.heap.size w6 (w6.alloc (.cells (ec1 y).toArray 49)) := bnew (Below.refl _ _) _
    refine ⟨hr6.cell 4 rfl, (hr6.bel hbn).cell 4 rfl, (hs.below hb6).below hbn, src_sl Try.underlying23 rfl (Lies.new w6 (ec1 y) 49) (fun h => by cases h) (fun u hu => ecL_one [y] u (by rw [ecL_1]; exact hu)), ?_⟩
    intro A' c' w8 h8 hg8 hn8
    have e1 : (l.es ++ [y]).length = n + 1 := by rw [HNn.out]; simp
    have hrn : Rw (w6.alloc (.cells (ec1 y).toArray 49)) p (lgC l (.slice A l.es.length c)) 109 := by rw [← HNn.out]; exact hr6.bel hbn
    obtain ⟨x1, x2, x3⟩ := lg_grown (es := l.es ++ [y]) H.out (Ks.bel (S := S) (hw6.next hbn).bel) hrn hp hS hg8 (by rw [e1, ecL_app, ecL_1]; exact h8) hn8 (fun q hq => by
      rcases List.mem_append.1 hq with hq | hq
      · exact H.out.fit.es q hq
      · rw [List.mem_singleton.1 hq]; exact HNF.out) (by rw [e1]; exact hfew)
    rw [e1] at x3
    have up : ∀ {j X'}, w.heap.size ≤ j → j ≠ p → j < w6.heap.size → blk A ≠ some j → Rw w6 j X' 49 → Rw (w8.setCell ⟨p, 4, none⟩ (.slice A' (n + 1) c')) j X' 49 := fun {j X'} _ hjp hjl hjA hr' =>
      Rw.oput (W := w8) ((grownBy_block hg8 (by rw [World.size_alloc]; omega) hjA).trans (hr'.bel hbn)) hjp _ _
    have hpw : p < w.heap.size := H.out.lt p H.out.sp
    have hAw : ∀ b, blk A = some b → b < w.heap.size := fun b hb => H.out.lt b (hS b hb)
    have hg6 := (H5'.out.2.1.bel hb6).lt
    refine ⟨x1, x2, by rw [HA.out]; exact ⟨x3.at_.imp fun S' hS' => ⟨hS'.1, fun k hk => (hS'.2 k hk).imp id (fun h => by rw [World.size_alloc] at h; omega)⟩, x3.ks⟩, up hg2 (by omega) (H5'.out.1.bel hb6).lt (fun e => by have := hAw _ e; omega) (H5'.out.1.bel hb6), up (by omega) (by omega) (H5'.out.2.1.bel hb6).lt (fun e => by have := hAw _ e; omega) (H5'.out.2.1.bel hb6)⟩
  have r4 : W5.cell? ⟨p, 4, none⟩ = some (.slice A n c) := hr.cell 4 rfl
  clear H5 hr hs r1 r2 r3 d0 d1 f0 f1 HF2 HM1 HL1 hnn
  unfold entC at HTw
  unfold ec1 at HF
  obtain ⟨m0, m1, m2, m3, m4, m5, m6, m7, m8, m9, m10, m11, m12, m13⟩ := entAt H5'.out.1
  go_region_law (first
    | (refine step_app_sl rfl (.tmp 28) (.tmp 31) 23 23 rfl 49 i0 (.agg (entC En.zero)) 13 48 Try.underlying23 hi hz0 hz1 hz2 rfl (by decide) rfl HF6.out.1 _ 1 _ rfl HF6.out.2.1 (by simp only [maxLen]; omega) (by omega) ?_; intro A' c' w8 hS8 hg8 hn8; obtain ⟨⟨v8, k3⟩, k4, k5⟩ := HF6.out.2.2 A' c' w8 hS8 hg8 hn8; have HG := Lib.hid k5; clear k5 hS8 hg8 hn8)
    | (go_simp; go_at_call 87; refine (HTw.out _).mono ?_; rintro r w6 ⟨rfl, hb6⟩; obtain ⟨k1, k2, k6⟩ := HF.out w6 (bnext (below_drew (Below.refl _ _)) hb6); have HF6 := Lib.hid k6; clear k6 hb6))
  all_goals
    refine forgetX (fun W9 => LNowB w W9 p S L (g + 2) ∧ Rw W9 g (entC y) 49 ∧ Rw W9 (g + 1) (entC En.zero) 49) HG.out ?_
    intro W9 H9
    have H9' := Lib.hid H9
    clear H9 k1 k2 k3 k4 HF HF6 HG m0 m1 m2 m3 m4 m5 m6 m7 m8 m9 m10 m11 m12 m13 r4 H5'
    have HZ := sizeEntL y
    have HO := (entF y).one
    have HT2 : Hid (∀ W', Calls Try.prog 87 #[.agg (entC y)] W' fun r w' => r = .returned (.agg (entC y)) ∧ Below W'.heap.size W' w') := HTw
    obtain ⟨Y, hY⟩ : ∃ Y, Y = entC y := ⟨_, rfl⟩
    have HYY := Lib.hid hY
    rw [← hY] at H9' HT2 HZ HO
    have hYs : Y.size = 13 := by rw [hY]; rfl
    clear hY HTw
    go_wp2_with (refine wpList_load_sub rfl 49 _ rfl g 0 rfl 49 Y Y (0, 0) _ H9'.out.2.1 (fun j hj => by rw [Nat.zero_add]) Try.underlying49 rfl HZ ?_)
    refine (HT2.out _).mono ?_
    rintro r w10 ⟨rfl, hb10⟩
    have H10 : Hid (LNowB w w10 p S L (g + 2) ∧ Rw w10 (g + 1) (entC En.zero) 49) := Lib.hid ⟨H9'.out.1.bel hb10, H9'.out.2.2.bel hb10⟩
    clear hb10 H9' HT2
    go_wp2_with (refine wpList_store_sub rfl 49 _ _ rfl (g + 1) 0 rfl 49 (entC En.zero) Y rfl H10.out.2 (by rw [hYs]; decide) HZ HO ?_)
    refine bodyPost_ret (results_cell_row (P := Try.prog) (fn := Try.f51) rfl _ _ (g + 1) 49 Y (0, 0) _ rfl (H10.out.2.over (by rw [hYs]; rfl)) Try.underlying49 rfl HZ) rfl ?_
    exact ⟨by rw [HYY.out], (H10.out.1.puts (by omega) (by omega) (fun hs => by have := H.out.lt _ hs; omega) _ _).now (by omega)⟩
end Go.Proofs.Ytlnohjboldenpaa
