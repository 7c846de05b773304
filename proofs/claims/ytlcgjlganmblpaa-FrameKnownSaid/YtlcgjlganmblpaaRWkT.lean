/-
  Tokens: strings.Builder's Write at a writer's; cmd.writer's and cmd.reader's token walked.
  cmd.reader's token walked.
-/
import Derived.Test.YtlcgjlganmblpaaRInst
import Derived.Test.YtlcgjlganmblpaaRTok
import Derived.Laws.IdiomCopy
set_option linter.unusedSimpArgs false
set_option linter.unusedVariables false
namespace Go.Proofs.Ytlcgjlganmblpaa
open Go.RowKit
set_option maxHeartbeats 2000000 in
set_option maxRecDepth 100000 in
theorem bwrite_any (B : Nat) (W : World) (g : Nat) (o : Option Nat) (s : Wk.St) (b : Nat) (l : List UInt8) (n : Nat) (hn : l.length = n) (h : WrAt B W g o s) (hl : s.l.length ≤ 1000000000) (hm : n ≤ 1000) (hb : ∀ i u, (bc l)[i]? = some u → W.cell? ⟨b, i, none⟩ = some u) (hbg : b ≠ g) (hlt : b < W.heap.size) :
    Calls Try.prog 111 #[.pointer (some ⟨g, 0, none⟩), .slice (some ⟨b, 0, none⟩) n n] W fun e w' => e = .returned (.tuple #[.int .i64 (n : Int), .nilIface]) ∧ ∃ o', WrAt B w' g o' ⟨s.l ++ l, s.bad⟩ ∧ Kept g o o' W w' := by
  obtain ⟨p, v, hP, rfl⟩ := h
  obtain ⟨i0, hi, hz0, hz1, hz2⟩ := info_parts Try.infoByte
  have Hc := Lib.hid (bcheck_any B W g p v s hP)
  clear hP
  go_enter Try.func111, Try.ntmps111
  go_wp2_with fail
  refine Hc.out.mono ?_
  rintro e w1 ⟨rfl, h1, hk1⟩
  have c0 := h1.c0
  have c1 := h1.c1
  have hown := h1.own
  have hlo := h1.lo
  have hlt1 := h1.lt
  have hcells : ∀ j u, (bc l)[j]? = some u → w1.cell? ((⟨b, 0, none⟩ : Addr).add j) = some u := fun j u hu => by
    have e : (⟨b, 0, none⟩ : Addr).add j = ⟨b, 0 + j, none⟩ := by unfold Addr.add; split <;> simp_all
    rw [e, Nat.zero_add, World.cell?_of_block (w := W) ((hk1 none).block b hlt hbg (by simp))]
    exact hb j u hu
  have H1 := Lib.hid h1
  have HK1 := Lib.hid hk1
  clear h1 hk1 Hc hb
  go_wp2_with (at_builtin; refine wpList_app_own rfl (.tmp 12) (.tmp 13) 60 rfl B 5 i0 (.int .u8 0) 1 1 Try.underlying60 hi hz0 hz1 hz2 rfl (by decide) v _ _ rfl hown ⟨b, 0, none⟩ n n (bc l) rfl (by rw [bc_length]; omega) hcells (bc_one l) (by simp only [maxLen]; omega) (by omega) (by omega) ?_)
  intro v' w2 ho2 hg2 hn2
  have H1a := H1.out
  have hr2 := grown_p H1a.row hg2 H1a.sep
  have d0 : w2.cell? ⟨g, 0, none⟩ = some (.pointer (some ⟨g, 0, none⟩)) := cell_of_row w2 g 0 _ _ _ hr2
  have d1 : w2.cell? ⟨g, 1, none⟩ = some v := cell_of_row w2 g 1 _ _ _ hr2
  have f1 := frozen_of_row w2 g 1 _ _ hr2
  have G := H1a.grow (l := l) hg2 (by rw [bc_append, List.length_append, hn]; exact ho2) hn2
  have HG := Lib.hid G
  obtain ⟨q, n', cap, rfl⟩ : ∃ ao n' cap, v' = .slice ao n' cap := by
    rcases ho2.2 with ⟨hv, _⟩ | ⟨g, cap, cur, hv, _⟩
    · exact ⟨_, _, _, hv⟩
    · exact ⟨_, _, _, hv⟩
  clear G ho2 hg2 hn2 hr2 H1a hcells
  go_wp2_with fail
  go_ret2
  exact ⟨rfl, _, ⟨_, _, HG.out.1, rfl⟩, (HK1.out _).trans HG.out.2⟩
theorem sizeTok : (Try.prog.info? 23).map (·.size) = some 8 := by kernel_rfl
/-- How memory stands while a token is walked: the argument's block a, the result's b. -/
structure TS {T : TypeId} {A : Wk.Alg} {B : Nat} (K : Wkr T A B) (W0 W : World) (g : Nat) (o0 o : Option Nat) (s : Wk.St) (t : TypeId) (a b : Nat) (cs zs : Array Value) : Prop where
  at_ : K.At W g o s
  kept : Kept g o0 o W0 W
  la : Loc W g o a cs t
  lb : Loc W g o b zs t
  lo : W0.heap.size ≤ a
  ab : a < b
theorem TS.start {T : TypeId} {A : Wk.Alg} {B : Nat} (K : Wkr T A B) {W : World} {g : Nat} {o : Option Nat} {s : Wk.St} (h : K.At W g o s) (t : TypeId) (cs zs : Array Value) :
    TS K W ((W.alloc (.cells cs t)).alloc (.cells zs t)) g o o s t W.heap.size (W.heap.size + 1) cs zs := by
  have h1 := K.alloc h (.cells cs t)
  have h2 := K.alloc h1 (.cells zs t)
  have l1 := Loc.new K h cs t
  have l2 := Loc.new K h1 zs t
  rw [World.size_alloc] at l2
  exact ⟨h2, ((Kept.refl _ _ _).alloc _).alloc _, l1.alloc _, l2, Nat.le_refl _, by omega⟩
theorem TS.call {T : TypeId} {A : Wk.Alg} {B : Nat} {K : Wkr T A B} {W0 W W' : World} {g : Nat} {o0 o o' : Option Nat} {s s' : Wk.St} {t : TypeId} {a b : Nat} {cs zs : Array Value} (h : TS K W0 W g o0 o s t a b cs zs) (h1 : K.At W' g o' s') (hk : Kept g o o' W W') :
    TS K W0 W' g o0 o' s' t a b cs zs := ⟨h1, h.kept.trans hk, h.la.call hk, h.lb.call hk, h.lo, h.ab⟩
theorem TS.res {T : TypeId} {A : Wk.Alg} {B : Nat} {K : Wkr T A B} {W0 W : World} {g : Nat} {o0 o : Option Nat} {s : Wk.St} {t : TypeId} {a b : Nat} {cs zs vs : Array Value} (h : TS K W0 W g o0 o s t a b cs zs) (i : Nat) (v : Value) (hd : zs.setIfInBounds i v = vs) :
    TS K W0 (W.setCell ⟨b, i, none⟩ v) g o0 o s t a b cs vs := by
  have := h.lo; have := h.ab
  exact ⟨K.set h.at_ b i v h.lb.ng h.lb.no, h.kept.set b (by omega) i v, h.la.other b i v (by omega), h.lb.put i v hd, h.lo, h.ab⟩
theorem Kept.drew {g : Nat} {o o' : Option Nat} {a b : World} (h : Kept g o o' a b) : Kept g o o' a b.drew := ⟨h.os, h.tape, h.output, h.size, h.block, h.new⟩
set_option maxHeartbeats 2000000 in
set_option maxRecDepth 100000 in
theorem wrK_any (B : Nat) (W : World) (g : Nat) (o : Option Nat) (s : Wk.St) (a0 a1 a2 a3 a4 a5 a6 a7 : UInt8) (h : WrAt B W g o s) (hl : s.l.length ≤ 1000000000) :
    Calls Try.prog 107 #[.pointer (some ⟨g, 0, none⟩), .agg (t8 a0 a1 a2 a3 a4 a5 a6 a7)] W fun e w' => e = .returned (.agg (t8 a0 a1 a2 a3 a4 a5 a6 a7)) ∧ ∃ o', WrAt B w' g o' ⟨s.l ++ [a0, a1, a2, a3, a4, a5, a6, a7], s.bad⟩ ∧ Kept g o o' W w' := by
  have HS0 := Lib.hid (TS.start (wrK B) h 23 (t8 a0 a1 a2 a3 a4 a5 a6 a7) (t8 0 0 0 0 0 0 0 0))
  clear h
  unfold t8
  go_enter Try.func107, Try.ntmps107
  go_wp2_with fail
  refine forget (fun W' => TS (wrK B) W W' g o o s 23 W.heap.size (W.heap.size + 1) (t8 a0 a1 a2 a3 a4 a5 a6 a7) (t8 0 0 0 0 0 0 0 0)) HS0.out ?_
  clear HS0
  intro W1 S
  have HS := Lib.hid S
  have hw := bwrite_any B W1.drew g o s W.heap.size [a0, a1, a2, a3, a4, a5, a6, a7] 8 rfl (by
    have h1 : WrAt B W1 g o s := S.at_
    obtain ⟨p, v, hP, e⟩ := h1
    exact ⟨p, v, ⟨hP.hp, hP.row, hP.own, hP.lo⟩, e⟩) hl (by omega) (fun i u hu => by
    have h2 : W1.drew.cell? ⟨W.heap.size, i, none⟩ = W1.cell? ⟨W.heap.size, i, none⟩ := rfl
    rw [h2, S.la.cell i]
    have e : (t8 a0 a1 a2 a3 a4 a5 a6 a7) = (bc [a0, a1, a2, a3, a4, a5, a6, a7]).toArray := rfl
    rw [e]; simpa using hu) S.la.ng S.la.lt
  have Hw := Lib.hid hw
  clear S hw
  go_region_with (first | (go_at_call 111; refine Hw.out.mono ?_; rintro e w2 ⟨rfl, o', hA, hK⟩))
  all_goals
    have S2 := HS.out.call (s' := ⟨s.l ++ [a0, a1, a2, a3, a4, a5, a6, a7], s.bad⟩) hA (((Kept.refl g o W1).drew).trans hK)
    have c0 : w2.cell? ⟨W.heap.size, 0, none⟩ = some (.int .u8 (a0.toNat : Int)) := S2.la.cell 0
    have c1 : w2.cell? ⟨W.heap.size, 1, none⟩ = some (.int .u8 (a1.toNat : Int)) := S2.la.cell 1
    have c2 : w2.cell? ⟨W.heap.size, 2, none⟩ = some (.int .u8 (a2.toNat : Int)) := S2.la.cell 2
    have c3 : w2.cell? ⟨W.heap.size, 3, none⟩ = some (.int .u8 (a3.toNat : Int)) := S2.la.cell 3
    have c4 : w2.cell? ⟨W.heap.size, 4, none⟩ = some (.int .u8 (a4.toNat : Int)) := S2.la.cell 4
    have c5 : w2.cell? ⟨W.heap.size, 5, none⟩ = some (.int .u8 (a5.toNat : Int)) := S2.la.cell 5
    have c6 : w2.cell? ⟨W.heap.size, 6, none⟩ = some (.int .u8 (a6.toNat : Int)) := S2.la.cell 6
    have c7 : w2.cell? ⟨W.heap.size, 7, none⟩ = some (.int .u8 (a7.toNat : Int)) := S2.la.cell 7
    have d0 : w2.cell? ⟨W.heap.size + 1, 0, none⟩ = some (.int .u8 0) := S2.lb.cell 0
    have d1 : w2.cell? ⟨W.heap.size + 1, 1, none⟩ = some (.int .u8 0) := S2.lb.cell 1
    have d2 : w2.cell? ⟨W.heap.size + 1, 2, none⟩ = some (.int .u8 0) := S2.lb.cell 2
    have d3 : w2.cell? ⟨W.heap.size + 1, 3, none⟩ = some (.int .u8 0) := S2.lb.cell 3
    have d4 : w2.cell? ⟨W.heap.size + 1, 4, none⟩ = some (.int .u8 0) := S2.lb.cell 4
    have d5 : w2.cell? ⟨W.heap.size + 1, 5, none⟩ = some (.int .u8 0) := S2.lb.cell 5
    have d6 : w2.cell? ⟨W.heap.size + 1, 6, none⟩ = some (.int .u8 0) := S2.lb.cell 6
    have d7 : w2.cell? ⟨W.heap.size + 1, 7, none⟩ = some (.int .u8 0) := S2.lb.cell 7
    have y0 := S2.lb.fz 0
    have y1 := S2.lb.fz 1
    have y2 := S2.lb.fz 2
    have y3 := S2.lb.fz 3
    have y4 := S2.lb.fz 4
    have y5 := S2.lb.fz 5
    have y6 := S2.lb.fz 6
    have y7 := S2.lb.fz 7
    have SR := (((((((S2.res 0 (.int .u8 (a0.toNat : Int)) rfl).res 1 (.int .u8 (a1.toNat : Int)) rfl).res 2 (.int .u8 (a2.toNat : Int)) rfl).res 3 (.int .u8 (a3.toNat : Int)) rfl).res 4 (.int .u8 (a4.toNat : Int)) rfl).res 5 (.int .u8 (a5.toNat : Int)) rfl).res 6 (.int .u8 (a6.toNat : Int)) rfl).res 7 (.int .u8 (a7.toNat : Int)) rfl
    have HS2 := Lib.hid SR
    clear S2 hA hK HS Hw SR
    go_wp2_with fail
    have S := HS2.out
    refine bodyPost_ret (results_cell_row (P := Try.prog) (fn := Try.f107) rfl _ _ _ 23 _ (0, 0) _ rfl S.lb.row Try.underlying23 rfl sizeTok) rfl ⟨rfl, o', S.at_, S.kept⟩
end Go.Proofs.Ytlcgjlganmblpaa
namespace Go.Proofs.Ytlcgjlganmblpaa
open Go.RowKit
theorem Loc.row_put {W : World} {g : Nat} {o : Option Nat} {h : Nat} {cs : Array Value} {t : TypeId} (k : Loc W g o h cs t) (ds : Array Value) : Loc (W.setRow h ds) g o h ds t := ⟨setRow_heap W h cs ds t _ k.row, k.ng, k.no⟩
theorem Loc.row_other {W : World} {g : Nat} {o : Option Nat} {h : Nat} {cs : Array Value} {t : TypeId} (k : Loc W g o h cs t) (j : Nat) (ds : Array Value) (hj : h ≠ j) : Loc (W.setRow j ds) g o h cs t := ⟨(setRow_other _ _ _ _ hj).trans k.row, k.ng, k.no⟩
theorem TS.copied {T : TypeId} {A : Wk.Alg} {B : Nat} {K : Wkr T A B} {W0 W : World} {g : Nat} {o0 o : Option Nat} {s : Wk.St} {t : TypeId} {a b : Nat} {cs zs : Array Value} (h : TS K W0 W g o0 o s t a b cs zs) (c : Nat) (ds es : Array Value) (hc : b < c) (l : Loc W g o c ds t) :
    TS K W0 (W.setRow c es) g o0 o s t a b cs zs ∧ Loc (W.setRow c es) g o c es t := by
  have h1 := h.lo
  have h2 := h.ab
  refine ⟨⟨K.by_ h.at_ (by simp) (setRow_other _ _ _ _ (by have := l.ng; omega)) (fun k e => setRow_other _ _ _ _ (fun x => l.no (by rw [e, x]))), ⟨h.kept.os, h.kept.tape, h.kept.output, by simpa using h.kept.size, fun j hj hg ho => (setRow_other _ _ _ _ (by omega)).trans (h.kept.block j hj hg ho), h.kept.new⟩, h.la.row_other c es (by omega), h.lb.row_other c es (by omega), h1, h2⟩, l.row_put es⟩
theorem TS.more {T : TypeId} {A : Wk.Alg} {B : Nat} {K : Wkr T A B} {W0 W : World} {g : Nat} {o0 o : Option Nat} {s : Wk.St} {t : TypeId} {a b : Nat} {cs zs : Array Value} (h : TS K W0 W g o0 o s t a b cs zs) (ds : Array Value) :
    TS K W0 (W.alloc (.cells ds t)) g o0 o s t a b cs zs ∧ Loc (W.alloc (.cells ds t)) g o W.heap.size ds t :=
  ⟨⟨K.alloc h.at_ _, h.kept.alloc _, h.la.alloc _, h.lb.alloc _, h.lo, h.ab⟩, Loc.new K h.at_ ds t⟩
set_option maxHeartbeats 2000000 in
set_option maxRecDepth 100000 in
theorem rdK_no (B : Nat) (W : World) (g : Nat) (o : Option Nat) (s : Wk.St) (a0 a1 a2 a3 a4 a5 a6 a7 : UInt8) (h : RdAt B W g o s) (hl : s.l.length ≤ 1000000000) (h8 : ¬ 8 ≤ s.l.length) :
    Calls Try.prog 119 #[.pointer (some ⟨g, 0, none⟩), .agg (t8 a0 a1 a2 a3 a4 a5 a6 a7)] W fun e w' => e = .returned (.agg (t8 0 0 0 0 0 0 0 0)) ∧ ∃ o', RdAt B w' g o' Wk.stop ∧ Kept g o o' W w' := by
  obtain rfl := h.no
  have hs0 := TS.start (rdK B) h 23 (t8 a0 a1 a2 a3 a4 a5 a6 a7) (t8 0 0 0 0 0 0 0 0)
  have HM := Lib.hid (hs0.more (t8 0 0 0 0 0 0 0 0))
  obtain ⟨t, ht⟩ : ∃ t : ByteArray, t = ⟨s.l.toArray⟩ := ⟨_, rfl⟩
  have hz : t.size = s.l.length := by rw [ht, Lib.size_eq]
  have hn : decide (8 ≤ t.size) = false := decide_eq_false (by omega)
  have hn2 : ((8 : Int) ≤ (t.size : Int)) = False := eq_false (by omega)
  have hn3 : decide ((8 : Int) ≤ (t.size : Int)) = false := decide_eq_false (by omega)
  have hst : ∀ W : World, (storeCells ⟨W.heap.size, 0, none⟩ (t8 0 0 0 0 0 0 0 0).toList 0).run Try.prog (W.alloc (.cells (t8 0 0 0 0 0 0 0 0) 23)) = .ok () (W.alloc (.cells (t8 0 0 0 0 0 0 0 0) 23)) := fun W => run_storeCells_new W _ _ _ (by rw [sizeTok]; rfl) rfl (by simp [t8, Value.oneCell'])
  have c0 : W.cell? ⟨g, 0, none⟩ = some (.string t) := by rw [h.c0, ht]
  have hlt := h.lt
  have HT := Lib.hid (rtake_any B _ g none s 8 false (hs0.more (t8 0 0 0 0 0 0 0 0)).1.at_ hl (fun e => by cases e))
  clear h ht hz hs0
  unfold t8 at hst ⊢
  go_enter Try.func119, Try.ntmps119
  go_wp2_with fail
  refine HT.out.mono ?_
  rintro e w2 ⟨rfl, hA, hK⟩
  clear HT hst c0
  have L2 : Loc w2 g none (W.heap.size + 1 + 1) (t8 0 0 0 0 0 0 0 0) 23 := by
    have h := HM.out.2.call hK
    rw [World.size_alloc, World.size_alloc] at h
    exact h
  have S2 := HM.out.1.call hA hK
  have S3 := S2
  have L3 := L2
  have w3 := w2
  clear S2 L2
  have c0 : w2.cell? ⟨W.heap.size + 1 + 1, 0, none⟩ = some (.int .u8 0) := L3.cell 0
  have c1 : w2.cell? ⟨W.heap.size + 1 + 1, 1, none⟩ = some (.int .u8 0) := L3.cell 1
  have c2 : w2.cell? ⟨W.heap.size + 1 + 1, 2, none⟩ = some (.int .u8 0) := L3.cell 2
  have c3 : w2.cell? ⟨W.heap.size + 1 + 1, 3, none⟩ = some (.int .u8 0) := L3.cell 3
  have c4 : w2.cell? ⟨W.heap.size + 1 + 1, 4, none⟩ = some (.int .u8 0) := L3.cell 4
  have c5 : w2.cell? ⟨W.heap.size + 1 + 1, 5, none⟩ = some (.int .u8 0) := L3.cell 5
  have c6 : w2.cell? ⟨W.heap.size + 1 + 1, 6, none⟩ = some (.int .u8 0) := L3.cell 6
  have c7 : w2.cell? ⟨W.heap.size + 1 + 1, 7, none⟩ = some (.int .u8 0) := L3.cell 7
  have d0 : w2.cell? ⟨W.heap.size + 1, 0, none⟩ = some (.int .u8 0) := S3.lb.cell 0
  have d1 : w2.cell? ⟨W.heap.size + 1, 1, none⟩ = some (.int .u8 0) := S3.lb.cell 1
  have d2 : w2.cell? ⟨W.heap.size + 1, 2, none⟩ = some (.int .u8 0) := S3.lb.cell 2
  have d3 : w2.cell? ⟨W.heap.size + 1, 3, none⟩ = some (.int .u8 0) := S3.lb.cell 3
  have d4 : w2.cell? ⟨W.heap.size + 1, 4, none⟩ = some (.int .u8 0) := S3.lb.cell 4
  have d5 : w2.cell? ⟨W.heap.size + 1, 5, none⟩ = some (.int .u8 0) := S3.lb.cell 5
  have d6 : w2.cell? ⟨W.heap.size + 1, 6, none⟩ = some (.int .u8 0) := S3.lb.cell 6
  have d7 : w2.cell? ⟨W.heap.size + 1, 7, none⟩ = some (.int .u8 0) := S3.lb.cell 7
  have y0 := S3.lb.fz 0
  have y1 := S3.lb.fz 1
  have y2 := S3.lb.fz 2
  have y3 := S3.lb.fz 3
  have y4 := S3.lb.fz 4
  have y5 := S3.lb.fz 5
  have y6 := S3.lb.fz 6
  have y7 := S3.lb.fz 7
  have HS3 := Lib.hid ((((((((S3.res 0 (.int .u8 0) rfl).res 1 (.int .u8 0) rfl).res 2 (.int .u8 0) rfl).res 3 (.int .u8 0) rfl).res 4 (.int .u8 0) rfl).res 5 (.int .u8 0) rfl).res 6 (.int .u8 0) rfl).res 7 (.int .u8 0) rfl)
  clear S3 L3 hA hK HM
  go_wp2_with fail
  have S := HS3.out
  refine bodyPost_ret (results_cell_row (P := Try.prog) (fn := Try.f119) rfl _ _ _ 23 _ (0, 0) _ rfl S.lb.row Try.underlying23 rfl sizeTok) rfl ⟨rfl, none, S.at_, S.kept⟩
set_option maxHeartbeats 2000000 in
set_option maxRecDepth 100000 in
theorem rdK_yes (B : Nat) (W : World) (g : Nat) (o : Option Nat) (s : Wk.St) (a0 a1 a2 a3 a4 a5 a6 a7 : UInt8) (b0 b1 b2 b3 b4 b5 b6 b7 : UInt8) (r : List UInt8) (h : RdAt B W g o s) (hl : s.l.length ≤ 1000000000) (h8 : s.l = b0 :: b1 :: b2 :: b3 :: b4 :: b5 :: b6 :: b7 :: r) :
    Calls Try.prog 119 #[.pointer (some ⟨g, 0, none⟩), .agg (t8 a0 a1 a2 a3 a4 a5 a6 a7)] W fun e w' => e = .returned (.agg (t8 b0 b1 b2 b3 b4 b5 b6 b7)) ∧ ∃ o', RdAt B w' g o' ⟨r, s.bad⟩ ∧ Kept g o o' W w' := by
  obtain rfl := h.no
  have hs0 := TS.start (rdK B) h 23 (t8 a0 a1 a2 a3 a4 a5 a6 a7) (t8 0 0 0 0 0 0 0 0)
  have HM := Lib.hid (hs0.more (t8 0 0 0 0 0 0 0 0))
  obtain ⟨t, ht⟩ : ∃ t : ByteArray, t = ⟨s.l.toArray⟩ := ⟨_, rfl⟩
  have hz : t.size = s.l.length := by rw [ht, Lib.size_eq]
  have h9 : 8 ≤ s.l.length := by rw [h8]; simp
  have hn : decide (8 ≤ t.size) = true := decide_eq_true (by omega)
  have hn2 : ((8 : Int) ≤ (t.size : Int)) = True := eq_true (by omega)
  have hn3 : decide ((8 : Int) ≤ (t.size : Int)) = true := decide_eq_true (by omega)
  have htk : bc (t.data.toList.take 8) = bc [b0, b1, b2, b3, b4, b5, b6, b7] := by rw [ht, h8]; simp
  have htz : 8 ≤ t.size := by omega
  have hst : ∀ W : World, (storeCells ⟨W.heap.size, 0, none⟩ (t8 0 0 0 0 0 0 0 0).toList 0).run Try.prog (W.alloc (.cells (t8 0 0 0 0 0 0 0 0) 23)) = .ok () (W.alloc (.cells (t8 0 0 0 0 0 0 0 0) 23)) := fun W => run_storeCells_new W _ _ _ (by rw [sizeTok]; rfl) rfl (by simp [t8, Value.oneCell'])
  have c0 : W.cell? ⟨g, 0, none⟩ = some (.string t) := by rw [h.c0, ht]
  have hlt := h.lt
  have HT := Lib.hid (rtake_any B _ g none s 8 true (hs0.more (t8 0 0 0 0 0 0 0 0)).1.at_ hl (fun e => by rw [h8]; simp))
  clear h ht hz hs0 h9
  unfold t8 at hst ⊢
  go_enter Try.func119, Try.ntmps119
  go_wp2_with fail
  refine HT.out.mono ?_
  rintro e w2 ⟨rfl, hA, hK⟩
  clear HT hst c0
  have L2 : Loc w2 g none (W.heap.size + 1 + 1) (t8 0 0 0 0 0 0 0 0) 23 := by
    have h := HM.out.2.call hK
    rw [World.size_alloc, World.size_alloc] at h
    exact h
  have S2 := HM.out.1.call hA hK
  unfold Wk.tk at S2
  rw [h8] at S2
  simp only [if_pos, List.drop_succ_cons, List.drop_zero] at S2
  have hcp := copy8 w2 (W.heap.size + 1 + 1) t _ 23 L2.row rfl htz
  rw [htk, bc8] at hcp
  have h3 := S2.copied (W.heap.size + 1 + 1) _ (t8 b0 b1 b2 b3 b4 b5 b6 b7) (by omega) L2
  obtain ⟨w3, hw3⟩ : ∃ w3, w3 = w2.setRow (W.heap.size + 1 + 1) (t8 b0 b1 b2 b3 b4 b5 b6 b7) := ⟨_, rfl⟩
  rw [← hw3] at hcp h3
  obtain ⟨S3, L3⟩ := h3
  have HL2 := Lib.hid L2
  clear hw3 L2 S2 htk
  have c0 : w3.cell? ⟨W.heap.size + 1 + 1, 0, none⟩ = some (.int .u8 (b0.toNat : Int)) := L3.cell 0
  have c1 : w3.cell? ⟨W.heap.size + 1 + 1, 1, none⟩ = some (.int .u8 (b1.toNat : Int)) := L3.cell 1
  have c2 : w3.cell? ⟨W.heap.size + 1 + 1, 2, none⟩ = some (.int .u8 (b2.toNat : Int)) := L3.cell 2
  have c3 : w3.cell? ⟨W.heap.size + 1 + 1, 3, none⟩ = some (.int .u8 (b3.toNat : Int)) := L3.cell 3
  have c4 : w3.cell? ⟨W.heap.size + 1 + 1, 4, none⟩ = some (.int .u8 (b4.toNat : Int)) := L3.cell 4
  have c5 : w3.cell? ⟨W.heap.size + 1 + 1, 5, none⟩ = some (.int .u8 (b5.toNat : Int)) := L3.cell 5
  have c6 : w3.cell? ⟨W.heap.size + 1 + 1, 6, none⟩ = some (.int .u8 (b6.toNat : Int)) := L3.cell 6
  have c7 : w3.cell? ⟨W.heap.size + 1 + 1, 7, none⟩ = some (.int .u8 (b7.toNat : Int)) := L3.cell 7
  have d0 : w3.cell? ⟨W.heap.size + 1, 0, none⟩ = some (.int .u8 0) := S3.lb.cell 0
  have d1 : w3.cell? ⟨W.heap.size + 1, 1, none⟩ = some (.int .u8 0) := S3.lb.cell 1
  have d2 : w3.cell? ⟨W.heap.size + 1, 2, none⟩ = some (.int .u8 0) := S3.lb.cell 2
  have d3 : w3.cell? ⟨W.heap.size + 1, 3, none⟩ = some (.int .u8 0) := S3.lb.cell 3
  have d4 : w3.cell? ⟨W.heap.size + 1, 4, none⟩ = some (.int .u8 0) := S3.lb.cell 4
  have d5 : w3.cell? ⟨W.heap.size + 1, 5, none⟩ = some (.int .u8 0) := S3.lb.cell 5
  have d6 : w3.cell? ⟨W.heap.size + 1, 6, none⟩ = some (.int .u8 0) := S3.lb.cell 6
  have d7 : w3.cell? ⟨W.heap.size + 1, 7, none⟩ = some (.int .u8 0) := S3.lb.cell 7
  have y0 := S3.lb.fz 0
  have y1 := S3.lb.fz 1
  have y2 := S3.lb.fz 2
  have y3 := S3.lb.fz 3
  have y4 := S3.lb.fz 4
  have y5 := S3.lb.fz 5
  have y6 := S3.lb.fz 6
  have y7 := S3.lb.fz 7
  have HS3 := Lib.hid ((((((((S3.res 0 (.int .u8 (b0.toNat : Int)) rfl).res 1 (.int .u8 (b1.toNat : Int)) rfl).res 2 (.int .u8 (b2.toNat : Int)) rfl).res 3 (.int .u8 (b3.toNat : Int)) rfl).res 4 (.int .u8 (b4.toNat : Int)) rfl).res 5 (.int .u8 (b5.toNat : Int)) rfl).res 6 (.int .u8 (b6.toNat : Int)) rfl).res 7 (.int .u8 (b7.toNat : Int)) rfl)
  clear S3 L3 hA hK HM
  go_wp2_with fail
  have S := HS3.out
  refine bodyPost_ret (results_cell_row (P := Try.prog) (fn := Try.f119) rfl _ _ _ 23 _ (0, 0) _ rfl S.lb.row Try.underlying23 rfl sizeTok) rfl ⟨rfl, none, S.at_, S.kept⟩
end Go.Proofs.Ytlcgjlganmblpaa
