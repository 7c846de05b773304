/-
  cmd.reader's token walked.
-/
import Derived.Test.YtkghldobefgjeaaQWkTok
import Derived.Test.YtkghldobefgjeaaQTok
set_option linter.unusedSimpArgs false
set_option linter.unusedVariables false
namespace Go.Proofs.Ytkghldobefgjeaa
open Go.RowKit
theorem Loc.row_put {W : World} {g : Nat} {o : Option Nat} {h : Nat} {cs : Array Value} {t : TypeId} (k : Loc W g o h cs t) (ds : Array Value) : Loc (W.setRow h ds) g o h ds t := ⟨setRow_heap W h cs ds t _ k.row, k.ng, k.no⟩
theorem Loc.row_other {W : World} {g : Nat} {o : Option Nat} {h : Nat} {cs : Array Value} {t : TypeId} (k : Loc W g o h cs t) (j : Nat) (ds : Array Value) (hj : h ≠ j) : Loc (W.setRow j ds) g o h cs t := ⟨(setRow_other _ _ _ _ hj).trans k.row, k.ng, k.no⟩
theorem TS.copied {T : TypeId} {A : Wk.Alg} {B : Nat} {K : Wkr T A B} {W0 W : World} {g : Nat} {o0 o : Option Nat} {s : Wk.St} {t : TypeId} {a b : Nat} {cs zs : Array Value} (h : TS K W0 W g o0 o s t a b cs zs) (c : Nat) (ds es : Array Value) (hc : b < c) (l : Loc W g o c ds t) :
    TS K W0 (W.setRow c es) g o0 o s t a b cs zs ∧ Loc (W.setRow c es) g o c es t := by
  have h1 := h.lo
  have h2 := h.ab
  refine ⟨⟨K.by_ h.at_ (by simp) (setRow_other _ _ _ _ (by have := l.ng; omega)) (fun k e => setRow_other _ _ _ _ (fun x => l.no (by rw [e, x]))), ⟨h.kept.os, h.kept.tape, h.kept.output, by simpa using h.kept.size, fun j hj hg ho => (setRow_other _ _ _ _ (by omega)).trans (h.kept.block j hj hg ho), h.kept.new⟩, h.la.row_other c es (by omega), h.lb.row_other c es (by omega), h1, h2⟩, l.row_put es⟩
theorem TS.more {T : TypeId} {A : Wk.Alg} {B : Nat} {K : Wkr T A B} {W0 W : World} {g : Nat} {o0 o : Option Nat} {s : Wk.St} {t : TypeId} {a b : Nat} {cs zs : Array Value} (h : TS K W0 W g o0 o s t a b cs zs) (ds : Array Value) :
    TS K W0 (W.alloc (.cells ds t)) g o0 o s t a b cs zs ∧ Loc (W.alloc (.cells ds t)) g o W.heap.size ds t :=
  ⟨⟨K.alloc h.at_ _, h.kept.alloc _, h.la.alloc _, h.lb.alloc _, h.lo, h.ab⟩, Loc.new K h.at_ ds t⟩
set_option maxHeartbeats 2000000 in
set_option maxRecDepth 100000 in
theorem rdK_no (B : Nat) (W : World) (g : Nat) (o : Option Nat) (s : Wk.St) (a0 a1 a2 a3 a4 a5 a6 a7 : UInt8) (h : RdAt B W g o s) (hl : s.l.length ≤ 1000000000) (h8 : ¬ 8 ≤ s.l.length) :
    Calls Try.prog 136 #[.pointer (some ⟨g, 0, none⟩), .agg (t8 a0 a1 a2 a3 a4 a5 a6 a7)] W fun e w' => e = .returned (.agg (t8 0 0 0 0 0 0 0 0)) ∧ ∃ o', RdAt B w' g o' Wk.stop ∧ Kept g o o' W w' := by
  obtain rfl := h.no
  have hs0 := TS.start (rdK B) h 31 (t8 a0 a1 a2 a3 a4 a5 a6 a7) (t8 0 0 0 0 0 0 0 0)
  have HM := Lib.hid (hs0.more (t8 0 0 0 0 0 0 0 0))
  obtain ⟨t, ht⟩ : ∃ t : ByteArray, t = ⟨s.l.toArray⟩ := ⟨_, rfl⟩
  have hz : t.size = s.l.length := by rw [ht, Lib.size_eq]
  have hn : decide (8 ≤ t.size) = false := decide_eq_false (by omega)
  have hn2 : ((8 : Int) ≤ (t.size : Int)) = False := eq_false (by omega)
  have hn3 : decide ((8 : Int) ≤ (t.size : Int)) = false := decide_eq_false (by omega)
  have hst : ∀ W : World, (storeCells ⟨W.heap.size, 0, none⟩ (t8 0 0 0 0 0 0 0 0).toList 0).run Try.prog (W.alloc (.cells (t8 0 0 0 0 0 0 0 0) 31)) = .ok () (W.alloc (.cells (t8 0 0 0 0 0 0 0 0) 31)) := fun W => run_storeCells_new W _ _ _ (by rw [sizeTok]; rfl) rfl (by simp [t8, Value.oneCell'])
  have c0 : W.cell? ⟨g, 0, none⟩ = some (.string t) := by rw [h.c0, ht]
  have hlt := h.lt
  have HT := Lib.hid (rtake_any B _ g none s 8 false (hs0.more (t8 0 0 0 0 0 0 0 0)).1.at_ hl (fun e => by cases e))
  clear h ht hz hs0
  unfold t8 at hst ⊢
  go_enter Try.func136, Try.ntmps136
  go_wp2_with fail
  refine HT.out.mono ?_
  rintro e w2 ⟨rfl, hA, hK⟩
  clear HT hst c0
  have L2 : Loc w2 g none (W.heap.size + 1 + 1) (t8 0 0 0 0 0 0 0 0) 31 := by
    have h := HM.out.2.call hK
    rw [World.size_alloc, World.size_alloc] at h
    exact h
  have S2 := HM.out.1.call hA hK
  have S3 := S2
  have L3 := L2
  have w3 := w2
  clear S2 L2
  have c0 : w2.cell? ⟨W.heap.size + 1 + 1, 0, none⟩ = some (.int .u8 0) := L3.cell 0
  have c1 : w2.cell? ⟨W.heap.size + 1 + 1, 1, none⟩ = some (.int .u8 0) := L3.cell 1
  have c2 : w2.cell? ⟨W.heap.size + 1 + 1, 2, none⟩ = some (.int .u8 0) := L3.cell 2
  have c3 : w2.cell? ⟨W.heap.size + 1 + 1, 3, none⟩ = some (.int .u8 0) := L3.cell 3
  have c4 : w2.cell? ⟨W.heap.size + 1 + 1, 4, none⟩ = some (.int .u8 0) := L3.cell 4
  have c5 : w2.cell? ⟨W.heap.size + 1 + 1, 5, none⟩ = some (.int .u8 0) := L3.cell 5
  have c6 : w2.cell? ⟨W.heap.size + 1 + 1, 6, none⟩ = some (.int .u8 0) := L3.cell 6
  have c7 : w2.cell? ⟨W.heap.size + 1 + 1, 7, none⟩ = some (.int .u8 0) := L3.cell 7
  have d0 : w2.cell? ⟨W.heap.size + 1, 0, none⟩ = some (.int .u8 0) := S3.lb.cell 0
  have d1 : w2.cell? ⟨W.heap.size + 1, 1, none⟩ = some (.int .u8 0) := S3.lb.cell 1
  have d2 : w2.cell? ⟨W.heap.size + 1, 2, none⟩ = some (.int .u8 0) := S3.lb.cell 2
  have d3 : w2.cell? ⟨W.heap.size + 1, 3, none⟩ = some (.int .u8 0) := S3.lb.cell 3
  have d4 : w2.cell? ⟨W.heap.size + 1, 4, none⟩ = some (.int .u8 0) := S3.lb.cell 4
  have d5 : w2.cell? ⟨W.heap.size + 1, 5, none⟩ = some (.int .u8 0) := S3.lb.cell 5
  have d6 : w2.cell? ⟨W.heap.size + 1, 6, none⟩ = some (.int .u8 0) := S3.lb.cell 6
  have d7 : w2.cell? ⟨W.heap.size + 1, 7, none⟩ = some (.int .u8 0) := S3.lb.cell 7
  have y0 := S3.lb.fz 0
  have y1 := S3.lb.fz 1
  have y2 := S3.lb.fz 2
  have y3 := S3.lb.fz 3
  have y4 := S3.lb.fz 4
  have y5 := S3.lb.fz 5
  have y6 := S3.lb.fz 6
  have y7 := S3.lb.fz 7
  have HS3 := Lib.hid ((((((((S3.res 0 (.int .u8 0) rfl).res 1 (.int .u8 0) rfl).res 2 (.int .u8 0) rfl).res 3 (.int .u8 0) rfl).res 4 (.int .u8 0) rfl).res 5 (.int .u8 0) rfl).res 6 (.int .u8 0) rfl).res 7 (.int .u8 0) rfl)
  clear S3 L3 hA hK HM
  go_wp2_with fail
  have S := HS3.out
  refine bodyPost_ret (results_cell_row (P := Try.prog) (fn := Try.f136) rfl _ _ _ 31 _ (0, 0) _ rfl S.lb.row Try.underlying31 rfl sizeTok) rfl ⟨rfl, none, S.at_, S.kept⟩
set_option maxHeartbeats 2000000 in
set_option maxRecDepth 100000 in
theorem rdK_yes (B : Nat) (W : World) (g : Nat) (o : Option Nat) (s : Wk.St) (a0 a1 a2 a3 a4 a5 a6 a7 : UInt8) (b0 b1 b2 b3 b4 b5 b6 b7 : UInt8) (r : List UInt8) (h : RdAt B W g o s) (hl : s.l.length ≤ 1000000000) (h8 : s.l = b0 :: b1 :: b2 :: b3 :: b4 :: b5 :: b6 :: b7 :: r) :
    Calls Try.prog 136 #[.pointer (some ⟨g, 0, none⟩), .agg (t8 a0 a1 a2 a3 a4 a5 a6 a7)] W fun e w' => e = .returned (.agg (t8 b0 b1 b2 b3 b4 b5 b6 b7)) ∧ ∃ o', RdAt B w' g o' ⟨r, s.bad⟩ ∧ Kept g o o' W w' := by
  obtain rfl := h.no
  have hs0 := TS.start (rdK B) h 31 (t8 a0 a1 a2 a3 a4 a5 a6 a7) (t8 0 0 0 0 0 0 0 0)
  have HM := Lib.hid (hs0.more (t8 0 0 0 0 0 0 0 0))
  obtain ⟨t, ht⟩ : ∃ t : ByteArray, t = ⟨s.l.toArray⟩ := ⟨_, rfl⟩
  have hz : t.size = s.l.length := by rw [ht, Lib.size_eq]
  have h9 : 8 ≤ s.l.length := by rw [h8]; simp
  have hn : decide (8 ≤ t.size) = true := decide_eq_true (by omega)
  have hn2 : ((8 : Int) ≤ (t.size : Int)) = True := eq_true (by omega)
  have hn3 : decide ((8 : Int) ≤ (t.size : Int)) = true := decide_eq_true (by omega)
  have htk : bc (t.data.toList.take 8) = bc [b0, b1, b2, b3, b4, b5, b6, b7] := by rw [ht, h8]; simp
  have htz : 8 ≤ t.size := by omega
  have hst : ∀ W : World, (storeCells ⟨W.heap.size, 0, none⟩ (t8 0 0 0 0 0 0 0 0).toList 0).run Try.prog (W.alloc (.cells (t8 0 0 0 0 0 0 0 0) 31)) = .ok () (W.alloc (.cells (t8 0 0 0 0 0 0 0 0) 31)) := fun W => run_storeCells_new W _ _ _ (by rw [sizeTok]; rfl) rfl (by simp [t8, Value.oneCell'])
  have c0 : W.cell? ⟨g, 0, none⟩ = some (.string t) := by rw [h.c0, ht]
  have hlt := h.lt
  have HT := Lib.hid (rtake_any B _ g none s 8 true (hs0.more (t8 0 0 0 0 0 0 0 0)).1.at_ hl (fun e => by rw [h8]; simp))
  clear h ht hz hs0 h9
  unfold t8 at hst ⊢
  go_enter Try.func136, Try.ntmps136
  go_wp2_with fail
  refine HT.out.mono ?_
  rintro e w2 ⟨rfl, hA, hK⟩
  clear HT hst c0
  have L2 : Loc w2 g none (W.heap.size + 1 + 1) (t8 0 0 0 0 0 0 0 0) 31 := by
    have h := HM.out.2.call hK
    rw [World.size_alloc, World.size_alloc] at h
    exact h
  have S2 := HM.out.1.call hA hK
  unfold Wk.tk at S2
  rw [h8] at S2
  simp only [if_pos, List.drop_succ_cons, List.drop_zero] at S2
  have hcp := copy8 w2 (W.heap.size + 1 + 1) t _ 31 L2.row rfl htz
  rw [htk, bc8] at hcp
  have h3 := S2.copied (W.heap.size + 1 + 1) _ (t8 b0 b1 b2 b3 b4 b5 b6 b7) (by omega) L2
  obtain ⟨w3, hw3⟩ : ∃ w3, w3 = w2.setRow (W.heap.size + 1 + 1) (t8 b0 b1 b2 b3 b4 b5 b6 b7) := ⟨_, rfl⟩
  rw [← hw3] at hcp h3
  obtain ⟨S3, L3⟩ := h3
  have HL2 := Lib.hid L2
  clear hw3 L2 S2 htk
  have c0 : w3.cell? ⟨W.heap.size + 1 + 1, 0, none⟩ = some (.int .u8 (b0.toNat : Int)) := L3.cell 0
  have c1 : w3.cell? ⟨W.heap.size + 1 + 1, 1, none⟩ = some (.int .u8 (b1.toNat : Int)) := L3.cell 1
  have c2 : w3.cell? ⟨W.heap.size + 1 + 1, 2, none⟩ = some (.int .u8 (b2.toNat : Int)) := L3.cell 2
  have c3 : w3.cell? ⟨W.heap.size + 1 + 1, 3, none⟩ = some (.int .u8 (b3.toNat : Int)) := L3.cell 3
  have c4 : w3.cell? ⟨W.heap.size + 1 + 1, 4, none⟩ = some (.int .u8 (b4.toNat : Int)) := L3.cell 4
  have c5 : w3.cell? ⟨W.heap.size + 1 + 1, 5, none⟩ = some (.int .u8 (b5.toNat : Int)) := L3.cell 5
  have c6 : w3.cell? ⟨W.heap.size + 1 + 1, 6, none⟩ = some (.int .u8 (b6.toNat : Int)) := L3.cell 6
  have c7 : w3.cell? ⟨W.heap.size + 1 + 1, 7, none⟩ = some (.int .u8 (b7.toNat : Int)) := L3.cell 7
  have d0 : w3.cell? ⟨W.heap.size + 1, 0, none⟩ = some (.int .u8 0) := S3.lb.cell 0
  have d1 : w3.cell? ⟨W.heap.size + 1, 1, none⟩ = some (.int .u8 0) := S3.lb.cell 1
  have d2 : w3.cell? ⟨W.heap.size + 1, 2, none⟩ = some (.int .u8 0) := S3.lb.cell 2
  have d3 : w3.cell? ⟨W.heap.size + 1, 3, none⟩ = some (.int .u8 0) := S3.lb.cell 3
  have d4 : w3.cell? ⟨W.heap.size + 1, 4, none⟩ = some (.int .u8 0) := S3.lb.cell 4
  have d5 : w3.cell? ⟨W.heap.size + 1, 5, none⟩ = some (.int .u8 0) := S3.lb.cell 5
  have d6 : w3.cell? ⟨W.heap.size + 1, 6, none⟩ = some (.int .u8 0) := S3.lb.cell 6
  have d7 : w3.cell? ⟨W.heap.size + 1, 7, none⟩ = some (.int .u8 0) := S3.lb.cell 7
  have y0 := S3.lb.fz 0
  have y1 := S3.lb.fz 1
  have y2 := S3.lb.fz 2
  have y3 := S3.lb.fz 3
  have y4 := S3.lb.fz 4
  have y5 := S3.lb.fz 5
  have y6 := S3.lb.fz 6
  have y7 := S3.lb.fz 7
  have HS3 := Lib.hid ((((((((S3.res 0 (.int .u8 (b0.toNat : Int)) rfl).res 1 (.int .u8 (b1.toNat : Int)) rfl).res 2 (.int .u8 (b2.toNat : Int)) rfl).res 3 (.int .u8 (b3.toNat : Int)) rfl).res 4 (.int .u8 (b4.toNat : Int)) rfl).res 5 (.int .u8 (b5.toNat : Int)) rfl).res 6 (.int .u8 (b6.toNat : Int)) rfl).res 7 (.int .u8 (b7.toNat : Int)) rfl)
  clear S3 L3 hA hK HM
  go_wp2_with fail
  have S := HS3.out
  refine bodyPost_ret (results_cell_row (P := Try.prog) (fn := Try.f136) rfl _ _ _ 31 _ (0, 0) _ rfl S.lb.row Try.underlying31 rfl sizeTok) rfl ⟨rfl, none, S.at_, S.kept⟩
end Go.Proofs.Ytkghldobefgjeaa
