/-
  Logs: the small functions walked.
-/
import Derived.Test.YtlnohjboldenpaaLLgBase
import Derived.BigQuiet
import Derived.Deep.QuietTactic
import Derived.StillTailTactics
set_option linter.unusedSimpArgs false
set_option linter.unusedVariables false
namespace Go.Proofs.Ytlnohjboldenpaa
open Go.RowKit
/-- Of the world that the walk has come to only this is kept, at a place between. -/
theorem forgetX {K : Exit → Act → World → Prop} {e : Exit} {a : Act} {w : World} (F : World → Prop) (hF : F w) (h : ∀ W, F W → K e a W) : K e a w := h w hF
/-- A contract's end: this value; what was there is as it was. -/
def RetL (v : Value) (w : World) (e : Ending) (w' : World) : Prop := e = .returned v ∧ Below w.heap.size w w'
section
variable {p : Nat} {S : Nat → Prop} {l : Lg.L}
theorem isMade_any (W : World) (h : LgAt W p S l) : Calls Try.prog 71 #[.pointer (some ⟨p, 0, none⟩)] W fun e w' => e = .returned (.bool true) ∧ w' = W := by
  obtain ⟨A, c, h1, _⟩ := h.own
  obtain ⟨c0, c1, c2, c3, c4⟩ := lg_cells h1
  clear h h1
  go_enter Try.func71, Try.ntmps71
  go_wp2_with fail
  go_ret
  exact ⟨rfl, rfl⟩
set_option maxRecDepth 100000 in
set_option maxHeartbeats 1000000 in
theorem upTo_any (W : World) (h : LgAt W p S l) (i : Nat) (hi : i < Nm.top) : Calls Try.prog 91 #[.pointer (some ⟨p, 0, none⟩), .int .u64 (i : Int)] W (RetL (.int .i64 (Lg.upTo l i : Nat)) W) := by
  obtain ⟨A, c, h1, _⟩ := h.own
  obtain ⟨c0, c1, c2, c3, c4⟩ := lg_cells h1
  have hb := h.fit.idx
  have hn := h.fit.few
  have HU : Hid (Lg.upTo l i = min (i - l.idx) l.es.length) := Lib.hid rfl
  obtain ⟨U, hU⟩ : ∃ U, U = Lg.upTo l i := ⟨_, rfl⟩
  rw [← hU] at HU ⊢
  obtain ⟨n, hnn⟩ : ∃ n, n = l.es.length := ⟨_, rfl⟩
  rw [← hnn] at c4 hn HU
  unfold Nm.top at hi hb
  clear h h1 hU hnn
  go_enter Try.func91, Try.ntmps91
  by_cases hle : i ≤ l.idx
  · have q1 : decide (i ≤ l.idx) = true := decide_eq_true hle
    have q2 : ((i : Int) ≤ (l.idx : Int)) = True := by simp; omega
    go_wp2_with fail
    go_ret
    have hu := HU.out
    obtain rfl : U = 0 := by omega
    exact ⟨rfl, Below.refl _ _⟩
  · have q1 : decide (i ≤ l.idx) = false := decide_eq_false hle
    have q2 : ((i : Int) ≤ (l.idx : Int)) = False := by simp; omega
    go_wp2_with fail
    go_region
    all_goals go_wp2_with fail
    all_goals go_ret
    all_goals have hu := HU.out
    · obtain rfl : U = n := by omega
      exact ⟨rfl, below_drew (Below.refl _ _)⟩
    · refine ⟨?_, below_drew (Below.refl _ _)⟩
      have e : ((i : Int) - (l.idx : Int)) = (U : Int) := by omega
      rw [e]
      rfl
set_option maxRecDepth 100000 in
theorem below_any (W : World) (h : LgAt W p S l) (i : Nat) (hi : i < Nm.top) : Calls Try.prog 72 #[.pointer (some ⟨p, 0, none⟩), .int .u64 (i : Int)] W (RetL (.int .i64 (Lg.bel l i : Nat)) W) := by
  go_enter Try.func72, Try.ntmps72
  by_cases h0 : i = 0
  · subst h0
    go_wp2_with fail
    go_ret
    refine ⟨?_, Below.refl _ _⟩
    have : Lg.bel l 0 = 0 := by unfold Lg.bel Lg.upTo; omega
    rw [this]; rfl
  · have q1 : ((i : Int) == 0) = false := by simp; omega
    have q2 : ((i : Int) = 0) = False := by simp; omega
    have e : ((i : Int) - 1) = ((i - 1 : Nat) : Int) := by omega
    have HC : Hid (Calls Try.prog 91 #[.pointer (some ⟨p, 0, none⟩), .int .u64 ((i : Int) - 1)] W (RetL (.int .i64 (Lg.bel l i : Nat)) W)) := Lib.hid (by rw [e]; exact upTo_any W h (i - 1) (by unfold Nm.top at *; omega))
    unfold Nm.top at hi
    clear h e
    go_wp2_with (go_at_call 91; refine HC.out.mono ?_; rintro r w' ⟨rfl, hb⟩)
    go_ret
    exact ⟨rfl, hb⟩
theorem first_any (W : World) (h : LgAt W p S l) : Calls Try.prog 61 #[.pointer (some ⟨p, 0, none⟩)] W (RetL (.tuple #[.int .u64 (l.idx : Int), .int .u64 (l.trm : Int)]) W) := by
  have HM := Lib.hid (isMade_any W h)
  obtain ⟨A, c, h1, _⟩ := h.own
  obtain ⟨c0, c1, c2, c3, c4⟩ := lg_cells h1
  clear h h1
  go_enter Try.func61, Try.ntmps61
  go_wp2_with (go_at_call 71; refine HM.out.mono ?_; rintro r w' ⟨rfl, rfl⟩)
  go_quiet (fail)
  go_wp2_with fail
  go_ret2
  exact ⟨rfl, below_drewN (Below.refl _ _) _⟩
/-- The cells of an entry, the world being one in which a box for one has been made. -/
theorem EntL.boxed {W : World} {b o : Nat} {e : En.E} (h : EntL W b o e) (Z : Obj) : EntL (W.alloc Z).drew b o e := h.bel (below_drew (bnew (Below.refl _ _) _))
theorem storeEntD (e : En.E) (W : World) : (storeCells ⟨W.heap.size, 0, none⟩ (entC e).toList 0).run Try.prog (W.alloc (.cells #[.int .u64 0, .int .u64 0, .int .u8 0, .int .u8 0, .int .u8 0, .int .u8 0, .int .u8 0, .int .u8 0, .int .u8 0, .int .u8 0, .int .u8 0, .int .u8 0, .string ⟨#[]⟩] 49)).drew = .ok () (W.alloc (.cells (entC e) 49)).drew := storeEnt (entC e) rfl (entF e).one W.drew
set_option maxRecDepth 100000 in
set_option maxHeartbeats 2000000 in
theorem last_any (W : World) (h : LgAt W p S l) : Calls Try.prog 25 #[.pointer (some ⟨p, 0, none⟩)] W (RetL (.tuple #[.int .u64 ((Lg.lst l).1 : Int), .int .u64 ((Lg.lst l).2 : Int)]) W) := by
  have HM := Lib.hid (isMade_any W h)
  obtain ⟨A, c, h1, h2, _⟩ := h.own
  obtain ⟨c0, c1, c2, c3, c4⟩ := lg_cells h1
  have hn := h.fit.few
  go_enter Try.func25, Try.ntmps25
  obtain ⟨n, hnn⟩ : ∃ n, n = l.es.length := ⟨_, rfl⟩
  by_cases h0 : n = 0
  · have E : Hid (Lg.lst l = (l.idx, l.trm)) := Lib.hid (by
      have e : l.es = [] := List.eq_nil_of_length_eq_zero (by omega)
      unfold Lg.lst; rw [e]; rfl)
    rw [← hnn] at c4
    have q1 : ((n : Int) == 0) = true := by simp; omega
    have q2 : ((n : Int) = 0) = True := by simp; omega
    clear h h1 h2 h0 hnn hn
    go_wp2_with (go_at_call 71; refine HM.out.mono ?_; rintro r w' ⟨rfl, rfl⟩)
    go_quiet (fail)
    go_wp2_with fail
    go_ret2
    rw [E.out]
    exact ⟨rfl, below_drewN (Below.refl _ _) _⟩
  · have hlt : n - 1 < l.es.length := by omega
    obtain ⟨b, off, rfl, hE⟩ := h2.liesV.ent (n - 1) hlt
    have E : Hid (Lg.lst l = (l.es[n - 1].idx, l.es[n - 1].trm)) := Lib.hid (by
      unfold Lg.lst
      rw [List.getLast?_eq_getElem?, ← hnn, List.getElem?_eq_getElem hlt])
    have q1 : ((n : Int) == 0) = false := by simp; omega
    have q2 : ((n : Int) = 0) = False := by simp; omega
    obtain ⟨x, hx⟩ : ∃ x, x = l.es[n - 1] := ⟨_, rfl⟩
    rw [← hx] at E hE
    rw [← hnn] at hn c4
    have hn1 : 1 ≤ n := by omega
    have e2 : ((n : Int) - 1).toNat = n - 1 := by omega
    have hst := storeEntD x W
    have hE2 := hE.boxed (.cells #[.int .u64 0, .int .u64 0, .int .u8 0, .int .u8 0, .int .u8 0, .int .u8 0, .int .u8 0, .int .u8 0, .int .u8 0, .int .u8 0, .int .u8 0, .int .u8 0, .string ⟨#[]⟩] 49)
    have c4' := h1.bel (below_drew (bnew (Below.refl _ _) (.cells #[.int .u64 0, .int .u64 0, .int .u8 0, .int .u8 0, .int .u8 0, .int .u8 0, .int .u8 0, .int .u8 0, .int .u8 0, .int .u8 0, .int .u8 0, .int .u8 0, .string ⟨#[]⟩] 49)))
    replace c4' := c4'.cell (v := .slice (some ⟨b, off, none⟩) l.es.length c) 4 rfl
    rw [← hnn] at c4'
    unfold entC at hst
    obtain ⟨_, k0, k1, k2, k3, k4, k5, k6, k7, k8, k9, k10, k11, k12⟩ := hE
    obtain ⟨_, m0, m1, m2, m3, m4, m5, m6, m7, m8, m9, m10, m11, m12⟩ := hE2
    clear h h1 h2 h0 hx hnn hlt
    go_wp2_with (go_at_call 71; refine HM.out.mono ?_; rintro r w' ⟨rfl, rfl⟩)
    go_region
    have hrow : Rw (w'.alloc (.cells (entC x) 49)).drew w'.heap.size (entC x) 49 := (Rw.new w' _ _).drew
    refine forgetX (fun W2 => Rw W2 w'.heap.size (entC x) 49 ∧ Below w'.heap.size w' W2) ⟨hrow, below_drew (bnew (Below.refl _ _) _)⟩ ?_
    intro W2 H2
    have HB := Lib.hid H2.2
    have d0 := H2.1.cell 0 rfl
    have d1 := H2.1.cell 1 rfl
    generalize w'.heap.size = g at d0 d1 ⊢
    clear H2 hrow hst c4' m0 m1 m2 m3 m4 m5 m6 m7 m8 m9 m10 m11 m12 k0 k1 k2 k3 k4 k5 k6 k7 k8 k9 k10 k11 k12 c0 c1 c2 c3 c4 HM
    go_wp2_with fail
    go_quiet (fail)
    go_wp2_with fail
    go_ret2
    rw [E.out]
    exact ⟨rfl, below_drewN HB.out _⟩
/-- A term, or that there is none. -/
def rT (o : Option Nat) : Value := match o with
  | some t => .tuple #[.int .u64 (t : Int), .bool true]
  | none => .tuple #[.int .u64 0, .bool false]
set_option maxRecDepth 100000 in
set_option maxHeartbeats 2000000 in
theorem term_any (W : World) (h : LgAt W p S l) (i : Nat) (hi : i < Nm.top) (hf : ∀ e ∈ l.es, e.idx < Nm.top) : Calls Try.prog 65 #[.pointer (some ⟨p, 0, none⟩), .int .u64 (i : Int)] W (RetL (rT (Lg.term l i)) W) := by
  have HM := Lib.hid (isMade_any W h)
  have HU := Lib.hid (upTo_any W h i hi)
  have H := Lib.hid h
  obtain ⟨A, c, h1, h2, _⟩ := h.own
  obtain ⟨c0, c1, c2, c3, c4⟩ := lg_cells h1
  have hn := h.fit.few
  have hb := h.fit.idx
  unfold Nm.top at hi hb
  go_enter Try.func65, Try.ntmps65
  by_cases h0 : i = l.idx
  · have E : Hid (Lg.term l i = some l.trm) := Lib.hid (by unfold Lg.term; rw [if_pos h0])
    have q1 : ((i : Int) == (l.idx : Int)) = true := by simp; omega
    have q2 : ((i : Int) = (l.idx : Int)) = True := by simp; omega
    clear h h1 h2 h0
    go_wp2_with (go_at_call 71; refine HM.out.mono ?_; rintro r w' ⟨rfl, rfl⟩)
    go_ret2
    rw [E.out]
    exact ⟨rfl, Below.refl _ _⟩
  have q1 : ((i : Int) == (l.idx : Int)) = false := by simp; omega
  have q2 : ((i : Int) = (l.idx : Int)) = False := by simp; omega
  have hul : Lg.upTo l i ≤ l.es.length := by unfold Lg.upTo; omega
  obtain ⟨U, hU⟩ : ∃ U, U = Lg.upTo l i := ⟨_, rfl⟩
  by_cases hz : U = 0
  · have E : Hid (Lg.term l i = none) := Lib.hid (by unfold Lg.term; rw [if_neg h0, if_pos (by omega)])
    rw [← hU, hz] at HU
    clear h h1 h2 h0 hU hz hul
    go_wp2_with (first | (go_at_call 71; refine HM.out.mono ?_; rintro r w' ⟨rfl, rfl⟩) | (go_at_call 91; refine HU.out.mono ?_; rintro r w2 ⟨rfl, hb2⟩))
    go_ret2
    rw [E.out]
    exact ⟨rfl, hb2⟩
  · have hlt : U - 1 < l.es.length := by omega
    have E : Hid (Lg.term l i = if l.es[U - 1].idx = i then some l.es[U - 1].trm else none) := Lib.hid (by
      unfold Lg.term
      rw [if_neg h0, if_neg (by omega), ← hU, List.getElem?_eq_getElem hlt])
    have hx2 := hf _ (List.getElem_mem hlt)
    obtain ⟨b, off, rfl, hE⟩ := h2.liesV.ent (U - 1) hlt
    obtain ⟨n, hnn⟩ : ∃ n, n = l.es.length := ⟨_, rfl⟩
    obtain ⟨x, hx⟩ : ∃ x, x = l.es[U - 1] := ⟨_, rfl⟩
    rw [← hx] at E hE hx2
    rw [← hnn] at hn c4 hlt hul
    rw [← hU] at HU
    unfold Nm.top at hx2
    have HH : Hid (∀ w2, Below W.heap.size W w2 → w2.cell? ⟨p, 4, none⟩ = some (.slice (some ⟨b, off, none⟩) n c) ∧ w2.cell? ⟨b, off + (U - 1) * 13, none⟩ = some (.int .u64 (x.idx : Int)) ∧ w2.cell? ⟨b, off + (U - 1) * 13 + 1, none⟩ = some (.int .u64 (x.trm : Int))) := Lib.hid fun w2 hb2 => ⟨later hb2 c4, later hb2 hE.c0, later hb2 hE.c1⟩
    have e1 : ((U : Int) - 1).toNat = U - 1 := by omega
    have hU1 : 1 ≤ U := by omega
    by_cases hxi : x.idx = i
    · have E2 : Hid (Lg.term l i = some x.trm) := Lib.hid (by rw [E.out, if_pos hxi])
      have q3 : ((x.idx : Int) != (i : Int)) = false := by simp; omega
      have q4 : ((x.idx : Int) = (i : Int)) = True := by simp; omega
      clear h h1 h2 h0 hU hz hx hnn E hE hxi
      go_wp2_with (first | (go_at_call 71; refine HM.out.mono ?_; rintro r w' ⟨rfl, rfl⟩) | (go_at_call 91; refine HU.out.mono ?_; rintro r w2 ⟨rfl, hb2⟩; obtain ⟨d4, d5, d6⟩ := HH.out w2 hb2))
      go_ret2
      rw [E2.out]
      exact ⟨rfl, hb2⟩
    · have E2 : Hid (Lg.term l i = none) := Lib.hid (by rw [E.out, if_neg hxi])
      have q3 : ((x.idx : Int) != (i : Int)) = true := by simp; omega
      have q4 : ((x.idx : Int) = (i : Int)) = False := by simp; omega
      clear h h1 h2 h0 hU hz hx hnn E hE hxi
      go_wp2_with (first | (go_at_call 71; refine HM.out.mono ?_; rintro r w' ⟨rfl, rfl⟩) | (go_at_call 91; refine HU.out.mono ?_; rintro r w2 ⟨rfl, hb2⟩; obtain ⟨d4, d5, d6⟩ := HH.out w2 hb2))
      go_ret2
      rw [E2.out]
      exact ⟨rfl, hb2⟩
set_option maxRecDepth 100000 in
theorem has_any (W : World) (h : LgAt W p S l) (i t : Nat) (hi : i < Nm.top) (hf : ∀ e ∈ l.es, e.idx < Nm.top) : Calls Try.prog 89 #[.pointer (some ⟨p, 0, none⟩), .int .u64 (i : Int), .int .u64 (t : Int)] W (RetL (.bool (Lg.has l i t)) W) := by
  have HT := Lib.hid (term_any W h i hi hf)
  have E : Hid (Lg.has l i t = decide (Lg.term l i = some t)) := Lib.hid rfl
  obtain ⟨o, ho⟩ : ∃ o, o = Lg.term l i := ⟨_, rfl⟩
  rw [← ho] at HT E
  clear h ho hf
  go_enter Try.func89, Try.ntmps89
  cases o with
  | none =>
    have HT2 : Hid (Calls Try.prog 65 #[.pointer (some ⟨p, 0, none⟩), .int .u64 (i : Int)] W (RetL (.tuple #[.int .u64 0, .bool false]) W)) := HT
    clear HT
    go_wp2_with (go_at_call 65; refine HT2.out.mono ?_; rintro r w2 ⟨rfl, hb2⟩)
    go_ret
    rw [E.out]
    exact ⟨rfl, hb2⟩
  | some u =>
    have HT2 : Hid (Calls Try.prog 65 #[.pointer (some ⟨p, 0, none⟩), .int .u64 (i : Int)] W (RetL (.tuple #[.int .u64 (u : Int), .bool true]) W)) := HT
    clear HT
    have E2 : Hid (Lg.has l i t = ((u : Int) == (t : Int))) := Lib.hid (by
      rw [E.out]
      by_cases hut : u = t
      · subst hut; simp
      · rw [decide_eq_false (by simpa using hut)]; simp; omega)
    go_wp2_with (go_at_call 65; refine HT2.out.mono ?_; rintro r w2 ⟨rfl, hb2⟩)
    go_ret
    rw [E2.out]
    exact ⟨rfl, hb2⟩
end
end Go.Proofs.Ytlnohjboldenpaa
