/-
  Logs: begin, Reset walked.
-/
import Derived.Test.YtlnohjboldenpaaLLgFitW
import Derived.Lib.QuietBelow
import Derived.BigQuiet
set_option linter.unusedSimpArgs false
set_option linter.unusedVariables false
namespace Go.Proofs.Ytlnohjboldenpaa
open Go.RowKit Go.Sort
theorem zeroEntL (W : World) : (zeroValue 49).run Try.prog W = .ok (.agg (entC En.zero)) W := by
  obtain ⟨i0, hi, hz0, hz1, hz2⟩ := info_parts infoEntL
  simp [zeroValue, typeInfo, hi, hz0]
/-- Such a slice, its first ones cleared, and what is left of it behind them. -/
theorem Sl.cutOff {W : World} {b off n c : Nat} {es : List En.E} (h : Sl W 13 (some ⟨b, off, none⟩) n c (ec es)) (k : Nat) (hk : k ≤ n) :
    ∃ vs, (∀ ty, (Builtin.clear_ #[23] ty #[.slice (some ⟨b, off, none⟩) k c]).run Try.prog W = .ok (.tuple #[]) (W.setCells b off vs)) ∧ Sl (W.setCells b off vs) 13 (if n = k then some ⟨b, off, none⟩ else some ⟨b, off + k * 13, none⟩) (n - k) (n - k) (ec (es.drop k)) ∧ W.grownBy (W.setCells b off vs) (some b) := by
  have hz : (Value.agg (entC En.zero)).cells.size = 13 := rfl
  rcases h.lies with ⟨h0, _⟩ | ⟨b', off', h0, hlt, hc, hf⟩
  · cases h0
  obtain ⟨rfl, rfl⟩ : b' = b ∧ off' = off := by injection h0 with h0; injection h0 with h1 h2; exact ⟨h1.symm, h2.symm⟩
  have hnc := h.le
  have hkc : k * 13 ≤ c * 13 := Nat.mul_le_mul_right _ (Nat.le_trans hk hnc)
  have hlen : es.length = n := by have := h.len; rw [ecL_len] at this; omega
  obtain ⟨vs, hvl, hrun⟩ : ∃ vs, vs.length = k * 13 ∧ ∀ ty, (Builtin.clear_ #[23] ty #[.slice (some ⟨b', off', none⟩) k c]).run Try.prog W = .ok (.tuple #[]) (W.setCells b' off' vs) := by
    obtain ⟨vs, h1, h2⟩ := run_clear_sl (P := Try.prog) W 23 49 3 (.agg (entC En.zero)) Try.underlying23 zeroEntL b' off' k c (fun u hu => (Array.all_eq_true_iff_forall_mem.1 (entF En.zero).one) u (by simpa [Value.cells] using hu)) (fun j hj => hf j (by rw [hz] at hj; omega))
    exact ⟨vs, by rw [h1, hz], fun ty => h2⟩
  refine ⟨vs, hrun, ?_, grownBy_setCells W b' off' vs⟩
  refine ⟨by rw [ecL_len, List.length_drop, hlen], Nat.le_refl _, Nat.le_trans (by omega) h.max, ?_⟩
  have hout : ∀ j, k * 13 ≤ j → (W.setCells b' off' vs).cell? ⟨b', off' + j, none⟩ = W.cell? ⟨b', off' + j, none⟩ := fun j hj => World.cell?_setCells_out b' _ _ _ _ (fun _ _ => .inr (by show off' + vs.length ≤ off' + j; omega))
  have hsz : b' < (W.setCells b' off' vs).heap.size := Nat.lt_of_lt_of_le hlt (grownBy_setCells W b' off' vs).size
  by_cases hnk : n = k
  · rw [if_pos hnk]
    refine .inr ⟨b', off', rfl, hsz, fun j u hu => ?_, fun j hj => by omega⟩
    rw [List.drop_eq_nil_of_le (by omega)] at hu
    cases hu
  · rw [if_neg hnk]
    refine .inr ⟨b', off' + k * 13, rfl, hsz, fun j u hu => ?_, fun j hj => ?_⟩
    · rw [Nat.add_assoc, hout _ (by omega)]
      refine hc _ _ ?_
      rw [← ecL_drop es k (by omega), List.getElem?_drop] at hu
      exact hu
    · have hj2 : k * 13 + j < c * 13 := by omega
      rw [Nat.add_assoc, hout _ (by omega), World.frozen?_setCells]
      exact hf _ hj2
theorem lg_begun {W W6 : World} {p : Nat} {S : Nat → Prop} {l : Lg.L} {A2 : Option Addr} {n k i t m : Nat} (h : LgAt W p S l) (h1 : Rw W6 p (lgC l (.slice A2 (n - k) (n - k))) 109) (h2 : Sl W6 13 A2 (n - k) (n - k) (ec (l.es.drop k))) (h3 : Ks S W W6)
    (hk : k = Lg.upTo l i) (hn : n = l.es.length) (hi : i < Nm.top) (ht : t < Nm.top) (hm : m < 256) (hul : k ≤ n) (hp : blk A2 ≠ some p) (hS : ∀ b, blk A2 = some b → S b) :
    Ending.returned (.tuple #[]) = .returned (.tuple #[]) ∧ LgAt (((W6.setCell ⟨p, 1, none⟩ (.int .u64 (i : Int))).setCell ⟨p, 2, none⟩ (.int .u64 (t : Int))).setCell ⟨p, 3, none⟩ (.int .u8 (m : Int))) p S (Lg.bgn l i t m) ∧ Ks S W (((W6.setCell ⟨p, 1, none⟩ (.int .u64 (i : Int))).setCell ⟨p, 2, none⟩ (.int .u64 (t : Int))).setCell ⟨p, 3, none⟩ (.int .u8 (m : Int))) := by
  have hes : (Lg.bgn l i t m).es = l.es.drop k := by rw [hk]; rfl
  have hle : (l.es.drop k).length = n - k := by rw [List.length_drop, hn]
  have hks : Ks S W (((W6.setCell ⟨p, 1, none⟩ (.int .u64 (i : Int))).setCell ⟨p, 2, none⟩ (.int .u64 (t : Int))).setCell ⟨p, 3, none⟩ (.int .u8 (m : Int))) :=
    h3.trans (T := fun j => j = p) ⟨rfl, rfl, rfl, by simp, fun j hj hn => (heap_setCell_other _ ⟨p, 3, none⟩ j _ hn).trans ((heap_setCell_other _ ⟨p, 2, none⟩ j _ hn).trans (heap_setCell_other _ ⟨p, 1, none⟩ j _ hn))⟩ (fun j hj => by rw [hj]; exact .inl h.sp)
  refine ⟨rfl, ⟨⟨A2, n - k, ?_, ?_, hp, hS⟩, h.sp, fun j hj => Nat.lt_of_lt_of_le (h.lt j hj) hks.size, ?_⟩, hks⟩
  · have := ((h1.put 1 (.int .u64 (i : Int))).put 2 (.int .u64 (t : Int))).put 3 (.int .u8 (m : Int))
    rw [hes, hle]
    exact this
  · rw [hes, hle]
    exact h2.keep fun b hb => by
      have hn2 : b ≠ p := fun e => hp (by rw [hb, e])
      exact (heap_setCell_other _ ⟨p, 3, none⟩ b _ hn2).trans ((heap_setCell_other _ ⟨p, 2, none⟩ b _ hn2).trans (heap_setCell_other _ ⟨p, 1, none⟩ b _ hn2))
  · refine ⟨hi, ht, hm, fun e he => h.fit.es e ?_, ?_⟩
    · rw [hes] at he
      exact List.mem_of_mem_drop he
    · rw [hes, hle, hn]
      have := h.fit.few
      omega
set_option maxRecDepth 100000 in
set_option maxHeartbeats 4000000 in
theorem begin_any {p : Nat} {S : Nat → Prop} {l : Lg.L} (W : World) (h : LgAt W p S l) (i t m : Nat) (hi : i < Nm.top) (ht : t < Nm.top) (hm : m < 256) :
    Calls Try.prog 88 #[.pointer (some ⟨p, 0, none⟩), .int .u64 (i : Int), .int .u64 (t : Int), .int .u8 (m : Int)] W fun e w' => e = .returned (.tuple #[]) ∧ LgAt w' p S (Lg.bgn l i t m) ∧ Ks S W w' := by
  have H := Lib.hid h
  have HU : Hid (∀ W', Below W.heap.size W W' → Calls Try.prog 91 #[.pointer (some ⟨p, 0, none⟩), .int .u64 (i : Int)] W' (RetL (.int .i64 (Lg.upTo l i : Nat)) W')) := Lib.hid fun W' hb => upTo_any W' (h.bel hb) i hi
  obtain ⟨A, c, h1, h2, h3, h4⟩ := h.own
  obtain ⟨c0, c1, c2, c3, c4⟩ := lg_cells h1
  have r4 := fun d os => cell_regrown c4 d os
  go_enter Try.func88, Try.ntmps88
  have hul : Lg.upTo l i ≤ l.es.length := by unfold Lg.upTo; omega
  obtain ⟨k, hk⟩ : ∃ k, k = Lg.upTo l i := ⟨_, rfl⟩
  obtain ⟨n, hnn⟩ : ∃ n, n = l.es.length := ⟨_, rfl⟩
  rw [← hk] at HU hul
  rw [← hnn] at hul c4 h1 h2 r4
  have hfew := h.fit.few
  rw [← hnn] at hfew
  have Hk := Lib.hid hk
  have Hn := Lib.hid hnn
  clear h hk hnn
  go_wp2_with fail
  refine wp_region_quiet_below (by kernel_rfl) (by kernel_rfl) ?_
  repeat (go_big_quiet_step (first | (go_at_call 91; exact Calls.regrown_of (HU.out _ (below_regrown _ _ _)))))
  refine wpQuiet_nil ?_
  intro _ hw'
  obtain ⟨pq, hw''⟩ := hw'
  subst hw''
  have hbq := below_regrown W pq.d pq.os
  generalize grow (redrawn W pq.d) pq.os = W4 at *
  have HR := Lib.hid (h1.bel hbq)
  have HB := Lib.hid hbq
  have h2q := h2.below hbq
  clear c0 c1 c2 c3 c4 r4 h1 HU h2
  rcases h2q.lies with ⟨rfl, rfl⟩ | ⟨b, off, rfl, hlt, _⟩
  · have hn0 : n = 0 := by have := h2q.le; omega
    have hk0 : k = 0 := by omega
    subst hn0 hk0
    have d4 := HR.out.cell (v := .slice none 0 0) 4 rfl
    have f4 := HR.out.free 4
    have H2' := Lib.hid h2q
    have hcl : ∀ W ty, (Builtin.clear_ #[23] ty #[.slice none 0 0]).run Try.prog W = .ok (.tuple #[]) W := fun W ty => by kernel_rfl
    clear h2q
    go_upto_region 3 with (fail)
    refine forget (fun W6 => Rw W6 p (lgC l (.slice none 0 0)) 109 ∧ Sl W6 13 none 0 0 (ec (l.es.drop 0)) ∧ Ks S W W6) ⟨HR.out.put 4 _, by have := (Sl.nil (W4.setCell ⟨p, 4, none⟩ (.slice none 0 0)) 13); have e : l.es = [] := List.eq_nil_of_length_eq_zero Hn.out.symm; rw [e]; exact this, (Ks.bel (S := S) HB.out).trans (T := fun j => j = p) ⟨rfl, rfl, rfl, by simp, fun j hj hn => heap_setCell_other W4 ⟨p, 4, none⟩ j _ hn⟩ (fun j hj => by rw [hj]; exact .inl H.out.sp)⟩ ?_
    rintro W6 H6
    have H6' := Lib.hid H6
    obtain ⟨a0, a1, a2, a3, a4⟩ := lg_cells H6.1
    have f1 := H6.1.free 1
    have f2 := H6.1.free 2
    have f3 := H6.1.free 3
    clear H6 d4 f4
    go_wp2_with fail
    go_end0
    exact lg_begun (n := 0) (k := 0) H.out H6'.out.1 H6'.out.2.1 H6'.out.2.2 Hk.out Hn.out hi ht hm (Nat.le_refl _) (fun e => by cases e) (fun b' hb' => by cases hb')
  · obtain ⟨vs, hcl, hS, hg⟩ := h2q.cutOff k hul
    have HS := Lib.hid hS
    have HG := Lib.hid hg
    have d4 := HR.out.cell (v := .slice (some ⟨b, off, none⟩) n c) 4 rfl
    have hbp : p ≠ b := fun e => h3 (by rw [e]; rfl)
    have hkc : k ≤ c := Nat.le_trans hul h2q.le
    have hnc : n ≤ c := h2q.le
    clear hS hg h2q
    go_upto_region 2 with (fail)
    refine forget (fun W5 => Rw W5 p (lgC l (.slice (some ⟨b, off, none⟩) n c)) 109 ∧ Sl W5 13 (if n = k then some ⟨b, off, none⟩ else some ⟨b, off + k * 13, none⟩) (n - k) (n - k) (ec (l.es.drop k)) ∧ Ks S W W5) ⟨HR.out.oputs hbp _ _, HS.out, ?_⟩ ?_
    · have hg := HG.out
      exact (Ks.bel (S := S) HB.out).trans (T := fun j => j = b) ⟨hg.os, hg.tape, hg.output, hg.size, fun j hj hn => hg.block j hj (fun e => hn (by injection e))⟩ (fun j hj => by rw [hj]; exact .inl (h4 b rfl))
    intro W5 H5
    have H5' := Lib.hid H5
    have d4' := H5.1.cell (v := .slice (some ⟨b, off, none⟩) n c) 4 rfl
    have f4 := H5.1.free 4
    clear H5 hcl d4 HR HB HS HG
    go_upto_region 3 with (fail)
    refine forget (fun W6 => ∃ A2, A2 = (if n = k then some ⟨b, off, none⟩ else some ⟨b, off + k * 13, none⟩ : Option Addr) ∧ Rw W6 p (lgC l (.slice A2 (n - k) (n - k))) 109 ∧ Sl W6 13 A2 (n - k) (n - k) (ec (l.es.drop k)) ∧ Ks S W W6) ⟨_, rfl, H5'.out.1.put 4 _, H5'.out.2.1.keep fun b' hb' => heap_setCell_other W5 ⟨p, 4, none⟩ b' _ (fun e => hbp ?_), H5'.out.2.2.trans (T := fun j => j = p) ⟨rfl, rfl, rfl, by simp, fun j hj hn => heap_setCell_other W5 ⟨p, 4, none⟩ j _ hn⟩ (fun j hj => by rw [hj]; exact .inl H.out.sp)⟩ ?_
    · have e : b' = p := e
      rw [← e]
      split at hb' <;> (cases hb'; rfl)
    rintro W6 ⟨A2, hA2, H6⟩
    rw [← hA2]
    have hb2 : blk A2 = some b := by rw [hA2]; split <;> rfl
    have H6' := Lib.hid H6
    obtain ⟨a0, a1, a2, a3, a4⟩ := lg_cells H6.1
    have f1 := H6.1.free 1
    have f2 := H6.1.free 2
    have f3 := H6.1.free 3
    clear H6 hA2 d4' f4 H5'
    go_wp2_with fail
    go_end0
    exact lg_begun H.out H6'.out.1 H6'.out.2.1 H6'.out.2.2 Hk.out Hn.out hi ht hm hul (by rw [hb2]; exact fun e => hbp (by injection e with e; exact e.symm)) (fun b' hb' => by rw [hb2] at hb'; cases hb'; exact h4 b rfl)
end Go.Proofs.Ytlnohjboldenpaa
