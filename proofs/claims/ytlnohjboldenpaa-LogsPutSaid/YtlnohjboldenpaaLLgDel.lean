/-
  Logs: the library's Delete at a slice's end walked; From, Reset.
-/
import Derived.Test.YtlnohjboldenpaaLLgJoin
set_option linter.unusedSimpArgs false
set_option linter.unusedVariables false
namespace Go.Proofs.Ytlnohjboldenpaa
open Go.RowKit Go.Sort
theorem cell_some_setCells (b : Nat) : ∀ (vs : List Value) (o : Nat) (W : World) (a : Addr), (W.cell? a).isSome = true → ((W.setCells b o vs).cell? a).isSome = true
  | [], _, _, _, h => h
  | v :: r, o, W, a, h => by
    rw [World.setCells]
    refine cell_some_setCells b r (o + 1) _ a ?_
    by_cases he : a = ⟨b, o, none⟩
    · subst he
      rw [World.cell?_setCell_same' W _ v h]; rfl
    · rw [World.cell?_setCell_other _ _ _ _ (fun e => he e.symm)]; exact h
theorem app_nothing (W : World) (A : Addr) (k c : Nat) (hk : k ≤ c) (A' : Addr) (c' : Nat) (ty : TypeId) : (Builtin.append_ #[23, 23] ty #[.slice (some A) k c, .slice (some A') 0 c']).run Try.prog W = .ok (.slice (some A) k c) W := by
  obtain ⟨i0, hi, hz0, hz1, hz2⟩ := info_parts infoEntL
  exact run_append_nothing (P := Try.prog) W 23 23 ty 49 i0 Try.underlying23 hi (some A) k c hk _ (Src.ofSlice W Try.underlying23 A' 0 c' [] (by simp) (fun j u hu => by cases hu) (fun u hu => by cases hu))
set_option maxRecDepth 100000 in
set_option maxHeartbeats 1000000 in
theorem delete_any (W : World) (A : Option Addr) (n c k : Nat) (es : List En.E) (h : Sl W 13 A n c (ec es)) (hk : k ≤ n) (hfew : n ≤ 1000000) :
    Calls Try.prog 75 #[.slice A n c, .int .i64 (k : Int), .int .i64 (n : Int)] W fun e w' => e = .returned (.slice A k c) ∧ Sl w' 13 A k c (ec (es.take k)) ∧ Ks (fun j => blk A = some j) W w' := by
  have hnc := h.le
  have hlen : es.length = n := by have := h.len; rw [ecL_len] at this; omega
  have Hlen := Lib.hid hlen
  clear hlen
  rcases h.lies with ⟨rfl, rfl⟩ | ⟨b, off, rfl, hlt, hc, hf⟩
  · have hn0 : n = 0 := by omega
    have hk0 : k = 0 := by omega
    subst hn0 hk0
    have HS := Lib.hid h
    clear h
    go_enter Try.func75, Try.ntmps75
    go_wp2_with fail
    go_ret
    have e : es = [] := List.eq_nil_of_length_eq_zero Hlen.out
    exact ⟨rfl, by rw [e]; simpa [ec] using Sl.nil W 13, Ks.refl _ _⟩
  by_cases hkn : k = n
  · subst hkn
    have HS := Lib.hid h
    clear h hc hf
    have q1 : ((k : Int) == (k : Int)) = true := by simp
    go_enter Try.func75, Try.ntmps75
    go_wp2_with fail
    go_ret
    exact ⟨rfl, by rw [List.take_of_length_le (by rw [Hlen.out]; exact Nat.le_refl _)]; exact HS.out, Ks.refl _ _⟩
  · have q1 : ((k : Int) == (n : Int)) = false := by simp; omega
    have q2 : ((k : Int) = (n : Int)) = False := by simp; omega
    have hkc : k ≤ c := by omega
    have hap := fun W A' c' ty => app_nothing W ⟨b, off, none⟩ k c hkc A' c' ty
    have HT : Hid (Sl W 13 (some ⟨b, off, none⟩) k c (ec (es.take k))) := Lib.hid (by rw [← ecL_take]; exact h.take k hk)
    have HF := Lib.hid hf
    have e0 : c ≠ k := by omega
    clear h hc hf
    go_enter Try.func75, Try.ntmps75
    have HC : Hid (∀ W2, (∀ j, j < c * 13 → (W2.cell? ⟨b, off + j, none⟩).isSome = true ∧ W2.frozen? ⟨b, off + j, none⟩ = false) → ∃ vs, vs.length = (n - k) * 13 ∧ ∀ ty, (Builtin.clear_ #[23] ty #[.slice (some ⟨b, off + k * 13, none⟩) (n - k) (c - k)]).run Try.prog W2 = .ok (.tuple #[]) (W2.setCells b (off + k * 13) vs)) := Lib.hid fun W2 h2 => by
      have hz : (Value.agg (entC En.zero)).cells.size = 13 := rfl
      have hkc2 : k * 13 + (n - k) * 13 ≤ c * 13 := by rw [← Nat.add_mul]; exact Nat.mul_le_mul_right _ (by omega)
      obtain ⟨vs, h1, h3⟩ := run_clear_sl (P := Try.prog) W2 23 49 3 (.agg (entC En.zero)) Try.underlying23 zeroEntL b (off + k * 13) (n - k) (c - k) (fun u hu => (Array.all_eq_true_iff_forall_mem.1 (entF En.zero).one) u (by simpa [Value.cells] using hu)) (fun j hj => by rw [Nat.add_assoc]; exact h2 _ (by rw [hz] at hj; omega))
      exact ⟨vs, by rw [h1, hz], fun ty => h3⟩
    have HE : Hid (∀ W2, Sl W2 13 (some ⟨b, off, none⟩) k c (ec (es.take k)) → ∀ vs, Sl (W2.setCells b (off + k * 13) vs) 13 (some ⟨b, off, none⟩) k c (ec (es.take k))) := Lib.hid fun W2 h2 vs => by
      refine ⟨h2.len, h2.le, h2.max, h2.lies.imp id ?_⟩
      rintro ⟨b', off', he, hlt', hc', hf'⟩
      obtain ⟨rfl, rfl⟩ : b = b' ∧ off = off' := by injection he with he; injection he with h1 h2; exact ⟨h1, h2⟩
      refine ⟨b, off, rfl, Nat.lt_of_lt_of_le hlt' (grownBy_setCells W2 b (off + k * 13) vs).size, fun j u hu => ?_, fun j hj => ⟨?_, (World.frozen?_setCells _ _ _ _ _).trans (hf' j hj).2⟩⟩
      · have hj : j < k * 13 := by have := (List.getElem?_eq_some_iff.1 hu).1; rw [h2.len] at this; exact this
        rw [World.cell?_setCells_out b _ _ _ _ (fun _ _ => .inl (by show off + j < off + k * 13; omega))]
        exact hc' j u hu
      · exact cell_some_setCells b vs (off + k * 13) W2 _ (hf' j hj).1
    rcases Nat.eq_or_lt_of_le hnc with hcn | hcn
    · subst hcn
      go_wp2_with fail
      go_region
      all_goals
        refine forgetX (fun W2 => Sl W2 13 (some ⟨b, off, none⟩) k n (ec (es.take k)) ∧ (∀ j, j < n * 13 → (W2.cell? ⟨b, off + j, none⟩).isSome = true ∧ W2.frozen? ⟨b, off + j, none⟩ = false) ∧ Bl W W2) ⟨HT.out.below (below_drew (Below.refl _ _)), fun j hj => HF.out j hj, below_drew (Below.refl _ _)⟩ ?_
        intro W2 H2
        obtain ⟨vs, hvl, hcl⟩ := HC.out W2 H2.2.1
        have H2' := Lib.hid H2
        clear H2 HC HF hap
        go_wp2_with fail
        go_ret
        refine ⟨rfl, HE.out W2 H2'.out.1 vs, (Ks.bel (S := fun j => blk (some ⟨b, off, none⟩) = some j) H2'.out.2.2.bel).trans (T := fun j => j = b) ?_ (fun j hj => .inl (by rw [hj]; rfl))⟩
        have hg := grownBy_setCells W2 b (off + k * 13) vs
        exact ⟨hg.os, hg.tape, hg.output, hg.size, fun j hj hn => hg.block j hj (fun e => hn (by injection e))⟩
    · have hne : c ≠ n := by omega
      go_wp2_with fail
      go_region
      all_goals
        refine forgetX (fun W2 => Sl W2 13 (some ⟨b, off, none⟩) k c (ec (es.take k)) ∧ (∀ j, j < c * 13 → (W2.cell? ⟨b, off + j, none⟩).isSome = true ∧ W2.frozen? ⟨b, off + j, none⟩ = false) ∧ Bl W W2) ⟨HT.out.below (below_drew (Below.refl _ _)), fun j hj => HF.out j hj, below_drew (Below.refl _ _)⟩ ?_
        intro W2 H2
        obtain ⟨vs, hvl, hcl⟩ := HC.out W2 H2.2.1
        have H2' := Lib.hid H2
        clear H2 HC HF hap
        go_wp2_with fail
        go_ret
        refine ⟨rfl, HE.out W2 H2'.out.1 vs, (Ks.bel (S := fun j => blk (some ⟨b, off, none⟩) = some j) H2'.out.2.2.bel).trans (T := fun j => j = b) ?_ (fun j hj => .inl (by rw [hj]; rfl))⟩
        have hg := grownBy_setCells W2 b (off + k * 13) vs
        exact ⟨hg.os, hg.tape, hg.output, hg.size, fun j hj hn => hg.block j hj (fun e => hn (by injection e))⟩
theorem Lies.first {w : World} {A : Option Addr} {vs us rs : List Value} (h : Lies w A vs) (e : vs = us ++ rs) : Lies w A us := by
  rcases h with h | ⟨b, off, rfl, hlt, hc⟩
  · left; rw [h] at e; exact (List.append_eq_nil_iff.1 e.symm).1
  · exact .inr ⟨b, off, rfl, hlt, fun j u hu => hc j u (by rw [e, List.getElem?_append_left (List.getElem?_eq_some_iff.1 hu).1]; exact hu)⟩
/-- The log's entries from an index on, so many. -/
def fromM (l : Lg.L) (i m : Nat) : List En.E := if m = 0 then [] else Lg.frm l i m
set_option maxRecDepth 100000 in
set_option maxHeartbeats 1000000 in
theorem from_any {p : Nat} {S : Nat → Prop} {l : Lg.L} (W : World) (h : LgAt W p S l) (i m : Nat) (hi : i < Nm.top) (hm : m < 9223372036854775808) :
    Calls Try.prog 24 #[.pointer (some ⟨p, 0, none⟩), .int .u64 (i : Int), .int .i64 (m : Int)] W (RetE (Lg.frm l i m) W) := by
  have HM := Lib.hid (isMade_any W h)
  have H := Lib.hid h
  have HB : Hid (∀ W', Below W.heap.size W W' → Calls Try.prog 72 #[.pointer (some ⟨p, 0, none⟩), .int .u64 (i : Int)] W' (RetL (.int .i64 (Lg.bel l i : Nat)) W')) := Lib.hid fun W' hb => below_any W' (h.bel hb) i hi
  obtain ⟨A, c, h1, h2, h3, h4⟩ := h.own
  obtain ⟨c0, c1, c2, c3, c4⟩ := lg_cells h1
  have hfew := h.fit.few
  have hes := h.fit.es
  have hbl : Lg.bel l i ≤ l.es.length := by unfold Lg.bel Lg.upTo; omega
  have r4 := fun d os => cell_regrown c4 d os
  have HE : Hid (Lg.frm l i m = (l.es.drop (Lg.bel l i)).take m) := Lib.hid rfl
  obtain ⟨F, hF⟩ : ∃ F, F = Lg.frm l i m := ⟨_, rfl⟩
  rw [← hF] at HE ⊢
  obtain ⟨k, hk⟩ : ∃ k, k = Lg.bel l i := ⟨_, rfl⟩
  rw [← hk] at HB hbl HE
  obtain ⟨n, hnn⟩ : ∃ n, n = l.es.length := ⟨_, rfl⟩
  rw [← hnn] at hbl hfew h2 r4 h1
  have Hn := Lib.hid hnn
  have H2 := Lib.hid h2
  clear h hF hk hnn c0 c1 c2 c3 c4 h1 h3 h4
  go_enter Try.func24, Try.ntmps24
  by_cases hm0 : m = 0
  · have q1 : ((m : Int) < 1) = True := by simp; omega
    have q2 : decide (m < 1) = true := decide_eq_true (by omega)
    have E : Hid (F = []) := Lib.hid (by rw [HE.out, hm0, List.take_zero])
    clear HE HB r4 h2
    go_wp2_with (go_at_call 71; refine HM.out.mono ?_; rintro r w' ⟨rfl, rfl⟩)
    go_ret
    rw [E.out]
    exact ⟨none, 0, rfl, Sl.nil _ _, (fun b hb => by cases hb), Below.refl _ _⟩
  have hm1 : 1 ≤ m := by omega
  have q1 : ((m : Int) < 1) = False := by simp; omega
  have q2 : decide (m < 1) = false := decide_eq_false (by omega)
  have HCp : Hid (∀ (W' : World) (A2 : Option Addr) (c2 j : Nat), F.length = j → Lies W' A2 (ec (l.es.drop k)) → Calls Try.prog 54 #[.slice A2 j c2] W' (RetE F W')) := Lib.hid fun W' A2 c2 j hj hl => by
    rw [← hj]
    have hpre : ∃ r, l.es.drop k = F ++ r := ⟨(l.es.drop k).drop m, by rw [HE.out, List.take_append_drop]⟩
    obtain ⟨r, hr⟩ := hpre
    refine copies_any W' A2 c2 F (hl.first (by rw [hr, ecL_app])) (by have e1 : F.length ≤ l.es.length := by rw [HE.out, List.length_take, List.length_drop]; omega
                                                                      rw [← Hn.out] at e1; omega) (fun e he => ?_)
    have := hes e (List.mem_of_mem_drop (i := k) (by rw [hr]; exact List.mem_append_left _ he))
    omega
  have HL : Hid (F.length = min m (n - k)) := Lib.hid (by rw [HE.out, List.length_take, List.length_drop, ← Hn.out])
  clear HE hes
  rcases h2.lies with ⟨rfl, rfl⟩ | ⟨b, off, rfl, hlt, _⟩
  · have hn0 : n = 0 := by have := h2.le; omega
    have hk0 : k = 0 := by omega
    subst hn0 hk0
    have HLi : Hid (∀ W' : World, Lies W' none (ec (l.es.drop 0))) := Lib.hid fun W' => by
      have e : l.es = [] := List.eq_nil_of_length_eq_zero Hn.out.symm
      rw [e]; exact .inl rfl
    have HF0 : Hid (F.length = 0) := Lib.hid (by rw [HL.out]; omega)
    clear h2 hbl
    go_wp2_with (go_at_call 71; refine HM.out.mono ?_; rintro r w' ⟨rfl, rfl⟩)
    refine wp_region_quiet_below (by kernel_rfl) (by kernel_rfl) ?_
    repeat (go_big_quiet_step (first | (go_at_call 72; exact Calls.regrown_of (HB.out _ (below_regrown _ _ _)))))
    refine wpQuiet_nil ?_
    intro _ hw'
    obtain ⟨pq, hw''⟩ := hw'
    subst hw''
    have HB4 := Lib.hid (below_regrown w' pq.d pq.os)
    generalize grow (redrawn w' pq.d) pq.os = W4 at *
    clear r4 HB
    have q3 : decide (m < 0) = false := decide_eq_false (by omega)
    go_wp2_with (go_at_call 54; refine (HCp.out _ _ _ _ HF0.out (HLi.out _)).mono ?_; rintro r w2 ⟨A2, c2, rfl, hs2, hb2, hw2⟩)
    all_goals
      go_ret
      exact ⟨A2, c2, rfl, hs2, fun b hb => Nat.le_trans HB4.out.size (hb2 b hb), bnext HB4.out hw2⟩
  have hnc := h2.le
  have HLi : Hid (∀ W' : World, Below W.heap.size W W' → Lies W' (if c = k then some ⟨b, off, none⟩ else some ⟨b, off + k * 13, none⟩) (ec (l.es.drop k))) := Lib.hid fun W' hb => lies_part (c := c) (h2.liesV.below hb) k (by rw [← Hn.out]; exact hbl) (by rw [← Hn.out]; exact hnc)
  clear h2
  rcases Nat.eq_or_lt_of_le (Nat.le_trans hbl hnc) with hck | hck
  · subst hck
    have hkn : n = k := by omega
    subst hkn
    have HF0 : Hid (F.length = 0) := Lib.hid (by rw [HL.out]; omega)
    simp only [if_true] at HLi
    go_wp2_with (go_at_call 71; refine HM.out.mono ?_; rintro r w' ⟨rfl, rfl⟩)
    refine wp_region_quiet_below (by kernel_rfl) (by kernel_rfl) ?_
    repeat (go_big_quiet_step (first | (go_at_call 72; exact Calls.regrown_of (HB.out _ (below_regrown _ _ _)))))
    refine wpQuiet_nil ?_
    intro _ hw'
    obtain ⟨pq, hw''⟩ := hw'
    subst hw''
    have HB4 := Lib.hid (below_regrown w' pq.d pq.os)
    have HL4 := Lib.hid (HLi.out _ HB4.out)
    generalize grow (redrawn w' pq.d) pq.os = W4 at *
    clear r4 HB HLi
    have q3 : decide (m < 0) = false := decide_eq_false (by omega)
    go_wp2_with (go_at_call 54; refine (HCp.out _ _ _ _ HF0.out HL4.out).mono ?_; rintro r w2 ⟨A2, c2, rfl, hs2, hb2, hw2⟩)
    all_goals
      go_ret
      exact ⟨A2, c2, by rw [HF0.out]; rfl, hs2, fun b hb => Nat.le_trans HB4.out.size (hb2 b hb), bnext HB4.out hw2⟩
  · have hne : ¬ c = k := by omega
    simp only [if_neg hne] at HLi
    go_wp2_with (go_at_call 71; refine HM.out.mono ?_; rintro r w' ⟨rfl, rfl⟩)
    refine wp_region_quiet_below (by kernel_rfl) (by kernel_rfl) ?_
    repeat (go_big_quiet_step (first | (go_at_call 72; exact Calls.regrown_of (HB.out _ (below_regrown _ _ _)))))
    refine wpQuiet_nil ?_
    intro _ hw'
    obtain ⟨pq, hw''⟩ := hw'
    subst hw''
    have HB4 := Lib.hid (below_regrown w' pq.d pq.os)
    have HL4 := Lib.hid (HLi.out _ HB4.out)
    generalize grow (redrawn w' pq.d) pq.os = W4 at *
    clear r4 HB HLi
    have hdc : n - k ≤ c - k := by omega
    have HFl := Lib.hid HL.out
    obtain ⟨d, hd⟩ : ∃ d, d = n - k := ⟨_, rfl⟩
    rw [← hd] at hdc HFl ⊢
    have hdn : d ≤ 100000 := by omega
    clear hd HL
    have fin : ∀ e w2, RetE F W4 e w2 → RetE F w' e w2 := fun e w2 ⟨A2, c2, h1, hs2, hb2, hw2⟩ => ⟨A2, c2, h1, hs2, fun b hb => Nat.le_trans HB4.out.size (hb2 b hb), bnext HB4.out hw2⟩
    have HFin := Lib.hid fin
    clear fin
    by_cases hmin : d < m
    · have q3 : decide (d < m) = true := decide_eq_true hmin
      have q4 : ((d : Int) < (m : Int)) = True := by simp; omega
      have HFm : Hid (F.length = d) := Lib.hid (by rw [HFl.out]; omega)
      have HC4 := Lib.hid (HCp.out W4 (some ⟨b, off + k * 13, none⟩) (c - k) d HFm.out HL4.out)
      clear HCp HL4 HFl
      go_wp2_with (go_at_call 54; refine HC4.out.mono ?_; rintro r w2 h2; obtain ⟨A2, c2, rfl, h2'⟩ := HFin.out _ _ h2)
      go_ret
      exact ⟨A2, c2, by rfl, h2'⟩
    · have q3 : decide (d < m) = false := decide_eq_false hmin
      have q4 : ((d : Int) < (m : Int)) = False := by simp; omega
      have HFm : Hid (F.length = m) := Lib.hid (by rw [HFl.out]; omega)
      have hmc : m ≤ c - k := by omega
      have HC4 := Lib.hid (HCp.out W4 (some ⟨b, off + k * 13, none⟩) (c - k) m HFm.out HL4.out)
      clear HCp HL4 HFl
      go_wp2_with (go_at_call 54; refine HC4.out.mono ?_; rintro r w2 h2; obtain ⟨A2, c2, rfl, h2'⟩ := HFin.out _ _ h2)
      go_ret
      exact ⟨A2, c2, by rfl, h2'⟩
theorem lg_none {W w2 : World} {p : Nat} {S : Nat → Prop} {l : Lg.L} {v : Value} (h : LgAt W p S l) (hb : Below W.heap.size W w2) (hr : Rw w2 p (lgC l v) 109) :
    LgAt (w2.setCell ⟨p, 4, none⟩ (.slice none 0 0)) p S { l with es := [] } ∧ Ks S W (w2.setCell ⟨p, 4, none⟩ (.slice none 0 0)) := by
  have hks : Ks S W (w2.setCell ⟨p, 4, none⟩ (.slice none 0 0)) := (Ks.bel (S := S) hb).trans (T := fun j => j = p) ⟨rfl, rfl, rfl, by simp, fun j hj hn => heap_setCell_other w2 ⟨p, 4, none⟩ j _ hn⟩ (fun j hj => by rw [hj]; exact .inl h.sp)
  refine ⟨⟨⟨none, 0, hr.put 4 _, Sl.nil _ _, (fun e => by cases e), fun b hb => by cases hb⟩, h.sp, fun j hj => Nat.lt_of_lt_of_le (h.lt j hj) hks.size, h.fit.idx, h.fit.trm, h.fit.mem, (fun e he => by cases he), Nat.zero_le _⟩, hks⟩
set_option maxRecDepth 100000 in
set_option maxHeartbeats 1000000 in
theorem reset_any {p : Nat} {S : Nat → Prop} {l : Lg.L} (W : World) (h : LgAt W p S l) (hf : ∀ e ∈ l.es, e.idx < Nm.top) (i t m : Nat) (hi : i < Nm.top) (ht : t < Nm.top) (hm : m < 256) :
    Calls Try.prog 56 #[.pointer (some ⟨p, 0, none⟩), .int .u64 (i : Int), .int .u64 (t : Int), .int .u8 (m : Int)] W fun e w' => e = .returned (.tuple #[]) ∧ LgAt w' p S (Lg.reset l i t m) ∧ Ks S W w' := by
  have HM := Lib.hid (isMade_any W h)
  have HH := Lib.hid (has_any W h i t hi hf)
  have H := Lib.hid h
  obtain ⟨hh, hhe⟩ : ∃ hh, hh = Lg.has l i t := ⟨_, rfl⟩
  rw [← hhe] at HH
  have HR : Hid (Lg.reset l i t m = Lg.bgn (if hh = true then l else { l with es := [] }) i t m) := Lib.hid (by rw [hhe]; rfl)
  clear h hhe hf
  go_enter Try.func56, Try.ntmps56
  cases hh with
  | true =>
    have E : Hid (Lg.reset l i t m = Lg.bgn l i t m) := Lib.hid (by rw [HR.out, if_pos rfl])
    clear HR
    have HBg : Hid (∀ w2, Below W.heap.size W w2 → Calls Try.prog 88 #[.pointer (some ⟨p, 0, none⟩), .int .u64 (i : Int), .int .u64 (t : Int), .int .u8 (m : Int)] w2 fun e w' => e = .returned (.tuple #[]) ∧ LgAt w' p S (Lg.reset l i t m) ∧ Ks S W w') := Lib.hid fun w2 hb2 => (begin_any w2 (H.out.bel hb2) i t m hi ht hm).mono fun e w' ⟨h1, h2, h3⟩ => ⟨h1, by rw [E.out]; exact h2, (Ks.bel (S := S) hb2).trans h3 (fun k hk => .inl hk)⟩
    clear E H
    go_wp2_with (first | (go_at_call 71; refine HM.out.mono ?_; rintro r w' ⟨rfl, rfl⟩) | (go_at_call 89; refine HH.out.mono ?_; rintro r w2 ⟨rfl, hb2⟩) | (go_at_call 88; refine (HBg.out _ hb2).mono ?_; rintro r w3 ⟨rfl, h3, hk3⟩))
    go_end0
    exact ⟨rfl, h3, hk3⟩
  | false =>
    have E : Hid (Lg.reset l i t m = Lg.bgn { l with es := [] } i t m) := Lib.hid (by rw [HR.out, if_neg (by decide)])
    clear HR
    have HBg : Hid (∀ w2, Below W.heap.size W w2 → ∃ v, w2.cell? ⟨p, 4, none⟩ = some v ∧ w2.frozen? ⟨p, 4, none⟩ = false ∧ Calls Try.prog 88 #[.pointer (some ⟨p, 0, none⟩), .int .u64 (i : Int), .int .u64 (t : Int), .int .u8 (m : Int)] (w2.setCell ⟨p, 4, none⟩ (.slice none 0 0)) fun e w' => e = .returned (.tuple #[]) ∧ LgAt w' p S (Lg.reset l i t m) ∧ Ks S W w') := Lib.hid fun w2 hb2 => by
      obtain ⟨A, c, hr2, hs2, hn2, hS2⟩ := (H.out.bel hb2).own
      obtain ⟨H3, H4⟩ := lg_none H.out hb2 hr2
      refine ⟨_, hr2.cell (v := .slice A l.es.length c) 4 rfl, hr2.free 4, (begin_any _ H3 i t m hi ht hm).mono fun e w' ⟨h1, h2, h3⟩ => ⟨h1, by rw [E.out]; exact h2, H4.trans h3 (fun k hk => .inl hk)⟩⟩
    clear E H
    go_wp2_with (first | (go_at_call 71; refine HM.out.mono ?_; rintro r w' ⟨rfl, rfl⟩) | (go_at_call 89; refine HH.out.mono ?_; rintro r w2 ⟨rfl, hb2⟩; obtain ⟨v4, c4, f4, hB⟩ := HBg.out w2 hb2; have HB := Lib.hid hB; clear hB) | (go_at_call 88; refine HB.out.mono ?_; rintro r w3 ⟨rfl, h3, hk3⟩))
    go_end0
    exact ⟨rfl, h3, hk3⟩
end Go.Proofs.Ytlnohjboldenpaa
