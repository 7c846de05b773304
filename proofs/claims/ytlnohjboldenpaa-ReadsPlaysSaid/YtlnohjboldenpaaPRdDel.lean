/-
  Reads: the library's Clone and Delete walked.
-/
import Derived.Test.YtlnohjboldenpaaPRdBegin
set_option linter.unusedSimpArgs false
set_option linter.unusedVariables false
namespace Go.Proofs.Ytlnohjboldenpaa
open Go.RowKit Go.Sort
theorem reads_nil (W : World) : Sem.run Try.prog (binOp BinOp.eql 80 (.slice none 0 0) (.slice none 0 0)) W = .ok (.bool true) W := by kernel_rfl
theorem reads_some (a : Addr) (n c : Nat) (W : World) : Sem.run Try.prog (binOp BinOp.eql 80 (.slice (some a) n c) (.slice none 0 0)) W = .ok (.bool false) W := by kernel_rfl
/-- Reads handed back in memory of one's own. -/
def RetRs (es : List Rd.E) (w : World) (e : Ending) (w' : World) : Prop := ∃ A c, e = .returned (.slice A es.length c) ∧ Sl w' 3 A es.length c (rdc es) ∧ (∀ b, blk A = some b → w.heap.size ≤ b) ∧ Below w.heap.size w w'
set_option maxRecDepth 100000 in
set_option maxHeartbeats 1000000 in
theorem cloneR_any (w : World) (A : Option Addr) (c k : Nat) (es : List Rd.E) (hk : k = es.length) (hA : Lies w A (rdc es)) (hz : A = none → c = 0) (hn : es.length ≤ 1000000) :
    Calls Try.prog 85 #[.slice A k c] w (RetRs es w) := by
  obtain ⟨i0, hi0, hz0, hz1, hz2⟩ := info_partsR infoRd
  subst hk
  rcases (show (∃ a, A = some a) ∨ (A = none ∧ c = 0) by cases A with
    | none => exact .inr ⟨rfl, hz rfl⟩
    | some a => exact .inl ⟨a, rfl⟩) with ⟨ad, rfl⟩ | ⟨rfl, rfl⟩
  · obtain ⟨n, hnn⟩ : ∃ n, n = es.length := ⟨_, rfl⟩
    have HN : Hid (Sl (w.alloc (.cells #[] 97)) 3 (some ⟨w.heap.size, 0, none⟩) 0 0 [] ∧ Src Try.prog 3 80 (.slice (some ad) n c) n (rdc es) (w.alloc (.cells #[] 97))) := Lib.hid
      ⟨⟨rfl, Nat.le_refl _, Nat.zero_le _, .inr ⟨w.heap.size, 0, rfl, by rw [World.size_alloc]; omega, (fun j u hu => by simp at hu), fun j hj => by omega⟩⟩,
       src_sl Try.underlying80 (by rw [rdc_length, hnn]) (hA.below (bnew (Below.refl _ _) _)) (fun h => by cases h) (rdc_ones _)⟩
    have Hn := Lib.hid hnn
    rw [← hnn] at hn ⊢
    clear hA hnn hz
    have q0 := reads_some ad n c
    go_enter Try.func85, Try.ntmps85
    go_wp2_with (at_builtin; refine wpList_app_sl rfl (.tmp 5) (.tmp 6) 80 80 rfl 97 i0 (.agg #[.int .u64 0, .int .u64 0, .int .u64 0]) 3 24 Try.underlying80 hi0 hz0 hz1 hz2 rfl (by decide) rfl HN.out.1 _ n _ rfl HN.out.2 (by simp only [maxLen]; omega) (by omega) ?_; intro A4 c4 w4 h4 g4 n4; rw [Nat.zero_add] at h4 ⊢; rw [List.nil_append] at h4)
    have b4 : Below w.heap.size w w4 := Below.grown (bnew (Below.refl _ _) _) g4 (by rw [World.size_alloc]; omega) (fun k hk => by rw [blk_some] at hk; injection hk with hk; omega)
    have z4 : ∀ b, blk A4 = some b → w.heap.size ≤ b := fun b hb => by
      rcases n4 b hb with h | h
      · rw [blk_some] at h; injection h with h; omega
      · rw [World.size_alloc] at h; omega
    have L4 := Lib.hid (And.intro h4 (And.intro z4 b4))
    clear h4 z4 b4 n4 g4 HN
    go_wp2_with fail
    go_ret
    have hn2 := Hn.out
    subst hn2
    exact ⟨A4, c4, rfl, L4.out.1, L4.out.2.1, L4.out.2.2⟩
  · have he : es = [] := by
      rcases hA with h | ⟨_, _, h, _⟩
      · have := rdc_length es
        rw [h] at this
        exact List.eq_nil_of_length_eq_zero (by simp at this; omega)
      · cases h
    subst he
    have q0 := reads_nil
    clear hA hn hz
    simp only [List.length_nil]
    go_enter Try.func85, Try.ntmps85
    go_wp2_with fail
    go_ret
    exact ⟨none, 0, rfl, Sl.nil _ _, (fun b hb => by cases hb), Below.refl _ _⟩
theorem cellR_some_setCells (b : Nat) : ∀ (vs : List Value) (o : Nat) (W : World) (a : Addr), (W.cell? a).isSome = true → ((W.setCells b o vs).cell? a).isSome = true
  | [], _, _, _, h => h
  | v :: r, o, W, a, h => by
    rw [World.setCells]
    refine cellR_some_setCells b r (o + 1) _ a ?_
    by_cases he : a = ⟨b, o, none⟩
    · subst he
      rw [World.cell?_setCell_same' W _ v h]; rfl
    · rw [World.cell?_setCell_other _ _ _ _ (fun e => he e.symm)]; exact h
theorem zeroRd : ∀ w, (zeroValue 97).run Try.prog w = .ok (.agg #[.int .u64 0, .int .u64 0, .int .u64 0]) w := fun w => by kernel_rfl
/-- The later ones moved to the front. -/
theorem app_front (W : World) (b off n c j : Nat) (es : List Rd.E) (h : Sl W 3 (some ⟨b, off, none⟩) n c (rdc es)) (hj : j ≤ n) (A2 : Addr) (hA2 : Lies W (some A2) (rdc (es.drop j))) (c2 : Nat) (ty : TypeId) :
    (Builtin.append_ #[80, 80] ty #[.slice (some ⟨b, off, none⟩) 0 c, .slice (some A2) (n - j) c2]).run Try.prog W = .ok (.slice (some ⟨b, off, none⟩) (n - j) c) (W.setCells b off (rdc (es.drop j))) ∧
    Sl (W.setCells b off (rdc (es.drop j))) 3 (some ⟨b, off, none⟩) (n - j) c (rdc (es.drop j)) ∧ (∀ i, i < c * 3 → ((W.setCells b off (rdc (es.drop j))).cell? ⟨b, off + i, none⟩).isSome = true ∧ (W.setCells b off (rdc (es.drop j))).frozen? ⟨b, off + i, none⟩ = false) := by
  obtain ⟨i0, hi0, hz0, hz1, hz2⟩ := info_partsR infoRd
  have hlen : es.length = n := by have := h.len; rw [rdc_length] at this; omega
  have hnl : (rdc (es.drop j)).length = (n - j) * 3 := by rw [rdc_length, List.length_drop, hlen]
  have hle := h.le
  rcases h.lies with ⟨he, _⟩ | ⟨b', off', he, hlt, hc, hf⟩
  · cases he
  obtain ⟨rfl, rfl⟩ : b = b' ∧ off = off' := by injection he with he; injection he with h1 h2; exact ⟨h1, h2⟩
  have hsome : ∀ i, i < (rdc (es.drop j)).length → (W.cell? ⟨b, off + 0 * i0.size + i, none⟩).isSome = true := fun i hi => by
    rw [Nat.zero_mul, Nat.add_zero]; exact (hf i (by omega)).1
  have hrun := run_append_room_src (P := Try.prog) W 80 80 ty 97 i0 Try.underlying80 hi0 b off 0 c (.slice (some A2) (n - j) c2) (n - j) (rdc (es.drop j)) (by rw [hz1]; exact src_sl Try.underlying80 hnl hA2 (fun h => by cases h) (rdc_ones _)) (by omega) hsome (fun i hi => by rw [Nat.zero_mul, Nat.add_zero]; exact (hf i (by omega)).2)
  rw [Nat.zero_mul, Nat.add_zero, Nat.zero_add] at hrun
  have hall : ∀ i, i < c * 3 → ((W.setCells b off (rdc (es.drop j))).cell? ⟨b, off + i, none⟩).isSome = true ∧ (W.setCells b off (rdc (es.drop j))).frozen? ⟨b, off + i, none⟩ = false := fun i hi => ⟨cellR_some_setCells b _ _ W _ (hf i hi).1, (World.frozen?_setCells b _ _ _ _).trans (hf i hi).2⟩
  refine ⟨hrun, ⟨hnl, by omega, h.max, .inr ⟨b, off, rfl, Nat.lt_of_lt_of_le hlt (grownBy_setCells W b off _).size, fun i u hu => ?_, hall⟩⟩, hall⟩
  have hil : i < (rdc (es.drop j)).length := (List.getElem?_eq_some_iff.1 hu).1
  have := World.cell?_setCells_in b (rdc (es.drop j)) off W (fun i hi => (hf i (by omega)).1) i hil
  rw [this, ← List.getElem?_eq_getElem hil]; exact hu
theorem step_app_run {P : Program} {ops : Array Oper} {o : Oper} {a : Act} {w w' : World} {K : Act → World → Prop} {Q : Exit → Act → World → Prop} {E : Prop}
    (hgd : o.guard = none) (s x : Operand) (t tx : TypeId) (ho : o.op = .call { callee := .builtin .append, args := #[s, x], argTypes := #[t, tx] })
    (sv xv rv : Value) (hv : a.eval s = sv) (hx : a.eval x = xv) (hr : (Builtin.append_ #[t, tx] o.type #[sv, xv]).run P w = .ok rv w') (hK : K (a.put o.dst rv) w') :
    if Region.wanted o (yielded ops a.tmps) = true then Oper.wp P o a w K Q else E := by
  have hw : Region.wanted o (yielded ops a.tmps) = true := by simp [Region.wanted, hgd]
  rw [if_pos hw]
  unfold Oper.wp execOp
  simp only [ho, resolve, invoke, builtin, Sem.run_bind, Sem.run_pure, Result.andThen_ok, List.map_toArray, List.map_cons, List.map_nil, hv, hx, hr]
  exact hK
theorem liesR_part {w : World} {b off n c j : Nat} {es : List Rd.E} (h : Lies w (some ⟨b, off, none⟩) (rdc es)) (hj : j ≤ es.length) : Lies w (some ⟨b, off + j * 3, none⟩) (rdc (es.drop j)) := by
  rcases h with h | ⟨b', off', he, hlt, hc⟩
  · left
    rw [← rdc_drop es j hj, h, List.drop_nil]
  · obtain ⟨rfl, rfl⟩ : b = b' ∧ off = off' := by injection he with he; injection he with h1 h2; exact ⟨h1, h2⟩
    refine .inr ⟨b, off + j * 3, rfl, hlt, fun i u hu => ?_⟩
    rw [← rdc_drop es j hj, List.getElem?_drop] at hu
    rw [Nat.add_assoc]; exact hc _ u hu
set_option maxRecDepth 100000 in
set_option maxHeartbeats 4000000 in
theorem deleteR_any (W : World) (A : Option Addr) (n c j : Nat) (es : List Rd.E) (h : Sl W 3 A n c (rdc es)) (hj : j ≤ n) (hfew : n ≤ 1000000) :
    Calls Try.prog 86 #[.slice A n c, .int .i64 0, .int .i64 (j : Int)] W fun e w' => e = .returned (.slice A (n - j) c) ∧ Sl w' 3 A (n - j) c (rdc (es.drop j)) ∧ Kr (fun k => blk A = some k) W w' := by
  have hnc := h.le
  have hlen : es.length = n := by have := h.len; rw [rdc_length] at this; omega
  have Hlen := Lib.hid hlen
  clear hlen
  rcases h.lies with ⟨rfl, rfl⟩ | ⟨b, off, rfl, hlt, hc, hf⟩
  · have hn0 : n = 0 := by omega
    have hk0 : j = 0 := by omega
    subst hn0 hk0
    have HS := Lib.hid h
    clear h
    go_enter Try.func86, Try.ntmps86
    go_wp2_with fail
    go_ret
    exact ⟨rfl, HS.out, Kr.refl _ _⟩
  by_cases hj0 : j = 0
  · subst hj0
    have HS := Lib.hid h
    clear h hc hf
    go_enter Try.func86, Try.ntmps86
    go_wp2_with fail
    go_ret
    exact ⟨rfl, HS.out, Kr.refl _ _⟩
  · have q1 : ((0 : Int) == (j : Int)) = false := by simp; omega
    have q2 : ((0 : Int) = (j : Int)) = False := by simp; omega
    have e0 : c ≠ n - j := by omega
    have HC : Hid (∀ W2, (∀ i, i < c * 3 → (W2.cell? ⟨b, off + i, none⟩).isSome = true ∧ W2.frozen? ⟨b, off + i, none⟩ = false) → ∃ vs, vs.length = j * 3 ∧ ∀ ty, (Builtin.clear_ #[80] ty #[.slice (some ⟨b, off + (n - j) * 3, none⟩) j (c - (n - j))]).run Try.prog W2 = .ok (.tuple #[]) (W2.setCells b (off + (n - j) * 3) vs)) := Lib.hid fun W2 h2 => by
      have hz : (Value.agg #[.int .u64 0, .int .u64 0, .int .u64 0]).cells.size = 3 := rfl
      obtain ⟨vs, h1, h3⟩ := run_clear_sl (P := Try.prog) W2 80 97 3 (.agg #[.int .u64 0, .int .u64 0, .int .u64 0]) Try.underlying80 zeroRd b (off + (n - j) * 3) j (c - (n - j)) (fun u hu => by simp [Value.cells] at hu; rw [hu]; rfl) (fun i hi => by rw [Nat.add_assoc]; exact h2 _ (by rw [hz] at hi; omega))
      exact ⟨vs, by rw [h1, hz], fun ty => h3⟩
    have HE : Hid (∀ W2, Sl W2 3 (some ⟨b, off, none⟩) (n - j) c (rdc (es.drop j)) → ∀ vs, Sl (W2.setCells b (off + (n - j) * 3) vs) 3 (some ⟨b, off, none⟩) (n - j) c (rdc (es.drop j))) := Lib.hid fun W2 h2 vs => by
      refine ⟨h2.len, h2.le, h2.max, h2.lies.imp id ?_⟩
      rintro ⟨b', off', he, hlt', hc', hf'⟩
      obtain ⟨rfl, rfl⟩ : b = b' ∧ off = off' := by injection he with he; injection he with h1 h2; exact ⟨h1, h2⟩
      refine ⟨b, off, rfl, Nat.lt_of_lt_of_le hlt' (grownBy_setCells W2 b _ vs).size, fun i u hu => ?_, fun i hi => ⟨?_, (World.frozen?_setCells _ _ _ _ _).trans (hf' i hi).2⟩⟩
      · have hi : i < (n - j) * 3 := by have := (List.getElem?_eq_some_iff.1 hu).1; rw [h2.len] at this; exact this
        rw [World.cell?_setCells_out b _ _ _ _ (fun _ _ => .inl (by show off + i < off + (n - j) * 3; omega))]
        exact hc' i u hu
      · exact cellR_some_setCells b vs _ W2 _ (hf' i hi).1
    have HS := Lib.hid h
    have fin : ∀ W2 vs, Kr (fun k => blk (some ⟨b, off, none⟩) = some k) W W2 → Kr (fun k => blk (some ⟨b, off, none⟩) = some k) W (W2.setCells b (off + (n - j) * 3) vs) := fun W2 vs hk => hk.trans (Kr.grown (S := fun k => k = b) (grownBy_setCells W2 b (off + (n - j) * 3) vs) (fun k hk => by injection hk with hk; exact hk.symm)) (fun k hk => .inl (by rw [hk]; rfl))
    have Hfin := Lib.hid fin
    rcases Nat.eq_or_lt_of_le (Nat.le_trans hj hnc) with hjc | hjc
    · have hjn : j = n := by omega
      subst hjn
      obtain rfl : j = c := hjc
      have hd : es.drop j = [] := List.drop_eq_nil_of_le (by rw [Hlen.out]; exact Nat.le_refl _)
      obtain ⟨i0, hi0, hz0, hz1, hz2⟩ := info_partsR infoRd
      have HB1 : Hid (∀ ty, (Builtin.append_ #[80, 80] ty #[.slice (some ⟨b, off, none⟩) 0 j, .slice (some ⟨b, off, none⟩) 0 0]).run Try.prog W.drew = .ok (.slice (some ⟨b, off, none⟩) 0 j) W.drew) := Lib.hid fun ty =>
        run_append_nothing (P := Try.prog) W.drew 80 80 ty 97 i0 Try.underlying80 hi0 (some ⟨b, off, none⟩) 0 j (Nat.zero_le _) _ (Src.ofSlice W.drew Try.underlying80 ⟨b, off, none⟩ 0 0 [] (by simp) (fun j u hu => by cases hu) (fun u hu => by cases hu))
      have HB2 : Hid (Sl W.drew 3 (some ⟨b, off, none⟩) 0 j []) := Lib.hid ⟨rfl, Nat.zero_le _, h.max, .inr ⟨b, off, rfl, hlt, (fun i u hu => by cases hu), fun i hi => hf i hi⟩⟩
      have HB3 : Hid (∀ i, i < j * 3 → (W.drew.cell? ⟨b, off + i, none⟩).isSome = true ∧ W.drew.frozen? ⟨b, off + i, none⟩ = false) := Lib.hid fun i hi => hf i hi
      rw [hd]
      rw [hd] at HE
      simp only [Nat.sub_self, Nat.zero_mul, Nat.add_zero, Nat.sub_zero] at HC HE Hfin ⊢
      have hr0 : rdc [] = [] := rfl
      rw [hr0] at HE ⊢
      clear h hc hf fin hd hr0 e0
      have hj1 : 0 < j := by omega
      go_enter Try.func86, Try.ntmps86
      go_wp2_with fail
      go_region_law (refine step_app_run rfl (.tmp 22) (.tmp 25) 80 80 rfl _ _ _ rfl rfl (HB1.out _) ?_)
      all_goals
        obtain ⟨vs, hvl, hcl⟩ := HC.out _ HB3.out
        have HD := Lib.hid (HE.out _ HB2.out vs)
        have HK := Lib.hid (Hfin.out _ vs (Kr.bel (S := fun k => blk (some ⟨b, off, none⟩) = some k) (below_drew (Below.refl W.heap.size W))))
        generalize W.drew = W2 at *
        clear HC HE Hfin HB2 HB3 HB1 HS
        go_wp2_with fail
        go_ret
        exact ⟨rfl, HD.out, HK.out⟩
    · have hne : c ≠ j := by omega
      obtain ⟨a1, a2, a3⟩ := app_front W b off n c j es h hj ⟨b, off + j * 3, none⟩ (liesR_part (n := n) (c := c) h.liesV (by rw [Hlen.out]; exact hj)) (c - j) 80
      obtain ⟨b1, b2, b3⟩ := app_front W.drew b off n c j es (h.below (below_drew (Below.refl _ _))) hj ⟨b, off + j * 3, none⟩ (liesR_part (n := n) (c := c) (h.below (below_drew (Below.refl _ _))).liesV (by rw [Hlen.out]; exact hj)) (c - j) 80
      clear a1 b1
      have a1 := fun ty => (app_front W b off n c j es h hj ⟨b, off + j * 3, none⟩ (liesR_part (n := n) (c := c) h.liesV (by rw [Hlen.out]; exact hj)) (c - j) ty).1
      have b1 := fun ty => (app_front W.drew b off n c j es (h.below (below_drew (Below.refl _ _))) hj ⟨b, off + j * 3, none⟩ (liesR_part (n := n) (c := c) (h.below (below_drew (Below.refl _ _))).liesV (by rw [Hlen.out]; exact hj)) (c - j) ty).1
      have HA2 := Lib.hid a2
      have HA3 := Lib.hid a3
      have HB2 := Lib.hid b2
      have HB3 := Lib.hid b3
      clear h hc hf fin a2 a3 b2 b3
      go_enter Try.func86, Try.ntmps86
      have HB1 := Lib.hid b1
      clear a1 b1 HA2 HA3
      go_wp2_with fail
      go_region_law (refine step_app_run rfl (.tmp 22) (.tmp 25) 80 80 rfl _ _ _ rfl rfl (HB1.out _) ?_)
      all_goals
        obtain ⟨vs, hvl, hcl⟩ := HC.out _ HB3.out
        have HD := Lib.hid (HE.out _ HB2.out vs)
        have HK := Lib.hid (Hfin.out _ vs ((Kr.bel (S := fun k => blk (some ⟨b, off, none⟩) = some k) (below_drew (Below.refl W.heap.size W))).trans (Kr.grown (S := fun k => k = b) (grownBy_setCells W.drew b off (rdc (es.drop j))) (fun k hk => by injection hk with hk; exact hk.symm)) (fun k hk => .inl (by rw [hk]; rfl))))
        generalize W.drew.setCells b off (rdc (es.drop j)) = W2 at *
        clear HC HE Hfin HB2 HB3 HB1 HS
        have e3 : n - (n - j) = j := by omega
        go_wp2_with fail
        go_ret
        exact ⟨rfl, HD.out, HK.out⟩
end Go.Proofs.Ytlnohjboldenpaa
