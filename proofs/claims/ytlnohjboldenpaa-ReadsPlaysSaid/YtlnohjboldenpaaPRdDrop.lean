/-
  Reads: Drop walked.
-/
import Derived.Test.YtlnohjboldenpaaPRdTold
set_option linter.unusedSimpArgs false
set_option linter.unusedVariables false
namespace Go.Proofs.Ytlnohjboldenpaa
open Go.RowKit Go.Sort
theorem rdrop_nil (w : World) : Calls Try.prog 50 #[.pointer none] w (RetR (.slice none 0 0) w) := by
  go_enter Try.func50, Try.ntmps50
  go_wp2_with fail
  go_ret
  exact ⟨rfl, Below.refl _ _⟩
theorem rd_clear {w0 : World} {p : Nat} {S : Nat → Prop} {r : Rd.R} {A B : Option Addr} {c d : Nat} (h : RdX w0 p S r A c B d) :
    RdAt ((w0.setCell ⟨p, 0, none⟩ (.slice none 0 0)).setCell ⟨p, 1, none⟩ (.slice none 0 0)) p S ⟨[], []⟩ ∧ Kr S w0 ((w0.setCell ⟨p, 0, none⟩ (.slice none 0 0)).setCell ⟨p, 1, none⟩ (.slice none 0 0)) := by
  have hp := h.sp
  have k1 := Kr.set w0 ⟨p, 0, none⟩ (.slice none 0 0) (S := S) hp
  have k2 := Kr.set (w0.setCell ⟨p, 0, none⟩ (.slice none 0 0)) ⟨p, 1, none⟩ (.slice none 0 0) (S := S) hp
  refine ⟨⟨⟨none, 0, none, 0, (h.row.put 0 _).put 1 _, Sl.nil _ _, Sl.nil _ _, (fun e => by cases e), (fun e => by cases e), (fun k e => by cases e), (fun k e => by cases e), (fun k e => by cases e), hp, (fun k hk => ?_), Rd.none_fits⟩⟩, k1.trans k2 fun k hk => .inl hk⟩
  rw [World.size_setCell, World.size_setCell]; exact h.lt k hk
/-- What Drop hands back. -/
def RetDrop (p : Nat) (S : Nat → Prop) (r : Rd.R) (w : World) (e : Ending) (w' : World) : Prop :=
  ∃ A c, e = .returned (.slice A (Rd.ids r).length c) ∧ Sl w' 1 A (Rd.ids r).length c (uc (Rd.ids r)) ∧ (∀ b, blk A = some b → w.heap.size ≤ b) ∧ RdAt w' p S ⟨[], []⟩ ∧ Kr S w w'
set_option maxRecDepth 100000 in
set_option maxHeartbeats 4000000 in
theorem rdrop_any {p : Nat} {S : Nat → Prop} {r : Rd.R} (w : World) (h : RdAt w p S r) :
    Calls Try.prog 50 #[.pointer (some ⟨p, 0, none⟩)] w (RetDrop p S r w) := by
  obtain ⟨i0, hi0, hz0, hz1, hz2⟩ := info_partsR infoU
  have hfew := h.fit.few
  obtain ⟨A, c, B, d, h⟩ := h.own
  have HX := Lib.hid h
  obtain ⟨I, hI⟩ : ∃ I, I = r.b.map (·.id) := ⟨_, rfl⟩
  have HIds : Hid (Rd.ids r = I ++ r.w) := Lib.hid (by rw [hI]; rfl)
  have HIl : Hid (I.length = r.b.length) := Lib.hid (by rw [hI, List.length_map])
  have HIg : Hid (∀ k (h : k < r.b.length) (h2 : k < I.length), I[k] = r.b[k].id) := Lib.hid (by subst hI; intro k h h2; simp)
  unfold RetDrop
  obtain ⟨D, hD⟩ : ∃ D, D = Rd.ids r := ⟨_, rfl⟩
  rw [← hD] at HIds ⊢
  obtain ⟨n, hn⟩ : ∃ n, n = r.b.length := ⟨_, rfl⟩
  obtain ⟨m, hm⟩ : ∃ m, m = r.w.length := ⟨_, rfl⟩
  have Hn := Lib.hid hn
  have Hm := Lib.hid hm
  rw [← hn, ← hm] at hfew
  have c0 := h.c0
  have c1 := h.c1
  rw [← hn] at c0
  rw [← hm] at c1
  have hnc : n ≤ c := by rw [hn]; exact h.sb.le
  clear h hI hD hn hm
  go_enter Try.func50, Try.ntmps50
  go_wp2_with fail
  go_loopw [3, 13] (fun ov iv wr => ∃ (k : Nat) (Q : Option Addr) (q : Nat), k ≤ n ∧ iv = .int .i64 (k : Int) ∧ ov = .slice Q k q ∧ Sl wr 1 Q k q (uc (I.take k)) ∧ (∀ b, blk Q = some b → w.heap.size ≤ b) ∧ Below w.heap.size w wr) (fun _ iv _ => n - (intOf iv).toNat)
  case atStart => exact ⟨0, none, 0, Nat.zero_le _, rfl, rfl, Sl.nil _ _, (fun b hb => by cases hb), Below.refl _ _⟩
  case round =>
    obtain ⟨k, Q, q, hkn, rfl, rfl, hS, hQ, hW⟩ := hrel
    have HSW := Lib.hid (And.intro hS (And.intro hQ hW))
    have hX := HX.out.bel hW
    by_cases hlt : k < n
    · have hkr : k < r.b.length := by rw [← Hn.out]; exact hlt
      have hki : k < I.length := by rw [HIl.out]; exact hkr
      obtain ⟨b, off, rfl, hE⟩ := hX.sb.liesV.rd k hkr
      have HT1 : Hid (uc (I.take (k + 1)) = uc (I.take k) ++ [.int .u64 ((r.b[k].id : Nat) : Int)]) := Lib.hid (by rw [List.take_succ_eq_append_getElem hki, uc_app, HIg.out k hkr hki]; rfl)
      obtain ⟨y, hy⟩ : ∃ y, y = r.b[k] := ⟨_, rfl⟩
      rw [← hy] at hE HT1
      obtain ⟨_, d0, d1, d2⟩ := hE
      clear hS hQ hW hX hy hkr hki
      go_upto_region 7 with (fail)
      refine forget (fun W2 => Rw W2 wr.heap.size #[.int .u64 (y.id : Int), .int .u64 (y.idx : Int), .int .u64 (y.rnd : Int)] 97 ∧ Below wr.heap.size wr W2) ⟨Rw.new wr _ _, bnew (Below.refl _ _) _⟩ ?_
      intro W2 H2
      have HS2 : Hid (Sl W2 1 Q k q (uc (I.take k)) ∧ (∀ b, blk Q = some b → w.heap.size ≤ b) ∧ Below w.heap.size w W2) := Lib.hid ⟨HSW.out.1.below H2.2, HSW.out.2.1, bnext HSW.out.2.2 H2.2⟩
      have e0 := H2.1.cell 0 (v := .int .u64 (y.id : Int)) rfl
      generalize wr.heap.size = gx at e0 ⊢
      have HN : Hid (Sl (W2.alloc (.cells #[.int .u64 (y.id : Int)] 22)) 1 Q k q (uc (I.take k)) ∧ Src Try.prog 1 81 (.slice (some ⟨W2.heap.size, 0, none⟩) 1 1) 1 [.int .u64 (y.id : Int)] (W2.alloc (.cells #[.int .u64 (y.id : Int)] 22)) ∧ Below w.heap.size w (W2.alloc (.cells #[.int .u64 (y.id : Int)] 22))) := Lib.hid
        ⟨HS2.out.1.below (bnew (Below.refl _ _) _), src_sl Try.underlying81 rfl (Lies.new W2 [.int .u64 (y.id : Int)] 22) (fun h => by cases h) (fun u hu => by rw [List.mem_singleton.1 hu]; rfl), bnew HS2.out.2.2 _⟩
      clear H2 HSW d0 d1 d2 HX HIds
      go_wp2_with (at_builtin; refine wpList_app_sl rfl (.tmp 17) (.tmp 20) 81 81 rfl 22 i0 (.int .u64 0) 1 8 Try.underlying81 hi0 hz0 hz1 hz2 rfl (by decide) rfl HN.out.1 _ 1 _ rfl HN.out.2.1 (by simp only [maxLen]; omega) (by omega) ?_)
      intro Q2 q2 W4 hS4 hg4 hQ4
      have H4 : Hid (Sl W4 1 Q2 (k + 1) q2 (uc (I.take (k + 1))) ∧ (∀ b, blk Q2 = some b → w.heap.size ≤ b) ∧ Below w.heap.size w W4) := Lib.hid ⟨by rw [HT1.out]; exact hS4, fun b hb => (hQ4 b hb).elim (HS2.out.2.1 b) (fun h => by have := HN.out.2.2.size; simp only [World.size_alloc] at this h; omega), Below.grown HN.out.2.2 hg4 HN.out.2.2.size HS2.out.2.1⟩
      clear hS4 hg4 hQ4 HN HS2 HT1
      go_wp2_with fail
      go_roundw
      case rel => exact ⟨k + 1, Q2, q2, by omega, by go_num, rfl, H4.out.1, H4.out.2.1, H4.out.2.2⟩
      case measure => simp [intOf]; omega
    · have hkn2 : k = n := by omega
      have HI1 : Hid (I.take k = I) := Lib.hid (List.take_of_length_le (by rw [HIl.out, ← Hn.out]; omega))
      have HN : Hid (Sl wr 1 Q k q (uc I) ∧ Src Try.prog 1 81 (.slice B m d) m (uc r.w) wr) := Lib.hid
        ⟨by have := hS; rw [HI1.out] at this; exact this, src_sl Try.underlying81 (by rw [uc_length, ← Hm.out]) hX.sw.liesV (fun hB => by
          rcases hX.sw.lies with ⟨_, h0⟩ | ⟨b, off, hb, _⟩
          · have := hX.sw.le; have := Hm.out; omega
          · rw [hB] at hb; cases hb) (uc_ones _)⟩
      have HKN := Lib.hid hkn2
      have c1' := later hW c1
      clear hS hQ hW hX hkn2
      go_upto_region 10 with (at_builtin; refine wpList_app_sl rfl (.tmp 23) (.tmp 27) 81 81 rfl 22 i0 (.int .u64 0) 1 8 Try.underlying81 hi0 hz0 hz1 hz2 rfl (by decide) rfl HN.out.1 _ m _ rfl HN.out.2 (by simp only [maxLen]; omega) (by omega) ?_; intro Q2 q2 w9 hS9 hg9 hQ9)
      have hb9 : Below w.heap.size w w9 := Below.grown HSW.out.2.2 hg9 HSW.out.2.2.size HSW.out.2.1
      have hX9 := HX.out.bel hb9
      have k0 := hX9.c0
      have k1 := hX9.c1
      have f0 := hX9.row.free 0
      have f1 := hX9.row.free 1
      rw [← Hn.out] at k0
      rw [← Hm.out] at k1
      obtain ⟨m1, m2⟩ := rd_clear hX9
      have HF : Hid (Sl ((w9.setCell ⟨p, 0, none⟩ (.slice none 0 0)).setCell ⟨p, 1, none⟩ (.slice none 0 0)) 1 Q2 D.length q2 (uc D) ∧ (∀ b, blk Q2 = some b → w.heap.size ≤ b) ∧ RdAt ((w9.setCell ⟨p, 0, none⟩ (.slice none 0 0)).setCell ⟨p, 1, none⟩ (.slice none 0 0)) p S ⟨[], []⟩ ∧ Kr S w ((w9.setCell ⟨p, 0, none⟩ (.slice none 0 0)).setCell ⟨p, 1, none⟩ (.slice none 0 0))) := Lib.hid (by
        have hz : ∀ b, blk Q2 = some b → w.heap.size ≤ b := fun b hb => (hQ9 b hb).elim (HSW.out.2.1 b) (fun h => Nat.le_trans HSW.out.2.2.size h)
        have hl : D.length = k + m := by rw [HIds.out, List.length_append, HIl.out, ← Hn.out, ← Hm.out, HKN.out]
        refine ⟨?_, hz, m1, (Kr.bel hb9).trans m2 fun k hk => .inl hk⟩
        refine m2.sl ?_ fun q hq hs => ?_
        · rw [hl, HIds.out, uc_app]; exact hS9
        · have h1 := hz q hq; have h2 := HX.out.lt q hs; omega)
      have HDl : Hid (D.length = k + m) := Lib.hid (by rw [HIds.out, List.length_append, HIl.out, ← Hn.out, ← Hm.out, HKN.out])
      clear hS9 hg9 hQ9 hb9 hX9 m1 m2 HSW HX HN HI1 HIds HIl HIg c0 c1 c1'
      go_wp2_with fail
      go_ret
      exact ⟨Q2, q2, by rw [HDl.out]; rfl, HF.out.1, HF.out.2.1, HF.out.2.2.1, HF.out.2.2.2⟩
end Go.Proofs.Ytlnohjboldenpaa
