/-
  Layer 13: the document's Drop walked.
-/
import Derived.Test.YtlnohjboldenpaaPRdRef3
set_option linter.unusedSimpArgs false
set_option linter.unusedVariables false
namespace Go.Proofs.Ytlnohjboldenpaa
open Go.RowKit Go.Sort
/-- What the document's Drop hands back. -/
def RetDD (r : Rd.R) (w : World) (e : Ending) (w' : World) : Prop :=
  ∃ Q q, e = .returned (.slice Q (Rd.ids r).length q) ∧ Lies w' Q (uc (Rd.ids r)) ∧ (Rd.ids r).length ≤ q ∧ (∀ b, blk Q = some b → w.heap.size ≤ b ∧ b < w'.heap.size) ∧ Below w.heap.size w w'
set_option maxRecDepth 100000 in
set_option maxHeartbeats 4000000 in
theorem dDrop_any (w : World) (r : Rd.R) (A : Option Addr) (c : Nat) (B : Option Addr) (d : Nat) (h : DV w r A c B d) :
    Calls Try.prog 83 #[.agg #[.slice A r.b.length c, .slice B r.w.length d]] w (RetDD r w) := by
  obtain ⟨i0, hi0, hz0, hz1, hz2⟩ := info_partsR infoU
  have H := Lib.hid h
  obtain ⟨I, hI⟩ : ∃ I, I = r.b.map (·.id) := ⟨_, rfl⟩
  have HIds : Hid (Rd.ids r = I ++ r.w) := Lib.hid (by rw [hI]; rfl)
  have HIl : Hid (I.length = r.b.length) := Lib.hid (by rw [hI, List.length_map])
  have HIg : Hid (∀ k (h : k < r.b.length) (h2 : k < I.length), I[k] = r.b[k].id) := Lib.hid (by subst hI; intro k h h2; simp)
  unfold RetDD
  obtain ⟨D, hD⟩ : ∃ D, D = Rd.ids r := ⟨_, rfl⟩
  rw [← hD] at HIds ⊢
  obtain ⟨n, hn⟩ : ∃ n, n = r.b.length := ⟨_, rfl⟩
  obtain ⟨m, hm⟩ : ∃ m, m = r.w.length := ⟨_, rfl⟩
  have Hn := Lib.hid hn
  have Hm := Lib.hid hm
  have hfew := h.few
  rw [← hn, ← hm] at hfew
  rw [← hn, ← hm]
  clear h hI hD hn hm
  go_enter Try.func83, Try.ntmps83
  go_upto_region 1 with (fail)
  refine forget (fun W => Rw W w.heap.size #[.slice A n c, .slice B m d] 86 ∧ Below w.heap.size w W) ⟨Rw.new w _ _, bnew (Below.refl _ _) _⟩ ?_
  intro W1 H1
  have HBw := Lib.hid H1.2
  have c0 := H1.1.cell 0 (v := .slice A n c) rfl
  have c1 := H1.1.cell 1 (v := .slice B m d) rfl
  generalize w.heap.size = g at c0 c1 ⊢
  have HLb := Lib.hid (H.out.lb.below HBw.out)
  have HLw := Lib.hid (H.out.lw.below HBw.out)
  have hnc : n ≤ c := by rw [Hn.out]; exact H.out.rb
  clear H1
  go_wp2_with fail
  go_loopw [3, 4] (fun ov iv wr => ∃ (k : Nat) (Q : Option Addr) (q : Nat), k ≤ n ∧ iv = .int .i64 (k : Int) ∧ ov = .slice Q k q ∧ Sl wr 1 Q k q (uc (I.take k)) ∧ (∀ b, blk Q = some b → W1.heap.size ≤ b) ∧ Below W1.heap.size W1 wr) (fun _ iv _ => n - (intOf iv).toNat)
  case atStart => exact ⟨0, none, 0, Nat.zero_le _, rfl, rfl, Sl.nil _ _, (fun b hb => by cases hb), Below.refl _ _⟩
  case round =>
    obtain ⟨k, Q, q, hkn, rfl, rfl, hS, hQ, hW⟩ := hrel
    have HSW := Lib.hid (And.intro hS (And.intro hQ hW))
    have c0' := later hW c0
    have c1' := later hW c1
    by_cases hlt : k < n
    · have hkr : k < r.b.length := by rw [← Hn.out]; exact hlt
      have hki : k < I.length := by rw [HIl.out]; exact hkr
      obtain ⟨b, off, rfl, hE⟩ := (HLb.out.below hW).rd k hkr
      have HT1 : Hid (uc (I.take (k + 1)) = uc (I.take k) ++ [.int .u64 ((r.b[k].id : Nat) : Int)]) := Lib.hid (by rw [List.take_succ_eq_append_getElem hki, uc_app, HIg.out k hkr hki]; rfl)
      obtain ⟨y, hy⟩ : ∃ y, y = r.b[k].id := ⟨_, rfl⟩
      obtain ⟨_, d0, dx1, dx2⟩ := hE
      clear dx1 dx2
      rw [← hy] at d0 HT1
      have HN : Hid (Sl (wr.alloc (.cells #[.int .u64 (y : Int)] 22)) 1 Q k q (uc (I.take k)) ∧ Src Try.prog 1 81 (.slice (some ⟨wr.heap.size, 0, none⟩) 1 1) 1 [.int .u64 (y : Int)] (wr.alloc (.cells #[.int .u64 (y : Int)] 22)) ∧ Below W1.heap.size W1 (wr.alloc (.cells #[.int .u64 (y : Int)] 22))) := Lib.hid
        ⟨hS.below (bnew (Below.refl _ _) _), src_sl Try.underlying81 rfl (Lies.new wr [.int .u64 (y : Int)] 22) (fun h => by cases h) (fun u hu => by rw [List.mem_singleton.1 hu]; rfl), bnew hW _⟩
      clear hS hQ hW hy hkr hki
      go_wp2_with (at_builtin; refine wpList_app_sl rfl (.tmp 12) (.tmp 19) 81 81 rfl 22 i0 (.int .u64 0) 1 8 Try.underlying81 hi0 hz0 hz1 hz2 rfl (by decide) rfl HN.out.1 _ 1 _ rfl HN.out.2.1 (by simp only [maxLen]; omega) (by omega) ?_)
      intro Q2 q2 W4 hS4 hg4 hQ4
      have H4 : Hid (Sl W4 1 Q2 (k + 1) q2 (uc (I.take (k + 1))) ∧ (∀ b, blk Q2 = some b → W1.heap.size ≤ b) ∧ Below W1.heap.size W1 W4) := Lib.hid ⟨by rw [HT1.out]; exact hS4, fun b hb => (hQ4 b hb).elim (HSW.out.2.1 b) (fun h => by have := HSW.out.2.2.size; first | omega | (rw [World.size_alloc] at h; omega)), Below.grown HN.out.2.2 hg4 HN.out.2.2.size HSW.out.2.1⟩
      clear hS4 hg4 hQ4 HN HSW HT1 d0 c0' c1'
      go_wp2_with fail
      go_roundw
      case rel => exact ⟨k + 1, Q2, q2, by omega, by go_num, rfl, H4.out.1, H4.out.2.1, H4.out.2.2⟩
      case measure => simp [intOf]; omega
    · have hkn2 : k = n := by omega
      have HKN := Lib.hid hkn2
      have HI1 : Hid (I.take k = I) := Lib.hid (List.take_of_length_le (by rw [HIl.out, ← Hn.out]; omega))
      have HN : Hid (Sl wr 1 Q k q (uc I) ∧ Src Try.prog 1 81 (.slice B m d) m (uc r.w) wr) := Lib.hid
        ⟨by have := hS; rw [HI1.out] at this; exact this, src_sl Try.underlying81 (by rw [uc_length, ← Hm.out]) (HLw.out.below hW) (fun hB => by rw [Hm.out]; exact H.out.nw hB) (uc_ones _)⟩
      have HDl : Hid (D.length = k + m) := Lib.hid (by rw [HIds.out, List.length_append, HIl.out, ← Hn.out, ← Hm.out, HKN.out])
      clear hS hQ hW hkn2 HI1 HLb HLw
      go_wp2_with (at_builtin; refine wpList_app_sl rfl (.tmp 21) (.tmp 23) 81 81 rfl 22 i0 (.int .u64 0) 1 8 Try.underlying81 hi0 hz0 hz1 hz2 rfl (by decide) rfl HN.out.1 _ m _ rfl HN.out.2 (by simp only [maxLen]; omega) (by omega) ?_)
      intro Q2 q2 w9 hS9 hg9 hQ9
      have HF : Hid (Sl w9 1 Q2 (k + m) q2 (uc D) ∧ (∀ b, blk Q2 = some b → w.heap.size ≤ b) ∧ Below w.heap.size w w9) := Lib.hid (by
        have hws := HBw.out.size
        refine ⟨by rw [HIds.out, uc_app]; exact hS9, fun b hb => (hQ9 b hb).elim (fun h => by have := HSW.out.2.1 b h; omega) (fun h => by have := HSW.out.2.2.size; omega), bnext HBw.out (Below.grown HSW.out.2.2 hg9 HSW.out.2.2.size HSW.out.2.1)⟩)
      clear hS9 hg9 hQ9 HN HSW
      go_wp2_with fail
      go_ret
      exact ⟨Q2, q2, by rw [HDl.out]; rfl, HF.out.1.liesV, by rw [HDl.out]; exact HF.out.1.le, (fun b hb => ⟨HF.out.2.1 b hb, HF.out.1.lt hb⟩), HF.out.2.2⟩
end Go.Proofs.Ytlnohjboldenpaa
