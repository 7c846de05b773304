/-
  conf's Level walked.
-/
import Derived.Test.YtdodpocckjcomaaRCfList
import Derived.Test.YtdodpocckjcomaaRSoTop
set_option linter.unusedSimpArgs false
set_option linter.unusedVariables false
namespace Go.Proofs.Ytdodpocckjcomaa
open Go.RowKit
theorem cf_infoU64 : (Try.prog.info? 22).map (fun i => (i.zero, i.size, i.bytes)) = some (some (.int .u64 0), 1, 8) := by kernel_rfl
/-- Marks: six cells. -/
structure Mk (cs : Array Value) (x : Nat → Nat) : Prop where
  size : cs.size = 6
  at_ : ∀ n, n < 6 → cs[n]? = some (.int .u64 (x n : Int))
  top : ∀ n, n < 6 → x n < 18446744073709551616
theorem uc_length (l : List Nat) : (uc l).length = l.length := by simp [uc]
theorem uc_append (l m : List Nat) : uc (l ++ m) = uc l ++ uc m := by simp [uc]
theorem own_form {w : World} {B : Nat} {e : TypeId} {v : Value} {l : List Value} (h : w.ownsRow B e 1 v l.length l) : ∃ A cap, v = .slice A l.length cap ∧ Lies w A l := by
  rcases h.2 with ⟨rfl, hn⟩ | ⟨g, cap, cur, rfl, hlt, hg, _, _, _, htake⟩
  · have : l = [] := List.eq_nil_of_length_eq_zero hn
    subst this
    exact ⟨none, 0, rfl, .inl rfl⟩
  · refine ⟨_, _, rfl, .inr ⟨g, 0, rfl, (World.ownsRow.lt h g rfl).2, fun i u hu => ?_⟩⟩
    have := World.ownsRow.cells h (g := g) rfl i u hu
    by_cases h0 : i = 0
    · subst h0; simpa [Addr.add] using this
    · simpa [Addr.add, h0] using this
theorem own_formU {w : World} {B : Nat} {v : Value} {l : List Nat} {e : TypeId} (h : w.ownsRow B e 1 v l.length (uc l)) : ∃ A cap, v = .slice A l.length cap ∧ Lies w A (uc l) := by
  have h2 : w.ownsRow B e 1 v (uc l).length (uc l) := by rw [uc_length]; exact h
  obtain ⟨A, cap, hv, hl⟩ := own_form h2
  exact ⟨A, cap, by rw [hv, uc_length], hl⟩
set_option maxRecDepth 100000 in
set_option maxHeartbeats 4000000 in
theorem level_any (m : Nat) (hm : m < 256) (cs : Array Value) (x : Nat → Nat) (hM : Mk cs x) (w : World) : Calls Try.prog 21 #[.int .u8 (m : Int), .agg cs] w fun e w' => ∃ v : Nat, e = .returned (.int .u64 (v : Int)) ∧ Cf.IsLevel m x v ∧ v < 18446744073709551616 ∧ Below w.heap.size w w' := by
  obtain ⟨i0, hi, hz0, hz1, hz2⟩ := info_parts cf_infoU64
  have HL := Lib.hid (fun w => list_any10 m hm w)
  have hlen := Cf.mem_len m
  have hnode := Cf.mem_le m
  have HIs : Hid (∀ v, (Cf.mem m = [] ∧ v = 0) ∨ Cf.Lvl ((Cf.mem m).map x) v → Cf.IsLevel m x v) := Lib.hid fun v h => h
  obtain ⟨l, hl⟩ : ∃ l, l = Cf.mem m := ⟨_, rfl⟩
  rw [← hl] at HL hlen hnode HIs
  have HN := Lib.hid hnode
  have HI := Lib.hid (And.intro hi (And.intro hz0 (And.intro hz1 hz2)))
  clear hl hnode hi hz0 hz1 hz2
  have HM := Lib.hid hM
  have hcsz := hM.size
  clear hM
  go_enter Try.func21, Try.ntmps21
  go_wp2_with fail
  have HX : Hid ((w.alloc (.cells cs 23)).heap[w.heap.size]? = some (.cells cs 23 (0, 0))) := Lib.hid (heap_alloc_new w _)
  refine (HL.out _).mono ?_
  rintro e w1 ⟨lv, rfl, hlo, hb1⟩
  obtain ⟨A, cap, rfl, hli⟩ := hlo.lies
  have H1 : Hid (Below w.heap.size w w1 ∧ w1.heap[w.heap.size]? = some (.cells cs 23 (0, 0)) ∧ Lies w1 A (nc l)) := Lib.hid ⟨((Below.refl w.heap.size w).alloc (Nat.le_refl _) _).trans (hb1.mono (by simp)), (hb1.block w.heap.size (by simp)).trans HX.out, hli⟩
  clear hlo hli hb1 HX
  go_wp2_with fail
  go_loopw [5, 11] (fun v i wr => ∃ j, j ≤ l.length ∧ i = .int .i64 (j : Int) ∧ Below w1.heap.size w1 wr ∧ wr.ownsRow w1.heap.size 22 1 v ((l.take j).map x).length (uc ((l.take j).map x))) (fun _ i _ => l.length - (intOf i).toNat)
  case atStart => exact ⟨0, Nat.zero_le _, rfl, Below.refl _ _, World.ownsRow_nil _ _ _ _⟩
  case round =>
    obtain ⟨j, hj, rfl, hb, ho⟩ := hrel
    by_cases hlt : j < l.length
    · obtain ⟨n, hn⟩ : ∃ n, n = l[j] := ⟨_, rfl⟩
      have hn5 := HN.out n (by rw [hn]; exact List.getElem_mem hlt)
      have hn1 : n ≤ 5 := hn5.2.1
      have hcell : ∃ bb oo, A = some ⟨bb, oo, none⟩ ∧ wr.cell? ⟨bb, oo + j, none⟩ = some (.int .u8 (n : Int)) := by
        rcases H1.out.2.2.below hb with h | ⟨bb, oo, rfl, _, hc⟩
        · exfalso
          have := congrArg List.length h
          simp [nc] at this; simp [this] at hlt
        · exact ⟨bb, oo, rfl, hc j _ (by simp [nc, hlt, hn])⟩
      obtain ⟨bb, oo, rfl, hcell⟩ := hcell
      have hbox : wr.heap[w.heap.size]? = some (.cells cs 23 (0, 0)) := (hb.block w.heap.size (Array.getElem?_eq_some_iff.1 H1.out.2.1).1).trans H1.out.2.1
      obtain ⟨gb, hgb⟩ : ∃ gb, gb = w.heap.size := ⟨_, rfl⟩
      have hcb : wr.cell? ⟨w.heap.size, n, none⟩ = some (.int .u64 (x n : Int)) := by rw [cell_of_row _ w.heap.size n _ _ _ hbox]; exact HM.out.at_ n (by omega)
      have Hy : Hid ((l.take (j + 1)).map x = (l.take j).map x ++ [x n]) := Lib.hid (by rw [List.take_succ_eq_append_getElem hlt, List.map_append, hn]; rfl)
      have hq : ((l.take j).map x).length ≤ 5 := by rw [List.length_map, List.length_take]; omega
      obtain ⟨q, hqq⟩ : ∃ q, q = (l.take j).map x := ⟨_, rfl⟩
      rw [← hqq] at ho hq Hy
      have HB := Lib.hid (And.intro hb ho)
      have hsz := hb.size
      obtain ⟨y, hy⟩ : ∃ y, y = x n := ⟨_, rfl⟩
      rw [← hy] at hcb Hy
      clear hn hqq hbox hgb hb ho hn5 hy
      go_wp2_with (at_builtin; refine wpList_append_own _ rfl (.tmp 15) (.tmp 19) 42 rfl w1.heap.size 22 i0 (.int .u64 0) 1 8 Try.underlying42 HI.out.1 HI.out.2.1 HI.out.2.2.1 HI.out.2.2.2 rfl (by decide) _ _ _ rfl (World.ownsRow.alloc HB.out.2 _) ⟨wr.heap.size, 0, none⟩ 1 1 [_] rfl rfl (cell_one_new _ _ _) (fun u hu => by simp at hu; subst hu; rfl) (by simp only [maxLen]; omega) (by omega) (by simp; omega) ?_; intro v' w5 ho1 hg1 _)
      have HF : Hid (w5.ownsRow w1.heap.size 22 1 v' (q ++ [y]).length (uc (q ++ [y])) ∧ Below w1.heap.size w1 w5) := Lib.hid ⟨by rw [List.length_append, uc_append]; exact ho1, (HB.out.1.alloc hsz _).grown hg1 (by simp; omega) (fun k hk => (World.ownsRow.lt HB.out.2 k hk).1)⟩
      clear ho1 hg1
      go_roundw
      case rel => exact ⟨j + 1, by omega, by go_num, HF.out.2, by rw [Hy.out]; exact HF.out.1⟩
      case measure => simp [intOf]; omega
    · obtain rfl : j = l.length := by omega
      rw [List.take_of_length_le (Nat.le_refl _)] at ho
      obtain ⟨L, hL⟩ : ∃ L, L = l.map x := ⟨_, rfl⟩
      rw [← hL] at ho
      have hLl : L.length = l.length := by rw [hL, List.length_map]
      have hLt : ∀ y ∈ L, y < 18446744073709551616 := by
        intro y hy
        rw [hL] at hy
        obtain ⟨n, hn, rfl⟩ := List.mem_map.1 hy
        exact HM.out.top n (by have := HN.out n hn; omega)
      rw [← hL] at HIs
      have HS := Lib.hid (so_own ho (by omega))
      have HB := Lib.hid hb
      have HT := Lib.hid hLt
      have HO := Lib.hid ho
      clear ho hb hL hLt
      obtain ⟨C, cc, rfl, _⟩ := own_formU HO.out
      have Hll : Hid (L = [] → l = []) := Lib.hid fun h => List.eq_nil_of_length_eq_zero (by rw [← hLl, h]; rfl)
      have hN5 : L.length ≤ 5 := by omega
      obtain ⟨N, hN⟩ : ∃ N, N = L.length := ⟨_, rfl⟩
      rw [← hN] at HS hN5 ⊢
      have HN2 := Lib.hid hN
      clear HO hLl hN
      by_cases h0 : N = 0
      · have hz : ((N : Int) == 0) = true := by simp; omega
        have HZ := Lib.hid h0
        clear h0
        go_wp2_with fail
        go_ret
        exact ⟨0, rfl, HIs.out 0 (.inl ⟨Hll.out (List.eq_nil_of_length_eq_zero (by rw [← HN2.out]; exact HZ.out)), rfl⟩), by decide, H1.out.1.trans (HB.out.mono H1.out.1.size)⟩
      · have hne : ((N : Int) == 0) = false := by simp; omega
        go_wp2_with fail
        refine HS.out.mono ?_
        rintro e w2 ⟨rfl, s, ho2, hp, hso, hb2⟩
        have hsl := hp.length_eq.trans HN2.out.symm
        have hj : (s.length - 1) / 2 < s.length := by omega
        have hlv := Cf.Lvl.of_sorted hp hso hj
        obtain ⟨v, hv⟩ : ∃ v, v = s[(s.length - 1) / 2] := ⟨_, rfl⟩
        rw [← hv] at hlv
        obtain ⟨D, dc, hD, hls⟩ := own_formU ho2
        injection hD with hD1 hD2 hD3
        subst hD1
        have hcell : ∃ bb oo, C = some ⟨bb, oo, none⟩ ∧ w2.cell? ⟨bb, oo + (N - 1) / 2, none⟩ = some (.int .u64 (v : Int)) := by
          rcases hls with h | ⟨bb, oo, rfl, _, hc⟩
          · exfalso
            have := congrArg List.length h
            rw [uc_length] at this; simp at this; rw [this] at hsl; exact h0 hsl.symm
          · refine ⟨bb, oo, rfl, hc _ _ ?_⟩
            unfold uc
            rw [List.getElem?_map, ← hsl, List.getElem?_eq_getElem hj, hv]
            rfl
        obtain ⟨bb, oo, rfl, hcell⟩ := hcell
        obtain ⟨k, hk⟩ : ∃ k, k = (N - 1) / 2 := ⟨_, rfl⟩
        rw [← hk] at hcell
        have e1 : ((N : Int) - 1).tdiv 2 = (k : Int) := by rw [hk, Int.tdiv_eq_ediv_of_nonneg (by omega)]; omega
        have e2 : ((N : Int) - 1) / 2 = (k : Int) := by rw [hk]; omega
        have hkl : k < N := by omega
        have HE := Lib.hid (And.intro hlv (And.intro (HT.out v hlv.mem) ((H1.out.1.trans (HB.out.mono H1.out.1.size)).trans (hb2.mono H1.out.1.size))))
        clear hp hso hb2 ho2 hv hls hk hlv hj hsl hD2 hD3
        go_wp2_with fail
        go_ret
        exact ⟨v, rfl, HIs.out v (.inr HE.out.1), HE.out.2.1, HE.out.2.2⟩
end Go.Proofs.Ytdodpocckjcomaa
