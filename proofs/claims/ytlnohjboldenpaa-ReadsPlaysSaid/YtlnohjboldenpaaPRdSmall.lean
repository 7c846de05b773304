/-
  Reads: New, Len, has, Ask walked.
-/
import Derived.Test.YtlnohjboldenpaaPRdBase
set_option linter.unusedSimpArgs false
set_option linter.unusedVariables false
namespace Go.Proofs.Ytlnohjboldenpaa
open Go.RowKit Go.Sort
theorem rnew_any (w : World) : Calls Try.prog 42 #[] w fun e w' => ∃ p, e = .returned (.pointer (some ⟨p, 0, none⟩)) ∧ RdAt w' p (fun k => k = p) ⟨[], []⟩ ∧ w.heap.size ≤ p ∧ Below w.heap.size w w' := by
  go_enter Try.func42, Try.ntmps42
  go_wp2_with fail
  go_ret
  refine ⟨_, rfl, ⟨⟨none, 0, none, 0, Rw.new w _ _, Sl.nil _ _, Sl.nil _ _, (fun h => by cases h), (fun h => by cases h), (fun k h => by cases h), (fun k h => by cases h), (fun k h => by cases h), rfl, (fun k hk => by rw [hk]; simp), Rd.none_fits⟩⟩, Nat.le_refl _, bnew (Below.refl _ _) _⟩
set_option maxRecDepth 100000 in
theorem rlen_any {p : Nat} {S : Nat → Prop} {r : Rd.R} (w : World) (h : RdAt w p S r) : Calls Try.prog 45 #[.pointer (some ⟨p, 0, none⟩)] w (RetR (.tuple #[.int .i64 (r.b.length : Int), .int .i64 (r.w.length : Int)]) w) := by
  obtain ⟨A, c, B, d, h⟩ := h.own
  have c0 := h.c0
  have c1 := h.c1
  clear h
  go_enter Try.func45, Try.ntmps45
  go_wp2_with fail
  go_quiet (fail)
  go_wp2_with fail
  go_ret2
  exact ⟨rfl, below_drewN (Below.refl _ _) _⟩
theorem rlen_nil (w : World) : Calls Try.prog 45 #[.pointer none] w (RetR (.tuple #[.int .i64 0, .int .i64 0]) w) := by
  go_enter Try.func45, Try.ntmps45
  go_wp2_with fail
  go_ret2
  exact ⟨rfl, Below.refl _ _⟩
theorem has1_any (w : World) (gb i : Nat) (hg : w.cell? ⟨gb, 0, none⟩ = some (.int .u64 (i : Int))) (e : Rd.E) :
    Calls Try.prog 94 #[.agg #[.int .u64 (e.id : Int), .int .u64 (e.idx : Int), .int .u64 (e.rnd : Int)], .pointer (some ⟨gb, 0, none⟩)] w (RetR (.bool (Rd.isIt i e)) w) := by
  have hg' := later (bnew (Below.refl _ _) (.cells #[.int .u64 (e.id : Int), .int .u64 (e.idx : Int), .int .u64 (e.rnd : Int)] 97)) hg
  have E : Hid (Rd.isIt i e = ((e.id : Int) == (i : Int))) := Lib.hid (by
    unfold Rd.isIt
    by_cases ht : e.id = i
    · rw [decide_eq_true ht, ht]; simp
    · rw [decide_eq_false ht]; symm; simp; omega)
  go_enter Try.func94, Try.ntmps94
  go_wp2_with fail
  go_ret
  exact ⟨by rw [E.out]; rfl, bnew (Below.refl _ _) _⟩
theorem anyR_drop (f : Rd.E → Bool) (es : List Rd.E) (i : Nat) (h : i < es.length) : (es.drop i).any f = (f es[i] || (es.drop (i + 1)).any f) := by
  rw [List.drop_eq_getElem_cons h, List.any_cons]
theorem anyU_drop (f : Nat → Bool) (es : List Nat) (i : Nat) (h : i < es.length) : (es.drop i).any f = (f es[i] || (es.drop (i + 1)).any f) := by
  rw [List.drop_eq_getElem_cons h, List.any_cons]
set_option maxRecDepth 100000 in
set_option maxHeartbeats 1000000 in
theorem indexR_any (w : World) (gb x : Nat) (hg : w.cell? ⟨gb, 0, none⟩ = some (.int .u64 (x : Int))) (A : Option Addr) (cp : Nat) (es : List Rd.E) (hA : Lies w A (rdc es)) (hn : es.length ≤ 1000000) :
    Calls Try.prog 101 #[.slice A es.length cp, .func (.func 94) #[] #[.pointer (some ⟨gb, 0, none⟩)]] w fun e w' => ∃ k : Int, e = .returned (.int .i64 k) ∧ (decide (0 ≤ k) = es.any (Rd.isIt x)) ∧ Below w.heap.size w w' := by
  have HA := Lib.hid hA
  have HS := Lib.hid (fun i h => anyR_drop (Rd.isIt x) es i h)
  have HJ : Hid (∀ W', Below w.heap.size w W' → ∀ i (hi : i < es.length), Calls Try.prog 94 #[.agg #[.int .u64 (es[i].id : Int), .int .u64 (es[i].idx : Int), .int .u64 (es[i].rnd : Int)], .pointer (some ⟨gb, 0, none⟩)] W' (RetR (.bool (Rd.isIt x es[i])) W')) := Lib.hid fun W' hb i hi => has1_any W' gb x (later hb hg) _
  obtain ⟨n, hnn⟩ : ∃ n, n = es.length := ⟨_, rfl⟩
  have Hn := Lib.hid hnn
  rw [← hnn] at hn ⊢
  clear hA hg hnn
  go_enter Try.func101, Try.ntmps101
  go_wp2_with fail
  go_loopw [8] (fun iv wr => ∃ (i : Nat), i ≤ n ∧ iv = .int .i64 (i : Int) ∧ es.any (Rd.isIt x) = (es.drop i).any (Rd.isIt x) ∧ Bl w wr) (fun iv _ => n - (intOf iv).toNat)
  case atStart => exact ⟨0, Nat.zero_le _, rfl, rfl, Bl.refl w⟩
  case round =>
    obtain ⟨i, hin, rfl, hT, hW⟩ := hrel
    have HT := Lib.hid hT
    have HW := Lib.hid hW
    by_cases hlt : i < n
    · have hie : i < es.length := by rw [← Hn.out]; exact hlt
      obtain ⟨b, off, rfl, hE⟩ := (HA.out.below hW).rd i hie
      have HSi := Lib.hid (HS.out i hie)
      have HJi := Lib.hid (HJ.out wr hW.bel i hie)
      obtain ⟨y, hy⟩ : ∃ y, y = es[i] := ⟨_, rfl⟩
      rw [← hy] at hE HSi HJi
      obtain ⟨_, d0, d1, d2⟩ := hE
      obtain ⟨hh, hhe⟩ : ∃ hh, hh = Rd.isIt x y := ⟨_, rfl⟩
      rw [← hhe] at HJi HSi
      clear hy hT hhe
      cases hh with
      | true =>
        have E : Hid (es.any (Rd.isIt x) = true) := Lib.hid (by rw [HT.out, HSi.out]; rfl)
        go_wp2_with (go_at_call 94; refine HJi.out.mono ?_; rintro r w2 ⟨rfl, hb2⟩)
        go_ret
        exact ⟨(i : Int), rfl, by rw [E.out]; simp, (HW.out.next hb2).bel⟩
      | false =>
        have E : Hid (es.any (Rd.isIt x) = (es.drop (i + 1)).any (Rd.isIt x)) := Lib.hid (by rw [HT.out, HSi.out]; rfl)
        go_wp2_with (go_at_call 94; refine HJi.out.mono ?_; rintro r w2 ⟨rfl, hb2⟩)
        go_roundw
        case rel => exact ⟨i + 1, by omega, by go_num, E.out, HW.out.next hb2⟩
        case measure => simp [intOf]; omega
    · obtain rfl : i = n := by omega
      have E : Hid (es.any (Rd.isIt x) = false) := Lib.hid (by rw [hT, List.drop_eq_nil_of_le (by rw [← Hn.out]; exact Nat.le_refl _)]; rfl)
      clear hT HT
      go_wp2_with fail
      go_ret
      exact ⟨-1, rfl, by rw [E.out]; rfl, HW.out.bel⟩
theorem containsR_any (w : World) (gb x : Nat) (hg : w.cell? ⟨gb, 0, none⟩ = some (.int .u64 (x : Int))) (A : Option Addr) (cp : Nat) (es : List Rd.E) (hA : Lies w A (rdc es)) (hn : es.length ≤ 1000000) :
    Calls Try.prog 96 #[.slice A es.length cp, .func (.func 94) #[] #[.pointer (some ⟨gb, 0, none⟩)]] w (RetR (.bool (es.any (Rd.isIt x))) w) := by
  have HI := Lib.hid (indexR_any w gb x hg A cp es hA hn)
  obtain ⟨T, hT⟩ : ∃ T, T = es.any (Rd.isIt x) := ⟨_, rfl⟩
  rw [← hT] at HI ⊢
  clear hT hg hA
  go_enter Try.func96, Try.ntmps96
  go_wp2_with (go_at_call 101; refine HI.out.mono ?_; rintro r w2 ⟨k, rfl, hk, hb2⟩)
  go_ret
  exact ⟨by rw [← hk]; simp, hb2⟩
set_option maxRecDepth 100000 in
set_option maxHeartbeats 1000000 in
theorem indexU_any (w : World) (x : Nat) (A : Option Addr) (cp : Nat) (ns : List Nat) (hA : Lies w A (uc ns)) (hn : ns.length ≤ 1000000) :
    Calls Try.prog 100 #[.slice A ns.length cp, .int .u64 (x : Int)] w fun e w' => ∃ k : Int, e = .returned (.int .i64 k) ∧ (decide (0 ≤ k) = ns.any (fun y => decide (y = x))) ∧ Below w.heap.size w w' := by
  have HA := Lib.hid hA
  obtain ⟨T, hT⟩ : ∃ T : Nat → Bool, T = (fun y => decide (y = x)) := ⟨_, rfl⟩
  have HTT := Lib.hid hT
  rw [← hT]
  have HS := Lib.hid (fun i h => anyU_drop T ns i h)
  obtain ⟨n, hnn⟩ : ∃ n, n = ns.length := ⟨_, rfl⟩
  have Hn := Lib.hid hnn
  rw [← hnn] at hn ⊢
  clear hA hnn hT
  go_enter Try.func100, Try.ntmps100
  go_wp2_with fail
  go_loopw [8] (fun iv wr => ∃ (i : Nat), i ≤ n ∧ iv = .int .i64 (i : Int) ∧ ns.any T = (ns.drop i).any T ∧ Bl w wr) (fun iv _ => n - (intOf iv).toNat)
  case atStart => exact ⟨0, Nat.zero_le _, rfl, rfl, Bl.refl w⟩
  case round =>
    obtain ⟨i, hin, rfl, hT, hW⟩ := hrel
    have HT := Lib.hid hT
    have HW := Lib.hid hW
    by_cases hlt : i < n
    · have hie : i < ns.length := by rw [← Hn.out]; exact hlt
      obtain ⟨b, off, rfl, d0⟩ := (HA.out.below hW).u i hie
      have HSi := Lib.hid (HS.out i hie)
      obtain ⟨y, hy⟩ : ∃ y, y = ns[i] := ⟨_, rfl⟩
      rw [← hy] at d0 HSi
      clear hy hT
      by_cases hxy : y = x
      · have E : Hid (ns.any T = true) := Lib.hid (by rw [HT.out, HSi.out, show T y = true by rw [HTT.out]; exact decide_eq_true hxy]; rfl)
        have q1 : ((x : Int) == (y : Int)) = true := by simp; omega
        have q2 : ((x : Int) = (y : Int)) = True := by simp; omega
        clear hxy
        go_wp2_with fail
        go_ret
        exact ⟨(i : Int), rfl, by rw [E.out]; simp, HW.out.bel⟩
      · have E : Hid (ns.any T = (ns.drop (i + 1)).any T) := Lib.hid (by rw [HT.out, HSi.out, show T y = false by rw [HTT.out]; exact decide_eq_false hxy]; rfl)
        have q1 : ((x : Int) == (y : Int)) = false := by simp; omega
        have q2 : ((x : Int) = (y : Int)) = False := by simp; omega
        clear hxy
        go_wp2_with fail
        go_roundw
        case rel => exact ⟨i + 1, by omega, by go_num, E.out, HW.out⟩
        case measure => simp [intOf]; omega
    · obtain rfl : i = n := by omega
      have E : Hid (ns.any T = false) := Lib.hid (by rw [hT, List.drop_eq_nil_of_le (by rw [← Hn.out]; exact Nat.le_refl _)]; rfl)
      clear hT HT
      go_wp2_with fail
      go_ret
      exact ⟨-1, rfl, by rw [E.out]; rfl, HW.out.bel⟩
theorem containsU_any (w : World) (x : Nat) (A : Option Addr) (cp : Nat) (ns : List Nat) (hA : Lies w A (uc ns)) (hn : ns.length ≤ 1000000) :
    Calls Try.prog 95 #[.slice A ns.length cp, .int .u64 (x : Int)] w (RetR (.bool (ns.any (fun y => decide (y = x)))) w) := by
  have HI := Lib.hid (indexU_any w x A cp ns hA hn)
  obtain ⟨T, hT⟩ : ∃ T, T = ns.any (fun y => decide (y = x)) := ⟨_, rfl⟩
  rw [← hT] at HI ⊢
  clear hT hA
  go_enter Try.func95, Try.ntmps95
  go_wp2_with (go_at_call 100; refine HI.out.mono ?_; rintro r w2 ⟨k, rfl, hk, hb2⟩)
  go_ret
  exact ⟨by rw [← hk]; simp, hb2⟩
set_option maxRecDepth 100000 in
set_option maxHeartbeats 1000000 in
theorem rhas_any {p : Nat} {S : Nat → Prop} {r : Rd.R} (w : World) (h : RdAt w p S r) (x : Nat) :
    Calls Try.prog 84 #[.pointer (some ⟨p, 0, none⟩), .int .u64 (x : Int)] w (RetR (.bool (Rd.has r x)) w) := by
  have hf := h.fit.few
  obtain ⟨A, c, B, d, h⟩ := h.own
  have hw1 := bnew (Below.refl w.heap.size w) (.cells #[.int .u64 (x : Int)] 22)
  have h1 := h.bel hw1
  have hg : (w.alloc (.cells #[.int .u64 (x : Int)] 22)).cell? ⟨w.heap.size, 0, none⟩ = some (.int .u64 (x : Int)) := (Rw.new w _ _).cell 0 rfl
  have HU : Hid (∀ W', Below (w.alloc (.cells #[.int .u64 (x : Int)] 22)).heap.size (w.alloc (.cells #[.int .u64 (x : Int)] 22)) W' → Calls Try.prog 95 #[.slice B r.w.length d, .int .u64 (x : Int)] W' (RetR (.bool (r.w.any (fun y => decide (y = x)))) W')) := Lib.hid fun W' hb => containsU_any W' x B d r.w (h1.sw.liesV.below hb) (by omega)
  have HR : Hid (∀ W', Below (w.alloc (.cells #[.int .u64 (x : Int)] 22)).heap.size (w.alloc (.cells #[.int .u64 (x : Int)] 22)) W' → Calls Try.prog 96 #[.slice A r.b.length c, .func (.func 94) #[] #[.pointer (some ⟨w.heap.size, 0, none⟩)]] W' (RetR (.bool (r.b.any (Rd.isIt x))) W')) := Lib.hid fun W' hb => containsR_any W' _ x (later hb hg) A c r.b (h1.sb.liesV.below hb) (by omega)
  have r0 := fun d os => cell_regrown h1.c0 d os
  have r1 := fun d os => cell_regrown h1.c1 d os
  have r2 := fun d os => cell_regrown hg d os
  have HH : Hid (Rd.has r x = (r.w.any (fun y => decide (y = x)) || r.b.any (Rd.isIt x))) := Lib.hid rfl
  obtain ⟨U, hU⟩ : ∃ U, U = r.w.any (fun y => decide (y = x)) := ⟨_, rfl⟩
  obtain ⟨V, hV⟩ : ∃ V, V = r.b.any (Rd.isIt x) := ⟨_, rfl⟩
  obtain ⟨H, hH⟩ : ∃ H, H = Rd.has r x := ⟨_, rfl⟩
  rw [← hU] at HU HH
  rw [← hV] at HR HH
  rw [← hH] at HH ⊢
  clear hU hV hH h h1 hg hf hw1
  go_enter Try.func84, Try.ntmps84
  go_upto_region 2 with (fail)
  cases U with
  | true =>
    have E : Hid (H = true) := Lib.hid (by rw [HH.out]; rfl)
    clear HH HR
    refine wp_region_quiet_below (by kernel_rfl) (by kernel_rfl) ?_
    repeat (go_big_quiet_step ((go_at_call 95; exact Calls.regrown_of (HU.out _ (below_regrown _ _ _)))))
    refine wpQuiet_nil ?_
    intro _ hw'
    obtain ⟨pq, hw''⟩ := hw'
    subst hw''
    have hb1 := below_regrown (w.alloc (.cells #[.int .u64 (x : Int)] 22)) pq.d pq.os
    go_wp2_with fail
    go_ret
    exact ⟨by rw [E.out]; rfl, bnext (bnew (Below.refl _ _) _) hb1⟩
  | false =>
    have E : Hid (H = V) := Lib.hid (by rw [HH.out]; rfl)
    clear HH
    refine wp_region_quiet_below (by kernel_rfl) (by kernel_rfl) ?_
    repeat (go_big_quiet_step ((first | (go_at_call 95; exact Calls.regrown_of (HU.out _ (below_regrown _ _ _))) | (go_at_call 96; exact Calls.regrown_of (HR.out _ (below_regrown _ _ _))))))
    refine wpQuiet_nil ?_
    intro _ hw'
    obtain ⟨pq, hw''⟩ := hw'
    subst hw''
    have hb1 := below_regrown (w.alloc (.cells #[.int .u64 (x : Int)] 22)) pq.d pq.os
    go_wp2_with fail
    go_ret
    exact ⟨by rw [E.out]; rfl, bnext (bnew (Below.refl _ _) _) hb1⟩
end Go.Proofs.Ytlnohjboldenpaa
