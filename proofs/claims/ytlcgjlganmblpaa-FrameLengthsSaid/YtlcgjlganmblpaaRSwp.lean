/-
  The statements' own 'Swap' of layer 3 walked: the texts one behind the other.
  The statements' own 'Swap' of layer 3 walked. WRITTEN BY wip/tools/gen_swap.py.
-/
import Derived.Test.YtlcgjlganmblpaaRFrL
import Derived.Test.YtlcgjlganmblpaaRCmd
import Derived.Test.YtlcgjlganmblpaaRCmdRead
import Derived.Test.YtlcgjlganmblpaaRWk
set_option linter.unusedSimpArgs false
set_option linter.unusedVariables false
namespace Go.Proofs.Ytlcgjlganmblpaa
open Go.RowKit
set_option maxRecDepth 100000 in
theorem next_any (ts : List ByteArray) (B : Option Addr) (cb : Nat) (W : World) (n t k : Nat) (hn : W.heap[n]? = some (.cells #[.int .i64 (k : Int)] 3 (0, 0))) (ht : W.heap[t]? = some (.cells #[.slice B ts.length cb] 54 (0, 0))) (hB : Lies W B (sc ts)) (hne : ∀ b off, B = some ⟨b, off, none⟩ → ts ≠ [] → b ≠ n) (hk : k ≤ 1000000) (hl : ts.length ≤ 1000000) (htn : t ≠ n) :
    Calls Try.prog 51 #[.pointer (some ⟨n, 0, none⟩), .pointer (some ⟨t, 0, none⟩)] W fun e w' => e = .returned (.string (Cm.nx ts k)) ∧ w' = W.setCell ⟨n, 0, none⟩ (.int .i64 ((k + 1 : Nat) : Int)) := by
  have c0 : W.cell? ⟨n, 0, none⟩ = some (.int .i64 (k : Int)) := cell_of_row W n 0 _ _ _ hn
  have f0 := frozen_of_row W n 0 _ _ hn
  have hr := heap_setCell_same W n 0 _ _ (.int .i64 ((k : Int) + 1)) hn
  have c1 : (W.setCell ⟨n, 0, none⟩ (.int .i64 ((k : Int) + 1))).cell? ⟨n, 0, none⟩ = some (.int .i64 ((k : Int) + 1)) := cell_of_row _ n 0 _ _ _ hr
  have d1 : (W.setCell ⟨n, 0, none⟩ (.int .i64 ((k : Int) + 1))).cell? ⟨t, 0, none⟩ = some (.slice B ts.length cb) := by
    rw [World.cell?_of_block (w := W) (Below.heap_setCell _ _ _ _ (by simpa using htn))]
    exact cell_of_row W t 0 _ _ _ ht
  by_cases hkl : k < ts.length
  · have hlt : decide ((ts.length : Int) < (k : Int) + 1) = false := by simp; omega
    have hnx : Cm.nx ts k = ts[k] := by unfold Cm.nx; rw [List.getD_eq_getElem?_getD, List.getElem?_eq_getElem hkl]; rfl
    obtain ⟨b, off, rfl, hlb, hc⟩ : ∃ b off, B = some ⟨b, off, none⟩ ∧ b < W.heap.size ∧ ∀ i u, (sc ts)[i]? = some u → W.cell? ⟨b, off + i, none⟩ = some u := by
      rcases hB with h | h
      · exfalso; have := congrArg List.length h; simp [sc] at this; rw [this] at hkl; simp at hkl
      · exact h
    have e1 : (W.setCell ⟨n, 0, none⟩ (.int .i64 ((k : Int) + 1))).cell? ⟨b, off + k, none⟩ = some (.string ts[k]) := by
      rw [World.cell?_of_block (w := W) (Below.heap_setCell _ _ _ _ (by simpa using hne b off rfl (fun e => by rw [e] at hkl; simp at hkl)))]
      exact hc k _ (by simp [sc, hkl])
    have Hnx := Lib.hid hnx
    clear hc hB hne hn ht hr hnx
    go_enter Try.func51, Try.ntmps51
    go_wp2_with fail
    go_ret
    rw [Hnx.out]
    exact ⟨rfl, rfl⟩
  · have hlt : decide ((ts.length : Int) < (k : Int) + 1) = true := by simp; omega
    have hnx : Cm.nx ts k = Cm.e0 := by unfold Cm.nx; rw [List.getD_eq_getElem?_getD, List.getElem?_eq_none (by omega)]; rfl
    have Hnx := Lib.hid hnx
    clear hB hne hn ht hr hnx
    go_enter Try.func51, Try.ntmps51
    go_wp2_with fail
    go_ret
    rw [Hnx.out]
    exact ⟨rfl, rfl⟩
end Go.Proofs.Ytlcgjlganmblpaa
namespace Go.Proofs.Ytlcgjlganmblpaa
open Go.RowKit
/-- How memory stands while texts are swapped: the command, the texts, the result, the count. -/
structure SwS (w W : World) (B : Option Addr) (ts : List ByteArray) (cb k : Nat) (c : Cm.Cmd) (A : Option Addr) (cap : Nat) : Prop where
  b : Below w.heap.size w W
  c : W.heap[w.heap.size]? = some (.cells (cmdC c A cap) 30 (0, 0))
  t : W.heap[w.heap.size + 1]? = some (.cells #[.slice B ts.length cb] 54 (0, 0))
  z : W.heap[w.heap.size + 2]? = some (.cells (cmdC Cm.zero none 0) 30 (0, 0))
  n : W.heap[w.heap.size + 3]? = some (.cells #[.int .i64 (k : Int)] 3 (0, 0))
theorem SwS.hi {w W : World} {B : Option Addr} {ts : List ByteArray} {cb k : Nat} {c : Cm.Cmd} {A : Option Addr} {cap : Nat} (h : SwS w W B ts cb k c A cap) : w.heap.size + 3 < W.heap.size := (Array.getElem?_eq_some_iff.1 h.n).1
theorem SwS.next {w W : World} {B : Option Addr} {ts : List ByteArray} {cb k : Nat} {c : Cm.Cmd} {A : Option Addr} {cap : Nat} (h : SwS w W B ts cb k c A cap) : SwS w (W.setCell ⟨w.heap.size + 3, 0, none⟩ (.int .i64 ((k + 1 : Nat) : Int))) B ts cb (k + 1) c A cap :=
  ⟨h.b.setCell (p := ⟨w.heap.size + 3, 0, none⟩) (by simp) _, (Below.heap_setCell _ _ _ _ (by simp)).trans h.c, (Below.heap_setCell _ _ _ _ (by simp)).trans h.t, (Below.heap_setCell _ _ _ _ (by simp)).trans h.z, heap_setCell_same W _ 0 _ _ _ h.n⟩
theorem SwS.put {w W : World} {B : Option Addr} {ts : List ByteArray} {cb k : Nat} {c d : Cm.Cmd} {A A' : Option Addr} {cap cap' : Nat} (h : SwS w W B ts cb k c A cap) (i : Nat) (v : Value) (hd : (cmdC c A cap).setIfInBounds i v = cmdC d A' cap') : SwS w (W.setCell ⟨w.heap.size, i, none⟩ v) B ts cb k d A' cap' :=
  ⟨h.b.setCell (p := ⟨w.heap.size, i, none⟩) (by simp) _, by rw [heap_setCell_same W _ i _ _ v h.c, hd], (Below.heap_setCell _ _ _ _ (by simp)).trans h.t, (Below.heap_setCell _ _ _ _ (by simp)).trans h.z, (Below.heap_setCell _ _ _ _ (by simp)).trans h.n⟩
theorem SwS.off {w W W' : World} {B : Option Addr} {ts : List ByteArray} {cb k : Nat} {c : Cm.Cmd} {A : Option Addr} {cap : Nat} {row : Option Nat} (h : SwS w W B ts cb k c A cap) (hg : W.grownBy W' row) (hr : ∀ q, row = some q → w.heap.size + 4 ≤ q) : SwS w W' B ts cb k c A cap := by
  have hh := h.hi
  have key : ∀ q, q ≤ w.heap.size + 3 → W'.heap[q]? = W.heap[q]? := fun q hq => hg.block q (by omega) (fun e => by have := hr q e.symm; omega)
  exact ⟨h.b.grown hg h.b.size (fun q e => by have := hr q e; omega), (key _ (by omega)).trans h.c, (key _ (by omega)).trans h.t, (key _ (by omega)).trans h.z, (key _ (by omega)).trans h.n⟩
theorem SwS.call {w W : World} {B : Option Addr} {ts : List ByteArray} {cb k : Nat} {c : Cm.Cmd} {A : Option Addr} {cap : Nat} (h : SwS w W B ts cb k c A cap) (hB : Lies w B (sc ts)) (hk : k ≤ 1000000) (hl : ts.length ≤ 1000000) :
    Calls Try.prog 51 #[.pointer (some ⟨w.heap.size + 3, 0, none⟩), .pointer (some ⟨w.heap.size + 1, 0, none⟩)] W fun e w' => e = .returned (.string (Cm.nx ts k)) ∧ w' = W.setCell ⟨w.heap.size + 3, 0, none⟩ (.int .i64 ((k + 1 : Nat) : Int)) :=
  next_any ts B cb W _ _ k h.n h.t (hB.below h.b) (fun b off e hne => by
    rcases hB with h2 | ⟨b2, off2, e2, hb, _⟩
    · exfalso; have := congrArg List.length h2; exact hne (List.eq_nil_of_length_eq_zero (by simpa [sc] using this))
    · rw [e2] at e; injection e with e; injection e with e _; omega) hk hl (by omega)
theorem addr_at (b off i : Nat) : (⟨b, off, none⟩ : Addr).add i = ⟨b, off + i, none⟩ := by unfold Addr.add; split <;> simp_all
theorem swp_parts (c : Cm.Cmd) (A : Option Addr) (cap : Nat) (ps : List Cm.Part) (B : Option Addr) (cb : Nat) : (cmdC c A cap).setIfInBounds 11 (.slice B ps.length cb) = cmdC { c with parts := ps } B cb := by simp [cmdC]
theorem pc_set1 : ∀ (L : List Cm.Part) (j : Nat) (h : j < L.length) (x : ByteArray), (pc L).set (3 * j + 1) (.string x) = pc (L.set j ⟨L[j].op, x, L[j].val⟩)
  | q :: l, 0, _, x => rfl
  | q :: l, j + 1, h, x => by
    have e : pc (q :: l) = pc1 q ++ pc l := rfl
    have hl : (pc1 q).length = 3 := rfl
    have ih := pc_set1 l j (by simpa using h) x
    rw [e, List.set_append_right _ _ (by omega), hl, show 3 * (j + 1) + 1 - 3 = 3 * j + 1 by omega, ih]
    rfl
theorem pc_set2 : ∀ (L : List Cm.Part) (j : Nat) (h : j < L.length) (x : ByteArray), (pc L).set (3 * j + 2) (.string x) = pc (L.set j ⟨L[j].op, L[j].key, x⟩)
  | q :: l, 0, _, x => rfl
  | q :: l, j + 1, h, x => by
    have e : pc (q :: l) = pc1 q ++ pc l := rfl
    have hl : (pc1 q).length = 3 := rfl
    have ih := pc_set2 l j (by simpa using h) x
    rw [e, List.set_append_right _ _ (by omega), hl, show 3 * (j + 1) + 2 - 3 = 3 * j + 2 by omega, ih]
    rfl
/-- The parts behind j rounds. -/
def swL (ts : List ByteArray) (ps : List Cm.Part) (j : Nat) : List Cm.Part := Cm.swP ts 0 (ps.take j) ++ ps.drop j
theorem swL_len (ts : List ByteArray) (ps : List Cm.Part) (j : Nat) : (swL ts ps j).length = ps.length := by
  unfold swL; rw [List.length_append, Cm.swP_len, List.length_take, List.length_drop]; omega
theorem swL_at (ts : List ByteArray) (ps : List Cm.Part) (j : Nat) (h : j < ps.length) : (swL ts ps j)[j]'(by rw [swL_len]; exact h) = ps[j] := by
  unfold swL
  have hl : (Cm.swP ts 0 (ps.take j)).length = j := by rw [Cm.swP_len, List.length_take]; omega
  rw [List.getElem_append_right (by omega)]
  simp [hl]
theorem swL_set (ts : List ByteArray) (ps : List Cm.Part) (j : Nat) (h : j < ps.length) (q : Cm.Part) : (swL ts ps j).set j q = Cm.swP ts 0 (ps.take j) ++ q :: ps.drop (j + 1) := by
  unfold swL
  have hl : (Cm.swP ts 0 (ps.take j)).length = j := by rw [Cm.swP_len, List.length_take]; omega
  rw [List.set_append_right _ _ (by omega), hl, Nat.sub_self, List.drop_eq_getElem_cons h]
  rfl
theorem swL_next (ts : List ByteArray) (ps : List Cm.Part) (j : Nat) (h : j < ps.length) : swL ts ps (j + 1) = Cm.swP ts 0 (ps.take j) ++ (if ps[j].op = 2 then (⟨ps[j].op, Cm.nx ts (Cm.swN 0 (ps.take j)), Cm.nx ts (Cm.swN 0 (ps.take j) + 1)⟩ : Cm.Part) else ⟨ps[j].op, Cm.nx ts (Cm.swN 0 (ps.take j)), ps[j].val⟩) :: ps.drop (j + 1) := by
  unfold swL
  rw [List.take_succ_eq_append_getElem h, Cm.swP_app, List.append_assoc]
  congr 1
  unfold Cm.swP
  split <;> simp [Cm.swP]
theorem swN_next (ps : List Cm.Part) (j : Nat) (h : j < ps.length) : Cm.swN 0 (ps.take (j + 1)) = if ps[j].op = 2 then Cm.swN 0 (ps.take j) + 2 else Cm.swN 0 (ps.take j) + 1 := by
  rw [List.take_succ_eq_append_getElem h, Cm.swN_app]
  rfl
theorem three4 (w : World) (a b c d : Obj) : ((((w.alloc a).alloc b).alloc c).alloc d).heap[w.heap.size]? = some a ∧ ((((w.alloc a).alloc b).alloc c).alloc d).heap[w.heap.size + 1]? = some b ∧ ((((w.alloc a).alloc b).alloc c).alloc d).heap[w.heap.size + 2]? = some c ∧ ((((w.alloc a).alloc b).alloc c).alloc d).heap[w.heap.size + 3]? = some d := by
  have h3 := heap_alloc_new (((w.alloc a).alloc b).alloc c) d
  have h2 := heap_alloc_new ((w.alloc a).alloc b) c
  have h1 := heap_alloc_new (w.alloc a) b
  simp only [World.size_alloc] at h1 h2 h3
  refine ⟨?_, ?_, ?_, h3⟩
  · rw [Below.heap_alloc _ _ _ (by simp only [World.size_alloc]; omega), Below.heap_alloc _ _ _ (by simp only [World.size_alloc]; omega), Below.heap_alloc _ _ _ (by simp only [World.size_alloc]; omega)]; exact heap_alloc_new w a
  · rw [Below.heap_alloc _ _ _ (by simp only [World.size_alloc]; omega), Below.heap_alloc _ _ _ (by simp only [World.size_alloc]; omega)]; exact h1
  · rw [Below.heap_alloc _ _ _ (by simp only [World.size_alloc]; omega)]; exact h2
set_option maxRecDepth 100000 in
set_option maxHeartbeats 4000000 in
theorem swap_any (c : Cm.Cmd) (hf : Cm.Fits c) (hs : c.parts.length ≤ 40) (A : Option Addr) (cap : Nat) (hnil : A = none → cap = 0) (ts : List ByteArray) (B : Option Addr) (cb : Nat) (w : World) (hA : Lies w A (pc c.parts)) (hB : Lies w B (sc ts)) (hl : ts.length ≤ 20) :
    Calls Try.prog 24 #[.agg (cmdC c A cap), .slice B ts.length cb] w fun e w' => ∃ A' cap', e = .returned (.agg (cmdC (Cm.swap c ts) A' cap')) ∧ Lies w' A' (pc (Cm.swap c ts).parts) ∧ Below w.heap.size w w' := by
  have HA := Lib.hid hA
  have HB := Lib.hid hB
  have h256 := hf.op
  have FX := cmdF c A cap
  have hS0 := three4 w (.cells (cmdC c A cap) 30) (.cells #[.slice B ts.length cb] 54) (.cells (cmdC Cm.zero none 0) 30) (.cells #[.int .i64 0] 3)
  obtain ⟨X, hX⟩ : ∃ X, X = cmdC c A cap := ⟨_, rfl⟩
  rw [← hX] at FX hS0 ⊢
  have hx := FX.size
  have HX := Lib.hid hX
  have HS0 := Lib.hid hS0
  have hszX : (Try.prog.info? 30).map (·.size) = some X.size := by rw [hx]; exact sizeCmd
  have Hsz := Lib.hid hszX
  clear hszX hX hA hB FX hS0
  go_enter Try.func24, Try.ntmps24
  go_upto_region 3 with (fail)
  refine forget (fun W' => SwS w W' B ts cb 0 c A cap) (by
    obtain ⟨h0, h1, h2, h3⟩ := HS0.out
    exact ⟨bnew (bnew (bnew (bnew (Below.refl _ _) _) _) _) _, by rw [← HX.out]; exact h0, h1, h2, h3⟩) ?_
  clear HS0 HX hx Hsz
  intro W1 S
  have k0 := (cmdAt S.c).c0
  have HS := Lib.hid S
  clear S
  go_upto_block 0 with (fail)
  go_cut [] (fun W' => ∃ A' cap' k', SwS w W' B ts cb k' (Cm.swap c ts) A' cap' ∧ Lies W' A' (pc (Cm.swap c ts).parts) ∧ (∀ b off, A' = some ⟨b, off, none⟩ → (Cm.swap c ts).parts ≠ [] → b ≠ w.heap.size + 2))
  case first =>
    by_cases h : c.op = 2
    · have Ho := Lib.hid h
      have e2 : ((c.op : Int) == 2) = true := by rw [beq_iff_eq]; omega
      have e3 : ((c.op : Int) == 3) = false := by rw [beq_eq_false_iff_ne]; omega
      have e4 : ((c.op : Int) == 4) = false := by rw [beq_eq_false_iff_ne]; omega
      have e5 : ((c.op : Int) == 5) = false := by rw [beq_eq_false_iff_ne]; omega
      have e8 : ((c.op : Int) == 8) = false := by rw [beq_eq_false_iff_ne]; omega
      have e9 : ((c.op : Int) == 9) = false := by rw [beq_eq_false_iff_ne]; omega
      have esw : Cm.swap c ts = { c with key := Cm.nx ts 0, val := Cm.nx ts 1 } := by unfold Cm.swap; rw [if_pos (by omega)]
      have Hsw := Lib.hid esw
      clear h esw
      go_wp2_with fail
      have S := HS.out
      refine (S.call HB.out (by omega) (by omega)).mono ?_
      rintro e w2 ⟨rfl, hw⟩
      have S' : SwS w w2 B ts cb 1 c A cap := hw ▸ S.next
      clear S HS hw k0
      have HS := Lib.hid S'
      clear S'
      go_wp2_with fail
      have S := HS.out
      refine (S.call HB.out (by omega) (by omega)).mono ?_
      rintro e w3 ⟨rfl, hw⟩
      have S' : SwS w w3 B ts cb 2 c A cap := hw ▸ S.next
      clear S HS hw
      have HS := Lib.hid S'
      clear S'
      have S := HS.out
      have q0 : (w3).cell? ⟨w.heap.size, 3, none⟩ = some (.string c.key) := cell_of_row _ w.heap.size 3 _ _ _ S.c
      have z0 := (cmdAt S.c).fz 3
      have S := S.put 3 (.string (Cm.nx ts 0)) (set_key _ _ _ (Cm.nx ts 0))
      have q1 : ((w3).setCell ⟨w.heap.size, 3, none⟩ (Value.string (Cm.nx ts 0))).cell? ⟨w.heap.size, 4, none⟩ = some (.string c.val) := cell_of_row _ w.heap.size 4 _ _ _ S.c
      have z1 := (cmdAt S.c).fz 4
      have S := S.put 4 (.string (Cm.nx ts 1)) (set_val _ _ _ (Cm.nx ts 1))
      have HS2 := Lib.hid S
      clear S HS
      go_wp2_with fail
      go_meet
      rw [Hsw.out]
      exact ⟨A, cap, _, HS2.out, HA.out.below HS2.out.b, fun b off e hne => by
        have hne : c.parts ≠ [] := hne
        rcases HA.out with h2 | ⟨b2, off2, e2, hb, _⟩
        · exfalso; have := pc_length c.parts; rw [h2] at this; exact hne (List.eq_nil_of_length_eq_zero (by simp at this; omega))
        · rw [e2] at e; injection e with e; injection e with e _; omega⟩
    by_cases h : c.op = 3
    · have Ho := Lib.hid h
      have e2 : ((c.op : Int) == 2) = false := by rw [beq_eq_false_iff_ne]; omega
      have e3 : ((c.op : Int) == 3) = true := by rw [beq_iff_eq]; omega
      have e4 : ((c.op : Int) == 4) = false := by rw [beq_eq_false_iff_ne]; omega
      have e5 : ((c.op : Int) == 5) = false := by rw [beq_eq_false_iff_ne]; omega
      have e8 : ((c.op : Int) == 8) = false := by rw [beq_eq_false_iff_ne]; omega
      have e9 : ((c.op : Int) == 9) = false := by rw [beq_eq_false_iff_ne]; omega
      have esw : Cm.swap c ts = { c with key := Cm.nx ts 0 } := by unfold Cm.swap; rw [if_neg (by omega), if_pos (by omega)]
      have Hsw := Lib.hid esw
      clear h esw
      go_wp2_with fail
      have S := HS.out
      refine (S.call HB.out (by omega) (by omega)).mono ?_
      rintro e w2 ⟨rfl, hw⟩
      have S' : SwS w w2 B ts cb 1 c A cap := hw ▸ S.next
      clear S HS hw k0
      have HS := Lib.hid S'
      clear S'
      have S := HS.out
      have q0 : (w2).cell? ⟨w.heap.size, 3, none⟩ = some (.string c.key) := cell_of_row _ w.heap.size 3 _ _ _ S.c
      have z0 := (cmdAt S.c).fz 3
      have S := S.put 3 (.string (Cm.nx ts 0)) (set_key _ _ _ (Cm.nx ts 0))
      have HS2 := Lib.hid S
      clear S HS
      go_wp2_with fail
      go_meet
      rw [Hsw.out]
      exact ⟨A, cap, _, HS2.out, HA.out.below HS2.out.b, fun b off e hne => by
        have hne : c.parts ≠ [] := hne
        rcases HA.out with h2 | ⟨b2, off2, e2, hb, _⟩
        · exfalso; have := pc_length c.parts; rw [h2] at this; exact hne (List.eq_nil_of_length_eq_zero (by simp at this; omega))
        · rw [e2] at e; injection e with e; injection e with e _; omega⟩
    by_cases h : c.op = 8
    · have Ho := Lib.hid h
      have e2 : ((c.op : Int) == 2) = false := by rw [beq_eq_false_iff_ne]; omega
      have e3 : ((c.op : Int) == 3) = false := by rw [beq_eq_false_iff_ne]; omega
      have e4 : ((c.op : Int) == 4) = false := by rw [beq_eq_false_iff_ne]; omega
      have e5 : ((c.op : Int) == 5) = false := by rw [beq_eq_false_iff_ne]; omega
      have e8 : ((c.op : Int) == 8) = true := by rw [beq_iff_eq]; omega
      have e9 : ((c.op : Int) == 9) = false := by rw [beq_eq_false_iff_ne]; omega
      have esw : Cm.swap c ts = { c with key := Cm.nx ts 0 } := by unfold Cm.swap; rw [if_neg (by omega), if_pos (by omega)]
      have Hsw := Lib.hid esw
      clear h esw
      go_wp2_with fail
      have S := HS.out
      refine (S.call HB.out (by omega) (by omega)).mono ?_
      rintro e w2 ⟨rfl, hw⟩
      have S' : SwS w w2 B ts cb 1 c A cap := hw ▸ S.next
      clear S HS hw k0
      have HS := Lib.hid S'
      clear S'
      have S := HS.out
      have q0 : (w2).cell? ⟨w.heap.size, 3, none⟩ = some (.string c.key) := cell_of_row _ w.heap.size 3 _ _ _ S.c
      have z0 := (cmdAt S.c).fz 3
      have S := S.put 3 (.string (Cm.nx ts 0)) (set_key _ _ _ (Cm.nx ts 0))
      have HS2 := Lib.hid S
      clear S HS
      go_wp2_with fail
      go_meet
      rw [Hsw.out]
      exact ⟨A, cap, _, HS2.out, HA.out.below HS2.out.b, fun b off e hne => by
        have hne : c.parts ≠ [] := hne
        rcases HA.out with h2 | ⟨b2, off2, e2, hb, _⟩
        · exfalso; have := pc_length c.parts; rw [h2] at this; exact hne (List.eq_nil_of_length_eq_zero (by simp at this; omega))
        · rw [e2] at e; injection e with e; injection e with e _; omega⟩
    by_cases h : c.op = 4
    · have Ho := Lib.hid h
      have e2 : ((c.op : Int) == 2) = false := by rw [beq_eq_false_iff_ne]; omega
      have e3 : ((c.op : Int) == 3) = false := by rw [beq_eq_false_iff_ne]; omega
      have e4 : ((c.op : Int) == 4) = true := by rw [beq_iff_eq]; omega
      have e5 : ((c.op : Int) == 5) = false := by rw [beq_eq_false_iff_ne]; omega
      have e8 : ((c.op : Int) == 8) = false := by rw [beq_eq_false_iff_ne]; omega
      have e9 : ((c.op : Int) == 9) = false := by rw [beq_eq_false_iff_ne]; omega
      have esw : Cm.swap c ts = { c with key := Cm.nx ts 0, exp := Cm.nx ts 1, val := Cm.nx ts 2 } := by unfold Cm.swap; rw [if_neg (by omega), if_neg (by omega), if_pos (by omega)]
      have Hsw := Lib.hid esw
      clear h esw
      go_wp2_with fail
      have S := HS.out
      refine (S.call HB.out (by omega) (by omega)).mono ?_
      rintro e w2 ⟨rfl, hw⟩
      have S' : SwS w w2 B ts cb 1 c A cap := hw ▸ S.next
      clear S HS hw k0
      have HS := Lib.hid S'
      clear S'
      go_wp2_with fail
      have S := HS.out
      refine (S.call HB.out (by omega) (by omega)).mono ?_
      rintro e w3 ⟨rfl, hw⟩
      have S' : SwS w w3 B ts cb 2 c A cap := hw ▸ S.next
      clear S HS hw
      have HS := Lib.hid S'
      clear S'
      go_wp2_with fail
      have S := HS.out
      refine (S.call HB.out (by omega) (by omega)).mono ?_
      rintro e w4 ⟨rfl, hw⟩
      have S' : SwS w w4 B ts cb 3 c A cap := hw ▸ S.next
      clear S HS hw
      have HS := Lib.hid S'
      clear S'
      have S := HS.out
      have q0 : (w4).cell? ⟨w.heap.size, 3, none⟩ = some (.string c.key) := cell_of_row _ w.heap.size 3 _ _ _ S.c
      have z0 := (cmdAt S.c).fz 3
      have S := S.put 3 (.string (Cm.nx ts 0)) (set_key _ _ _ (Cm.nx ts 0))
      have q1 : ((w4).setCell ⟨w.heap.size, 3, none⟩ (Value.string (Cm.nx ts 0))).cell? ⟨w.heap.size, 5, none⟩ = some (.string c.exp) := cell_of_row _ w.heap.size 5 _ _ _ S.c
      have z1 := (cmdAt S.c).fz 5
      have S := S.put 5 (.string (Cm.nx ts 1)) (set_exp _ _ _ (Cm.nx ts 1))
      have q2 : (((w4).setCell ⟨w.heap.size, 3, none⟩ (Value.string (Cm.nx ts 0))).setCell ⟨w.heap.size, 5, none⟩ (Value.string (Cm.nx ts 1))).cell? ⟨w.heap.size, 4, none⟩ = some (.string c.val) := cell_of_row _ w.heap.size 4 _ _ _ S.c
      have z2 := (cmdAt S.c).fz 4
      have S := S.put 4 (.string (Cm.nx ts 2)) (set_val _ _ _ (Cm.nx ts 2))
      have HS2 := Lib.hid S
      clear S HS
      go_wp2_with fail
      go_meet
      rw [Hsw.out]
      exact ⟨A, cap, _, HS2.out, HA.out.below HS2.out.b, fun b off e hne => by
        have hne : c.parts ≠ [] := hne
        rcases HA.out with h2 | ⟨b2, off2, e2, hb, _⟩
        · exfalso; have := pc_length c.parts; rw [h2] at this; exact hne (List.eq_nil_of_length_eq_zero (by simp at this; omega))
        · rw [e2] at e; injection e with e; injection e with e _; omega⟩
    by_cases h : c.op = 9
    · have Ho := Lib.hid h
      have e2 : ((c.op : Int) == 2) = false := by rw [beq_eq_false_iff_ne]; omega
      have e3 : ((c.op : Int) == 3) = false := by rw [beq_eq_false_iff_ne]; omega
      have e4 : ((c.op : Int) == 4) = false := by rw [beq_eq_false_iff_ne]; omega
      have e5 : ((c.op : Int) == 5) = false := by rw [beq_eq_false_iff_ne]; omega
      have e8 : ((c.op : Int) == 8) = false := by rw [beq_eq_false_iff_ne]; omega
      have e9 : ((c.op : Int) == 9) = true := by rw [beq_iff_eq]; omega
      have esw : Cm.swap c ts = { c with frm := Cm.nx ts 0, tto := Cm.nx ts 1 } := by unfold Cm.swap; rw [if_neg (by omega), if_neg (by omega), if_neg (by omega), if_pos (by omega)]
      have Hsw := Lib.hid esw
      clear h esw
      go_wp2_with fail
      have S := HS.out
      refine (S.call HB.out (by omega) (by omega)).mono ?_
      rintro e w2 ⟨rfl, hw⟩
      have S' : SwS w w2 B ts cb 1 c A cap := hw ▸ S.next
      clear S HS hw k0
      have HS := Lib.hid S'
      clear S'
      go_wp2_with fail
      have S := HS.out
      refine (S.call HB.out (by omega) (by omega)).mono ?_
      rintro e w3 ⟨rfl, hw⟩
      have S' : SwS w w3 B ts cb 2 c A cap := hw ▸ S.next
      clear S HS hw
      have HS := Lib.hid S'
      clear S'
      have S := HS.out
      have q0 : (w3).cell? ⟨w.heap.size, 6, none⟩ = some (.string c.frm) := cell_of_row _ w.heap.size 6 _ _ _ S.c
      have z0 := (cmdAt S.c).fz 6
      have S := S.put 6 (.string (Cm.nx ts 0)) (set_frm _ _ _ (Cm.nx ts 0))
      have q1 : ((w3).setCell ⟨w.heap.size, 6, none⟩ (Value.string (Cm.nx ts 0))).cell? ⟨w.heap.size, 7, none⟩ = some (.string c.tto) := cell_of_row _ w.heap.size 7 _ _ _ S.c
      have z1 := (cmdAt S.c).fz 7
      have S := S.put 7 (.string (Cm.nx ts 1)) (set_tto _ _ _ (Cm.nx ts 1))
      have HS2 := Lib.hid S
      clear S HS
      go_wp2_with fail
      go_meet
      rw [Hsw.out]
      exact ⟨A, cap, _, HS2.out, HA.out.below HS2.out.b, fun b off e hne => by
        have hne : c.parts ≠ [] := hne
        rcases HA.out with h2 | ⟨b2, off2, e2, hb, _⟩
        · exfalso; have := pc_length c.parts; rw [h2] at this; exact hne (List.eq_nil_of_length_eq_zero (by simp at this; omega))
        · rw [e2] at e; injection e with e; injection e with e _; omega⟩
    by_cases h : c.op = 5
    · have Ho := Lib.hid h
      have e2 : ((c.op : Int) == 2) = false := by rw [beq_eq_false_iff_ne]; omega
      have e3 : ((c.op : Int) == 3) = false := by rw [beq_eq_false_iff_ne]; omega
      have e4 : ((c.op : Int) == 4) = false := by rw [beq_eq_false_iff_ne]; omega
      have e5 : ((c.op : Int) == 5) = true := by rw [beq_iff_eq]; omega
      have e8 : ((c.op : Int) == 8) = false := by rw [beq_eq_false_iff_ne]; omega
      have e9 : ((c.op : Int) == 9) = false := by rw [beq_eq_false_iff_ne]; omega
      have esw : Cm.swap c ts = { c with parts := Cm.swP ts 0 c.parts } := by unfold Cm.swap; rw [if_neg (by omega), if_neg (by omega), if_neg (by omega), if_neg (by omega), if_pos (by omega)]
      have Hsw := Lib.hid esw
      clear h esw
      have S1 := HS.out.off (World.grownBy_alloc W1 (.cells #[] 91) none) (fun q e => by cases e)
      have k11 := (cmdAt S1.c).c11
      have hi1 := HS.out.hi
      have hown0 : (W1.alloc (.cells #[] 91)).ownsRow (w.heap.size + 4) 91 3 (.slice (some ⟨W1.heap.size, 0, none⟩) 0 0) 0 [] := World.ownsRow_lit W1 #[] 0 (by omega) (by simp [maxLen]) rfl
      obtain ⟨i0, hi, hz0, hz1, hz2⟩ := info_parts Try.infoPart
      have HS1 := Lib.hid S1
      clear S1 HS k0
      have Hown0 := Lib.hid hown0
      have Hcp : Hid (∀ (v' : Value) (w' : World), w'.ownsRow (w.heap.size + 4) 91 3 v' c.parts.length (pc c.parts) → v' ≠ .slice none 0 0 → ∃ g cap', v' = .slice (some ⟨g, 0, none⟩) c.parts.length cap' ∧ w.heap.size + 4 ≤ g) := Lib.hid (fun v' w' ho hne => by
        rcases ho.2 with ⟨hv, _⟩ | ⟨g, cap', cur, hv, hb, _⟩
        · exact absurd hv hne
        · exact ⟨g, cap', hv, hb⟩)
      rcases A with _ | ad
      · obtain rfl := hnil rfl
        have hp0 : c.parts = [] := by
          rcases HA.out with h2 | ⟨b2, off2, e2, hb, _⟩
          · have := pc_length c.parts; rw [h2] at this; exact List.eq_nil_of_length_eq_zero (by simp at this; omega)
          · cases e2
        have hp1 : c.parts.length = 0 := by rw [hp0]; rfl
        rw [hp1] at k11
        go_wp2_with (at_builtin; refine wpList_append_own_none rfl (.tmp 47) (.tmp 49) 28 rfl (w.heap.size + 4) 91 i0 3 Try.underlying28 hi _ _ _ rfl hown0 rfl ?_)
        clear hi1 hown0 Hown0 k11
        generalize hW2 : (W1.alloc (.cells #[] 91)) = W2 at HS1 ⊢
        clear hW2
        generalize W1.heap.size = g
        go_loopw [8] (fun i wr => i = .int .i64 0 ∧ wr = W2) (fun i _ => 0)
        case atStart => exact ⟨rfl, rfl⟩
        case round =>
          obtain ⟨rfl, rfl⟩ := hrel
          have q11 := (cmdAt HS1.out.c).c11
          have z11 := (cmdAt HS1.out.c).fz 11
          go_wp2_with fail
          go_meet
          rw [Hsw.out]
          have hps : Cm.swP ts 0 c.parts = [] := by rw [hp0]; rfl
          rw [hps]
          exact ⟨_, _, _, HS1.out.put 11 (.slice (some ⟨g, 0, none⟩) 0 0) (swp_parts _ _ _ [] _ _), .inl rfl, fun b off e hne => absurd rfl hne⟩
      · go_wp2_with (at_builtin; refine wpList_append_own _ rfl (.tmp 47) (.tmp 49) 28 rfl (w.heap.size + 4) 91 i0 (.agg #[.int .u8 0, .string ⟨#[]⟩, .string ⟨#[]⟩]) 3 40 Try.underlying28 hi hz0 hz1 hz2 rfl (by decide) _ _ _ rfl hown0 ad c.parts.length cap (pc c.parts) rfl (by rw [pc_length]; omega) ?_ ?_ (by simp only [maxLen]; omega) (by omega) (by simp; omega) ?_)
        · intro j u hu
          rcases HA.out with h2 | ⟨b2, off2, e2, hb, hcs⟩
          · rw [h2] at hu; simp at hu
          · injection e2 with e2
            rw [e2]
            rw [addr_at]
            exact (HS1.out.b.cell (p := ⟨b2, off2 + j, none⟩) hb).trans (hcs j u hu)
        · intro u hu
          obtain ⟨l, hl, hu⟩ := List.mem_flatten.1 hu
          obtain ⟨p, _, rfl⟩ := List.mem_map.1 hl
          simp [pc1] at hu
          rcases hu with rfl | rfl | rfl <;> rfl
        intro v' W2 ho2 hg2 hn2
        obtain ⟨g, cap2, rfl, hgb⟩ := Hcp.out v' W2 (by simpa using ho2) hn2
        have S2 := HS1.out.off hg2 (fun q e => (hown0.lt q e).1)
        have HS2 := Lib.hid S2
        have HO2 : Hid (W2.ownsRow (w.heap.size + 4) 91 3 (.slice (some ⟨g, 0, none⟩) c.parts.length cap2) c.parts.length (pc (swL ts c.parts 0))) := Lib.hid (by
          have e : swL ts c.parts 0 = c.parts := by simp [swL, Cm.swP]
          rw [e]; simpa using ho2)
        clear S2 ho2 hg2 hn2 hown0 Hown0 HS1 k11 hi1 Hcp
        go_wp2_with fail
        go_loopw [8] (fun i wr => ∃ j : Nat, j ≤ c.parts.length ∧ i = .int .i64 (j : Int) ∧ SwS w wr B ts cb (Cm.swN 0 (c.parts.take j)) c (some ad) cap ∧ wr.ownsRow (w.heap.size + 4) 91 3 (.slice (some ⟨g, 0, none⟩) c.parts.length cap2) c.parts.length (pc (swL ts c.parts j))) (fun i _ => c.parts.length - (intOf i).toNat)
        case atStart => exact ⟨0, Nat.zero_le _, rfl, by simpa [Cm.swN] using HS2.out, HO2.out⟩
        case round =>
          obtain ⟨j, hj, rfl, hS, hO⟩ := hrel
          clear HS2 HO2
          by_cases hlt : j < c.parts.length
          · obtain ⟨p, hp⟩ : ∃ p, p = c.parts[j] := ⟨_, rfl⟩
            have hjl : j < (swL ts c.parts j).length := by rw [swL_len]; exact hlt
            obtain ⟨p0, p1, p2⟩ := pc_at (swL ts c.parts j) j hjl
            rw [swL_at ts c.parts j hlt, ← hp] at p0 p1 p2
            have hs1 := pc_set1 (swL ts c.parts j) j hjl
            rw [swL_at ts c.parts j hlt, ← hp] at hs1
            have hse := swL_set ts c.parts j hlt
            have hnx := swL_next ts c.parts j hlt
            have hnn := swN_next c.parts j hlt
            rw [← hp] at hnx hnn
            have hkk := Cm.swN_le 0 (c.parts.take j)
            have hkl : (c.parts.take j).length ≤ 40 := by rw [List.length_take]; omega
            generalize Cm.swN 0 (c.parts.take j) = k at hS hnx hnn hkk
            have HSr := Lib.hid hS
            have HO := Lib.hid hO
            have Hm := Lib.hid (And.intro hs1 (And.intro hse (And.intro hnx hnn)))
            clear hS hO hp hs1 hse hnx hnn
            go_wp2_with fail
            refine (HSr.out.call HB.out (by omega) (by omega)).mono ?_
            rintro e w1 ⟨rfl, hw⟩
            have S1 : SwS w w1 B ts cb (k + 1) c (some ad) cap := hw ▸ HSr.out.next
            have O1 : w1.ownsRow (w.heap.size + 4) 91 3 (.slice (some ⟨g, 0, none⟩) c.parts.length cap2) c.parts.length (pc (swL ts c.parts j)) := by
              rw [hw]; exact HO.out.kept (set_grown wr (w.heap.size + 3) 0 _) (.inr (fun e => by have e2 : g = w.heap.size + 3 := Option.some.inj e; omega))
            have c1 : w1.cell? ⟨g, j * 3 + 1, none⟩ = some (.string p.key) := by
              rw [O1.cellAt _ (by omega), Nat.mul_comm]; exact p1
            have f1 := O1.frozenAt (j * 3 + 1)
            have O2 := (O1.stored (j * 3 + 1) (.string (Cm.nx ts k)))
            have S2 := S1.off O2.2 (fun q e => by cases e; exact hgb)
            have O2' := O2.1
            rw [Nat.mul_comm, Hm.out.1, Hm.out.2.1, Nat.mul_comm] at O2'
            have HS2 := Lib.hid S2
            have HO2 := Lib.hid O2'
            clear S1 O1 O2 O2' S2 hw HSr HO
            go_upto_region 19 with (fail)
            refine forget (fun W => SwS w W B ts cb (k + 1) c (some ad) cap ∧ W.ownsRow (w.heap.size + 4) 91 3 (.slice (some ⟨g, 0, none⟩) c.parts.length cap2) c.parts.length (pc (Cm.swP ts 0 (c.parts.take j) ++ (⟨p.op, Cm.nx ts k, p.val⟩ : Cm.Part) :: c.parts.drop (j + 1)))) ⟨HS2.out, HO2.out⟩ ?_
            clear HS2 HO2 c1 f1
            rintro W3 ⟨S3, O3⟩
            have hl3 : (Cm.swP ts 0 (c.parts.take j)).length = j := by rw [Cm.swP_len, List.length_take]; omega
            obtain ⟨L, hL⟩ : ∃ L, L = Cm.swP ts 0 (c.parts.take j) ++ (⟨p.op, Cm.nx ts k, p.val⟩ : Cm.Part) :: c.parts.drop (j + 1) := ⟨_, rfl⟩
            have hjL : j < L.length := by rw [hL, List.length_append, hl3, List.length_cons]; omega
            have hLj : L[j] = ⟨p.op, Cm.nx ts k, p.val⟩ := by
              subst hL
              rw [List.getElem_append_right (by omega)]
              simp [hl3]
            have hLs : ∀ q, L.set j q = Cm.swP ts 0 (c.parts.take j) ++ q :: c.parts.drop (j + 1) := fun q => by
              rw [hL, List.set_append_right _ _ (by omega), hl3, Nat.sub_self]
              rfl
            rw [← hL] at O3
            obtain ⟨p0', p1', p2'⟩ := pc_at L j hjL
            have hs2 := pc_set2 L j hjL
            rw [hLj] at p0' p1' p2' hs2
            have c0 : W3.cell? ⟨g, j * 3, none⟩ = some (.int .u8 (p.op : Int)) := by
              rw [O3.cellAt _ (by omega), Nat.mul_comm]; exact p0'
            have HS3 := Lib.hid S3
            have HO3 := Lib.hid O3
            have HL := Lib.hid (And.intro hL hLs)
            have Hs2 := Lib.hid hs2
            have Hp2 := Lib.hid p2'
            clear S3 O3 hL hLs hs2 p0' p1' p2' hLj hl3 hjL
            by_cases hop : p.op = 2
            · have eo : ((p.op : Int) == 2) = true := by rw [beq_iff_eq]; omega
              have Hop := Lib.hid hop
              clear hop
              go_wp2_with fail
              refine (HS3.out.call HB.out (by omega) (by omega)).mono ?_
              rintro e w4 ⟨rfl, hw⟩
              have S4 : SwS w w4 B ts cb (k + 1 + 1) c (some ad) cap := hw ▸ HS3.out.next
              have O4 : w4.ownsRow (w.heap.size + 4) 91 3 (.slice (some ⟨g, 0, none⟩) c.parts.length cap2) c.parts.length (pc L) := by
                rw [hw]; exact HO3.out.kept (set_grown W3 (w.heap.size + 3) 0 _) (.inr (fun e => by have e2 : g = w.heap.size + 3 := Option.some.inj e; omega))
              have c2 : w4.cell? ⟨g, j * 3 + 2, none⟩ = some (.string p.val) := by
                rw [O4.cellAt _ (by omega), Nat.mul_comm]; exact Hp2.out
              have f2 := O4.frozenAt (j * 3 + 2)
              have O5 := (O4.stored (j * 3 + 2) (.string (Cm.nx ts (k + 1))))
              have S5 := S4.off O5.2 (fun q e => by cases e; exact hgb)
              have O5' := O5.1
              rw [Nat.mul_comm, Hs2.out, HL.out.2, Nat.mul_comm] at O5'
              have HS5 := Lib.hid S5
              have HO5 := Lib.hid O5'
              clear S4 O4 O5 O5' S5 hw HS3 HO3 c0
              go_wp2_with fail
              go_roundw
              case rel =>
                refine ⟨j + 1, by omega, by go_num, ?_, ?_⟩
                · rw [Hm.out.2.2.2, if_pos Hop.out]; exact HS5.out
                · rw [Hm.out.2.2.1, if_pos Hop.out]; exact HO5.out
              case measure => simp [intOf]; omega
            · have eo : ((p.op : Int) == 2) = false := by rw [beq_eq_false_iff_ne]; omega
              have Hop := Lib.hid hop
              clear hop
              go_wp2_with fail
              go_roundw
              case rel =>
                refine ⟨j + 1, by omega, by go_num, ?_, ?_⟩
                · rw [Hm.out.2.2.2, if_neg Hop.out]; exact HS3.out
                · rw [Hm.out.2.2.1, if_neg Hop.out, ← HL.out.1]; exact HO3.out
              case measure => simp [intOf]; omega
          · obtain rfl : j = c.parts.length := by omega
            have q11 := (cmdAt hS.c).c11
            have z11 := (cmdAt hS.c).fz 11
            have HS3 := Lib.hid hS
            have HO3 := Lib.hid hO
            clear hS hO
            go_wp2_with fail
            go_meet
            rw [Hsw.out]
            have e : swL ts c.parts c.parts.length = Cm.swP ts 0 c.parts := by simp [swL]
            have O := HO3.out
            rw [e] at O
            have hle := Cm.swP_len ts 0 c.parts
            have O' : wr.ownsRow (w.heap.size + 4) 91 3 (.slice (some ⟨g, 0, none⟩) (Cm.swP ts 0 c.parts).length cap2) (Cm.swP ts 0 c.parts).length (pc (Cm.swP ts 0 c.parts)) := by rw [hle]; exact O
            refine ⟨some ⟨g, 0, none⟩, cap2, _, HS3.out.put 11 (.slice (some ⟨g, 0, none⟩) c.parts.length cap2) (by rw [← hle]; exact swp_parts _ _ _ _ _ _), (own_lies O').1.set (fun b off e => by injection e with e; injection e with e _; omega), fun b off e _ => by injection e with e; injection e with e _; omega⟩
    · have Ho : Hid (¬ c.op = 2 ∧ ¬ (c.op = 3 ∨ c.op = 8) ∧ ¬ c.op = 4 ∧ ¬ c.op = 9 ∧ ¬ c.op = 5) := Lib.hid (by omega)
      have e2 : ((c.op : Int) == 2) = false := by rw [beq_eq_false_iff_ne]; omega
      have e3 : ((c.op : Int) == 3) = false := by rw [beq_eq_false_iff_ne]; omega
      have e4 : ((c.op : Int) == 4) = false := by rw [beq_eq_false_iff_ne]; omega
      have e5 : ((c.op : Int) == 5) = false := by rw [beq_eq_false_iff_ne]; omega
      have e8 : ((c.op : Int) == 8) = false := by rw [beq_eq_false_iff_ne]; omega
      have e9 : ((c.op : Int) == 9) = false := by rw [beq_eq_false_iff_ne]; omega
      have esw : Cm.swap c ts = c := by
        obtain ⟨h1, h2, h3, h4, h5⟩ := Ho.out
        unfold Cm.swap; rw [if_neg h1, if_neg h2, if_neg h3, if_neg h4, if_neg h5]
      go_wp2_with fail
      go_meet
      rw [esw]
      exact ⟨A, cap, 0, HS.out, HA.out.below HS.out.b, fun b off e hne => by
        rcases HA.out with h2 | ⟨b2, off2, e2, hb, _⟩
        · exfalso; have := pc_length c.parts; rw [h2] at this; exact hne (List.eq_nil_of_length_eq_zero (by simp at this; omega))
        · rw [e2] at e; injection e with e; injection e with e _; omega⟩
  case rest =>
    obtain ⟨A', cap', k', S, hL, hsep⟩ := hcut
    obtain ⟨d, hd⟩ : ∃ d, d = Cm.swap c ts := ⟨_, rfl⟩
    rw [← hd] at S hL hsep
    have Hd := Lib.hid hd
    clear hd HS
    obtain ⟨z0, z1, z2, z3, z4, z5, z6, z7, z8, z9, z10, z11, zz⟩ := cmdAt S.z
    obtain ⟨q0, q1, q2, q3, q4, q5, q6, q7, q8, q9, q10, q11, _⟩ := cmdAt S.c
    have HS := Lib.hid (And.intro S (And.intro hL hsep))
    clear S hL hsep
    go_wp2_with fail
    refine bodyPost_ret (results_cell_row (P := Try.prog) (fn := Try.f24) rfl _ _ (w.heap.size + 2) 30 _ (0, 0) _ rfl (cmdPut (c := d) (A := A') (cap := cap') HS.out.1.z) Try.underlying30 rfl sizeCmd) rfl ⟨A', cap', ?_, ?_, cmdBelow (c := d) (A := A') (cap := cap') HS.out.1.b (by omega)⟩
    · rw [← Hd.out]
    · rw [← Hd.out]
      by_cases he : d.parts = []
      · rw [he]; exact .inl rfl
      · exact cmdLies (c := d) (A := A') (cap := cap') HS.out.2.1 (fun b off e => HS.out.2.2 b off e he)
end Go.Proofs.Ytlcgjlganmblpaa
