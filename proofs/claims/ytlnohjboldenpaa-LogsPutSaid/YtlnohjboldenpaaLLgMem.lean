/-
  Logs: the entries gone through backwards, by an iterator; the members after so many.
-/
import Derived.Test.YtlnohjboldenpaaLLgSmall
import Derived.Maps.AppendAt
import Derived.RangeFuncNested
import Derived.RangeFuncBound
import Derived.RangeFuncCalls
import Derived.RangeFuncLeaves
import Derived.RangeFuncBox
import Derived.Shelf.Abstract
import Derived.Shelf.RegionOpen
import Derived.WalkKit
import Derived.OwnWalkIn
import Derived.TacticsInMore
import Derived.LoopNIn
import Derived.LoopIn
set_option linter.unusedSimpArgs false
set_option linter.unusedVariables false
namespace Go.Proofs.Ytlnohjboldenpaa
open Go.RowKit Go.Shelf
attribute [local go_sem] Oper.semAt_some
theorem back_at (es : List En.E) (c k : Nat) (hc : c ≤ es.length) (hk : k + 1 ≤ c) : ((es.take c).reverse).take (c - (k + 1)) ++ [es[k]] = ((es.take c).reverse).take (c - k) := by
  have hl : (es.take c).reverse.length = c := by rw [List.length_reverse, List.length_take]; omega
  have e : c - k = (c - (k + 1)) + 1 := by omega
  have hlt : c - (k + 1) < (es.take c).reverse.length := by omega
  rw [e, List.take_succ_eq_append_getElem hlt]
  congr 2
  rw [List.getElem_reverse, List.getElem_take]
  congr 1
  rw [List.length_take]; omega
set_option maxHeartbeats 1000000 in
theorem backwards_in (F : Fence) (n : Nat) (hf : F.fn 98) (hro : F.round = none) (p c : Nat) (w : World) :
    CallsIn F n Try.prog 98 #[.pointer (some ⟨p, 0, none⟩), .int .i64 (c : Int)] w fun e w' => e = .returned (.func (.func 103) #[] #[.pointer (some ⟨w.heap.size + 1, 0, none⟩), .pointer (some ⟨w.heap.size, 0, none⟩)]) ∧ w' = (w.alloc (.cells #[.pointer (some ⟨p, 0, none⟩)] 28)).alloc (.cells #[.int .i64 (c : Int)] 3) := by
  refine callsIn_of_wp Try.func98 rfl hf ?_ hro
  simp only [Try.ntmps98, List.size_toArray, List.length_cons, List.length_nil, Nat.reduceAdd, Nat.reduceSub, Array.replicate_succ, Array.replicate_zero, List.push_toArray, List.append_toArray, List.nil_append, List.cons_append]
  gi_wp2
  go_ret
  exact ⟨by simp, rfl⟩
set_option maxRecDepth 100000 in
set_option maxHeartbeats 4000000 in
theorem back1_in (F : Fence) (n : Nat) (hf : F.fn 103) (hro : F.round = none) (hn : 1 ≤ n) (l Bc Bl n₀ p : Nat) (S : Nat → Prop) (L : Lg.L) (c : Nat) (hcl : c ≤ L.es.length) (J Jx : List En.E → World → Prop)
    (hY : ∀ pre x W, J pre W → pre.length < c → YieldAt F (n - 1) Try.prog l #[.agg (entC x)] W fun e W' => (e = .returned (.bool true) ∧ J (pre ++ [x]) W' ∧ Below n₀ W W') ∨ (e = .returned (.bool false) ∧ Jx (pre ++ [x]) W'))
    (W : World) (hBc : W.cell? ⟨Bc, 0, none⟩ = some (.int .i64 (c : Int))) (hBl : W.cell? ⟨Bl, 0, none⟩ = some (.pointer (some ⟨p, 0, none⟩))) (hln : Bl < n₀) (hnw : n₀ ≤ W.heap.size) (hL : LgAt W p S L) (hS : ∀ k, S k → k < n₀) (h0 : J [] W) :
    CallsIn F n Try.prog 103 #[.func (.yield l) #[] #[], .pointer (some ⟨Bc, 0, none⟩), .pointer (some ⟨Bl, 0, none⟩)] W fun e W' => (∃ v, e = .returned v) ∧
      ((∃ ys, ys = (L.es.take c).reverse ∧ J ys W') ∨ (∃ pre, pre <+: (L.es.take c).reverse ∧ Jx pre W')) := by
  have hfew := hL.fit.few
  have hRl : (L.es.take c).reverse.length = c := by rw [List.length_reverse, List.length_take]; omega
  have hcs : c ≤ 100000 := by omega
  refine callsIn_of_wp Try.func103 rfl hf ?_ hro
  simp only [Try.ntmps103, List.size_toArray, List.length_cons, List.length_nil, Nat.reduceAdd, Nat.reduceSub, Array.replicate_succ, Array.replicate_zero, List.push_toArray, List.append_toArray, List.nil_append, List.cons_append]
  gi_wp2
  gi_loopw [4] (fun v wr => ∃ (k : Nat), k ≤ c ∧ v = .int .i64 ((k : Int) - 1) ∧ LgAt wr p S L ∧ wr.cell? ⟨Bl, 0, none⟩ = some (.pointer (some ⟨p, 0, none⟩)) ∧ J ((L.es.take c).reverse.take (c - k)) wr) (fun v _ => (intOf v + 1).toNat)
  case atStart => exact ⟨c, Nat.le_refl _, rfl, hL, hBl, by rw [Nat.sub_self, List.take_zero]; exact h0⟩
  case round =>
    obtain ⟨k, hkc, rfl, hLw, hBw, hJ⟩ := hrel
    cases k with
    | zero =>
      gi_wp2
      go_end0
      refine ⟨⟨_, rfl⟩, .inl ⟨_, rfl, ?_⟩⟩
      rw [Nat.sub_zero, List.take_of_length_le (by omega)] at hJ
      exact hJ
    | succ k =>
      have e1 : (((k + 1 : Nat) : Int) - 1) = (k : Int) := by omega
      rw [e1]
      obtain ⟨A, cc, hr, hs, hp, hSA⟩ := hLw.own
      have c4 := (lg_cells hr).2.2.2.2
      have hkl : k < L.es.length := by omega
      obtain ⟨b, off, rfl, hE⟩ := hs.liesV.ent k hkl
      obtain ⟨fn, tmps, assign, body, hy, hR⟩ := hY _ L.es[k] wr hJ (by rw [List.length_take, hRl]; omega)
      have hba := back_at L.es c k hcl hkc
      rw [hba] at hR
      obtain ⟨x, hx⟩ : ∃ x, x = L.es[k] := ⟨_, rfl⟩
      rw [← hx] at hy hE
      clear hx hba e1
      unfold entC at hy
      obtain ⟨_, k0, k1, k2, k3, k4, k5, k6, k7, k8, k9, k10, k11, k12⟩ := hE
      gi_wp2
      have H := Lib.hid (And.intro hLw (And.intro hBw hS))
      clear hLw hBw hr hs c4 k0 k1 k2 k3 k4 k5 k6 k7 k8 k9 k10 k11 k12
      refine hR.mono ?_
      rintro e W' (⟨rfl, hJ', hk'⟩ | ⟨rfl, hJx'⟩)
      · have H2 := Lib.hid (And.intro (H.out.1.stays hk'.size fun j hj => hk'.block j (H.out.2.2 j hj)) ((hk'.cell (p := ⟨Bl, 0, none⟩) hln).trans H.out.2.1))
        clear hk' hY hy hR
        gi_wp2
        go_roundw
        case rel => exact ⟨k, by omega, rfl, H2.out.1, H2.out.2, hJ'⟩
        case measure => first | (simp [intOf]; done) | (simp [intOf]; omega)
      · gi_wp2
        refine bodyPost_ret (results_none rfl _ _ _) rfl ?_
        exact ⟨⟨_, rfl⟩, .inr ⟨_, List.take_prefix _ _, hJx'⟩⟩
theorem backwards_stops (F : Fence) (n : Nat) (hf : F.fn 103) (hro : F.round = none) (hn : 1 ≤ n) (Bc Bl p : Nat) (S : Nat → Prop) (L : Lg.L) (c : Nat) (hcl : c ≤ L.es.length) (w : World) (hBc : w.cell? ⟨Bc, 0, none⟩ = some (.int .i64 (c : Int))) (hBl : w.cell? ⟨Bl, 0, none⟩ = some (.pointer (some ⟨p, 0, none⟩))) (hL : LgAt w p S L) :
    SeqStopsK F n Try.prog 103 #[.pointer (some ⟨Bc, 0, none⟩), .pointer (some ⟨Bl, 0, none⟩)] (fun x : En.E => #[Value.agg (entC x)]) (Below w.heap.size) (fun ys => ys = (L.es.take c).reverse) (fun pre => pre <+: (L.es.take c).reverse) c w := fun l J Jx W hW _ _ hY h0 =>
  back1_in F n hf hro hn l Bc Bl w.heap.size p S L c hcl J Jx hY W ((hW.cell (p := ⟨Bc, 0, none⟩) (World.block_lt_of_cell? _ _ hBc)).trans hBc) ((hW.cell (p := ⟨Bl, 0, none⟩) (World.block_lt_of_cell? _ _ hBl)).trans hBl) (World.block_lt_of_cell? _ _ hBl) hW.size (hL.bel hW) hL.lt h0
theorem body_one {s : ByteArray} (h : s.size = 1) : ∃ b, s = ⟨#[b]⟩ := by
  obtain ⟨⟨l⟩⟩ := s
  match l, h with
  | [b], _ => exact ⟨b, rfl⟩
theorem memA_none {l : Lg.L} {c : Nat} (h : ∀ x ∈ (l.es.take c).reverse, Lg.isC x = false) : Lg.memA l c = (l.mem, l.idx) := by
  unfold Lg.memA
  have : (l.es.take c).reverse.find? Lg.isC = none := List.find?_eq_none.2 fun x hx => by rw [h x hx]; simp
  rw [this]
theorem memA_some {l : Lg.L} {c : Nat} {pre : List En.E} {x : En.E} (h : pre ++ [x] <+: (l.es.take c).reverse) (hp : ∀ y ∈ pre, Lg.isC y = false) (hx : Lg.isC x = true) : Lg.memA l c = (Lg.mb x, x.idx) := by
  unfold Lg.memA
  obtain ⟨r, hr⟩ := h
  have : (l.es.take c).reverse.find? Lg.isC = some x := by
    rw [← hr, List.append_assoc, List.find?_append, List.find?_eq_none.2 (fun y hy => by rw [hp y hy]; simp)]
    simp [hx]
  rw [this]
/-- A row keeps as a box does. -/
theorem rw_own {X Y : World} {row : Option Nat} {g : Nat} {cs : Array Value} {T : TypeId} (h : Rw X g cs T) (hg : X.grownBy Y row) (hr : ∀ r, row = some r → ∃ o : Obj, X.heap[r]? = some o ∧ o.isCells = false) : Rw Y g cs T :=
  (hg.block g h.lt (fun e => by
    obtain ⟨o, h1, h2⟩ := hr g e.symm
    rw [h] at h1
    injection h1 with h1
    rw [← h1] at h2
    cases h2)).trans h
/-- Two results have been stored. -/
structure Two (g B a b : Nat) (W W2 : World) : Prop where
  b0 : Boxed W2 g 5 (.int .u8 (a : Int))
  b1 : Boxed W2 (g + 1) 22 (.int .u64 (b : Int))
  bel : Below g W W2
  kf : KeepsFrom B W W2
theorem Two.drew {g B a b : Nat} {W W2 : World} (h : Two g B a b W W2) : Two g B a b W W2.drew := ⟨h.b0, h.b1, ⟨h.bel.os, h.bel.tape, h.bel.output, h.bel.size, h.bel.block⟩, h.kf.trans ((KeepsOthers.drew W2).from B)⟩
theorem two_ab {g B : Nat} {W : World} {v0 v1 : Value} (q0 : Boxed W g 5 v0) (q1 : Boxed W (g + 1) 22 v1) (a b : Nat) : Two g B a b W ((W.setCell ⟨g, 0, none⟩ (.int .u8 (a : Int))).setCell ⟨g + 1, 0, none⟩ (.int .u64 (b : Int))) :=
  ⟨(q0.set _).other (by omega) _, (q1.other (by omega) _).set _, ((Below.refl g W).setCell (p := ⟨g, 0, none⟩) (Nat.le_refl _) _).setCell (p := ⟨g + 1, 0, none⟩) (Nat.le_succ _) _, ((KeepsOthers.setCell _ _ _).from B).trans ((KeepsOthers.setCell _ _ _).from B)⟩
theorem two_ba {g B : Nat} {W : World} {v0 v1 : Value} (q0 : Boxed W g 5 v0) (q1 : Boxed W (g + 1) 22 v1) (a b : Nat) : Two g B a b W ((W.setCell ⟨g + 1, 0, none⟩ (.int .u64 (b : Int))).setCell ⟨g, 0, none⟩ (.int .u8 (a : Int))) :=
  ⟨(q0.other (by omega) _).set _, (q1.set _).other (by omega) _, ((Below.refl g W).setCell (p := ⟨g + 1, 0, none⟩) (Nat.le_succ _) _).setCell (p := ⟨g, 0, none⟩) (Nat.le_refl _) _, ((KeepsOthers.setCell _ _ _).from B).trans ((KeepsOthers.setCell _ _ _).from B)⟩
theorem cutM {G C : Prop} (h : Hid G → C) (g : G) : C := h (Lib.hid g)
/-- The two results as they are told at last. -/
theorem two_end {g D a b : Nat} {W : World} {w : World} (b0 : Boxed W g 5 (.int .u8 (a : Int))) (b1 : Boxed W (g + 1) 22 (.int .u64 (b : Int))) (hK : W.heap[D]? = some (.deferred (some []))) (hb : Below w.heap.size w W) (hD : w.heap.size ≤ D) (tmps : Array Value) (t4 : tmps.getD 4 undef = .pointer (some ⟨g, 0, none⟩)) (t5 : tmps.getD 5 undef = .pointer (some ⟨g + 1, 0, none⟩)) :
    ∃ v, (results Try.f90 tmps).run Try.prog (W.putObj D (.deferred none)) = .ok v (W.putObj D (.deferred none)) ∧ Ending.returned v = .returned (.tuple #[.int .u8 (a : Int), .int .u64 (b : Int)]) ∧ Below w.heap.size w (W.putObj D (.deferred none)) := by
  have c0 := cell_kept b0.cell (grownBy_putObj' W D (.deferred none)) (fun r e => by cases e; exact ⟨_, hK, rfl⟩)
  have c1 := cell_kept b1.cell (grownBy_putObj' W D (.deferred none)) (fun r e => by cases e; exact ⟨_, hK, rfl⟩)
  refine ⟨.tuple #[.int .u8 (a : Int), .int .u64 (b : Int)], ?_, rfl, hb.trans (belowK_b (w := w) (Nat.le_refl _) W D _ _ hD hK rfl rfl)⟩
  have t4' : tmps[4]?.getD undef = .pointer (some ⟨g, 0, none⟩) := by simpa using t4
  have t5' : tmps[5]?.getD undef = .pointer (some ⟨g + 1, 0, none⟩) := by simpa using t5
  simp [results, Try.f90, go_sem, c0, c1, t4', t5']
set_option maxRecDepth 100000 in
set_option maxHeartbeats 4000000 in
theorem membersAfter_in (F : Fence) (n : Nat) (h50 : F.fn 90) (h55 : F.fn 98) (h58 : F.fn 103) (hro : F.round = none) (hn : 3 ≤ n) (w : World) (p : Nat) (S : Nat → Prop) (L : Lg.L) (hL : LgAt w p S L) (c : Nat) (hcl : c ≤ L.es.length) :
    CallsIn F n Try.prog 90 #[.pointer (some ⟨p, 0, none⟩), .int .i64 (c : Int)] w fun e W' => e = .returned (.tuple #[.int .u8 ((Lg.memA L c).1 : Int), .int .u64 ((Lg.memA L c).2 : Int)]) ∧ Below w.heap.size w W' := by
  have h1 : 1 ≤ n := by omega
  refine callsIn_of_wp_marks Try.func90 rfl h50 ?_ hro
  simp only [Try.ntmps90, List.size_toArray, List.length_cons, List.length_nil, Nat.reduceAdd, Nat.reduceSub, Array.replicate_succ, Array.replicate_zero, List.push_toArray, List.append_toArray, List.nil_append, List.cons_append]
  gi_wp2_with (gi_at_call 98; refine (backwards_in F (n - 1) h55 hro p c _).mono ?_; rintro e w' ⟨rfl, rfl⟩)
  obtain ⟨g, hg⟩ : ∃ g, g = w.heap.size := ⟨_, rfl⟩
  have b0 := (((Boxed.new w 5 (.int .u8 0)).alloc (.cells #[.int .u64 0] 22)).alloc (.cells #[.pointer (some ⟨p, 0, none⟩)] 28)).alloc (.cells #[.int .i64 (c : Int)] 3)
  have b1 := ((Boxed.new (w.alloc (.cells #[.int .u8 0] 5)) 22 (.int .u64 0)).alloc (.cells #[.pointer (some ⟨p, 0, none⟩)] 28)).alloc (.cells #[.int .i64 (c : Int)] 3)
  have b2 := (Boxed.new ((w.alloc (.cells #[.int .u8 0] 5)).alloc (.cells #[.int .u64 0] 22)) 28 (.pointer (some ⟨p, 0, none⟩))).alloc (.cells #[.int .i64 (c : Int)] 3)
  have b3 := Boxed.new (((w.alloc (.cells #[.int .u8 0] 5)).alloc (.cells #[.int .u64 0] 22)).alloc (.cells #[.pointer (some ⟨p, 0, none⟩)] 28)) 3 (.int .i64 (c : Int))
  simp only [World.size_alloc] at b0 b1 b2 b3
  have hB0 : Below w.heap.size w ((((w.alloc (.cells #[.int .u8 0] 5)).alloc (.cells #[.int .u64 0] 22)).alloc (.cells #[.pointer (some ⟨p, 0, none⟩)] 28)).alloc (.cells #[.int .i64 (c : Int)] 3)) := (((Bl.refl w).alloc _).alloc _).alloc _ |>.alloc _
  have hsz : ((((w.alloc (.cells #[.int .u8 0] 5)).alloc (.cells #[.int .u64 0] 22)).alloc (.cells #[.pointer (some ⟨p, 0, none⟩)] 28)).alloc (.cells #[.int .i64 (c : Int)] 3)).heap.size = w.heap.size + 4 := by simp
  obtain ⟨W0, hW0⟩ : ∃ W0, ((((w.alloc (.cells #[.int .u8 0] 5)).alloc (.cells #[.int .u64 0] 22)).alloc (.cells #[.pointer (some ⟨p, 0, none⟩)] 28)).alloc (.cells #[.int .i64 (c : Int)] 3)) = W0 := ⟨_, rfl⟩
  rw [hW0] at b0 b1 b2 b3 hB0 hsz ⊢
  rw [← hg] at b0 b1 b2 b3 hB0 hsz ⊢
  clear hW0
  have hL0 : LgAt W0 p S L := hL.bel (by rw [← hg]; exact hB0)
  have HGs := Lib.hid hg
  clear hg
  refine wpIn_rangeFunc_ownH hro h1 (gf := 103) (lb := #[.pointer (some ⟨g + 1 + 1 + 1, 0, none⟩), .pointer (some ⟨g + 1 + 1, 0, none⟩)]) rfl h58 (enters_of Try.func103 (by kernel_rfl) rfl)
    (backwards_stops F (n - 1) h58 hro (by omega) (g + 1 + 1 + 1) (g + 1 + 1) p S L c hcl W0 b3.cell b2.cell hL0) belowK_t (belowK_b (Nat.le_refl _)) (Below.refl _ _) (fun _ => rfl)
    (fun pre W => (∀ y ∈ pre, Lg.isC y = false) ∧ Below W0.heap.size W0 W)
    (fun cc pre W => (cc = .ret ∧ ∃ pre' x, pre = pre' ++ [x] ∧ (∀ y ∈ pre', Lg.isC y = false) ∧ Lg.isC x = true ∧ Boxed W g 5 (.int .u8 (Lg.mb x : Int)) ∧ Boxed W (g + 1) 22 (.int .u64 (x.idx : Int))) ∧ Below g w W)
    (fun s A B row hs hg' hr => ⟨hs.1, hs.2.grown hg' hs.2.size (fun k hk => (hr k hk).1)⟩)
    (fun cc s A B row hs hg' hr => by
      obtain ⟨⟨h1, pre', x, h2, h3, h4, h5, h6⟩, h7⟩ := hs
      have hne : ∀ j, j < W0.heap.size → some j ≠ row := fun j hj e => by
        have := (hr j e.symm).1
        omega
      exact ⟨⟨h1, pre', x, h2, h3, h4, h5.kept hg' (hne g (by omega)), h6.kept hg' (hne (g + 1) (by omega))⟩, h7.grown hg' (by have := h7.size; have := HGs.out; omega) (fun k hk => by have := (hr k hk).1; omega)⟩)
    ⟨(fun y hy => by cases hy), Below.refl _ _⟩
    (fun x a' W => ∃ Bx, W0.heap.size ≤ Bx ∧ Rw W Bx (entC x) 49 ∧ a' = { tmps := #[.pointer (some ⟨p, 0, none⟩), .int .i64 (c : Int), undef, undef, .pointer (some ⟨g, 0, none⟩), .pointer (some ⟨g + 1, 0, none⟩), .pointer (some ⟨Bx, 0, none⟩), .pointer (some ⟨p, 0, none⟩), .int .i64 (c : Int), .func (.func 103) #[] #[.pointer (some ⟨g + 1 + 1 + 1, 0, none⟩), .pointer (some ⟨g + 1 + 1, 0, none⟩)], .agg (entC x), undef, undef, undef, undef, undef, undef, undef, undef, undef, undef, undef, undef, undef, undef, undef, undef, undef, undef, undef, undef, undef, undef], defers := [] })
    (fun x a' _ X Y row hs hg' hr => by obtain ⟨Bx, h1, h2, h3⟩ := hs; exact ⟨Bx, h1, rw_own h2 hg' (fun r e => (hr r e).2), h3⟩)
    ?assign ?body ?done ?stop
  case assign =>
    rintro l pre x W K ⟨hp, hB⟩ hK
    have hst := storeEnt (entC x) rfl (entF x).one W
    have hK2 := hK { tmps := #[.pointer (some ⟨p, 0, none⟩), .int .i64 (c : Int), undef, undef, .pointer (some ⟨g, 0, none⟩), .pointer (some ⟨g + 1, 0, none⟩), .pointer (some ⟨W.heap.size, 0, none⟩), .pointer (some ⟨p, 0, none⟩), .int .i64 (c : Int), .func (.func 103) #[] #[.pointer (some ⟨g + 1 + 1 + 1, 0, none⟩), .pointer (some ⟨g + 1 + 1, 0, none⟩)], .agg (entC x), undef, undef, undef, undef, undef, undef, undef, undef, undef, undef, undef, undef, undef, undef, undef, undef, undef, undef, undef, undef, undef, undef], defers := [] } (W.alloc (.cells (entC x) 49)) ((KeepsOthers.alloc _ _).from _) ((Below.refl _ W).alloc hB.size _) ⟨hp, hB.alloc hB.size _⟩ ⟨W.heap.size, hB.size, Rw.new W _ _, rfl⟩
    unfold entC at hst hK2 ⊢
    gi_wp2
    exact hK2
  case body =>
    rintro l pre x a' W hl ⟨r, hr⟩ ⟨hp, hB⟩ ⟨Bx, hBx, bX, rfl⟩ hlt
    have HH := Lib.hid (And.intro hp (And.intro hB hBx))
    obtain ⟨x0, x1, x2, x3, x4, x5, x6, x7, x8, x9, x10, x11, x12, xf⟩ := entAt bX
    have HC : Hid (Lg.isC x = (decide (x.kind = 2) && decide (x.body.size = 1))) := Lib.hid rfl
    have c0 := (b0.cell)
    have q0 : Boxed W g 5 (.int .u8 0) := (hB.block g (by omega)).trans b0
    have q1 : Boxed W (g + 1) 22 (.int .u64 0) := (hB.block (g + 1) (by omega)).trans b1
    have y0 := q0.cell
    have y1 := q1.cell
    have z0 := q0.frozen
    have z1 := q1.frozen
    have HQ := Lib.hid (And.intro q0 q1)
    clear hp hB hBx bX q0 q1 c0 x3 x4 x5 x6 x7 x8 x9 x10 x11 xf
    by_cases hk : x.kind = 2
    · have e1 : ((x.kind : Int) == 2) = true := by simp; omega
      have e2 : ((x.kind : Int) = 2) = True := by simp; omega
      by_cases hs : x.body.size = 1
      · have HX : Hid (Lg.isC x = true) := Lib.hid (by rw [HC.out, decide_eq_true hk, decide_eq_true hs]; rfl)
        obtain ⟨bb, hbb⟩ := body_one hs
        have HMb : Hid (Lg.mb x = bb.toNat) := Lib.hid (by unfold Lg.mb; rw [hbb]; rfl)
        rw [hbb] at x12
        have HXi : Hid (∀ n : Nat, n = x.idx → n = x.idx) := Lib.hid fun n h => h
        obtain ⟨xi, hxi⟩ : ∃ xi, xi = x.idx := ⟨_, rfl⟩
        rw [← hxi] at x0
        have HXi := Lib.hid hxi
        have hfo : Try.prog.follows Departure.mixedOrders = true := by kernel_rfl
        have hBx := HH.out.2.2
        have n1 : ¬ g = Bx := by omega
        have n2 : ¬ Bx = g := by omega
        have n3 : ¬ g + 1 = Bx := by omega
        have n4 : ¬ Bx = g + 1 := by omega
        clear hs hbb hxi hk HC hBx
        gi_wp2
        apply cutM
        case h =>
          intro key
          have hfo : Try.prog.follows Departure.mixedOrders = true := by kernel_rfl
          gi_region_with_o (fail)
          all_goals
            refine forgetX (fun W2 => Two g W0.heap.size bb.toNat xi W W2) ?_ ?_
            · first | exact two_ab HQ.out.1 HQ.out.2 bb.toNat xi | exact two_ba HQ.out.1 HQ.out.2 bb.toNat xi | exact (two_ab HQ.out.1 HQ.out.2 bb.toNat xi).drew | exact (two_ba HQ.out.1 HQ.out.2 bb.toNat xi).drew
            · exact key.out
        case g =>
          intro W2 H2
          gi_wp2
          exact ⟨H2.kf, ⟨rfl, pre, x, rfl, HH.out.1, HX.out, by rw [HMb.out]; exact H2.b0, by rw [← HXi.out]; exact H2.b1⟩, (hB0.trans (HH.out.2.1.mono (by omega))).trans H2.bel⟩
      · have HX : Hid (Lg.isC x = false) := Lib.hid (by rw [HC.out, decide_eq_false hs, Bool.and_false])
        have e3 : ((x.body.size : Int) == 1) = false := by simp; omega
        have e4 : ((x.body.size : Int) = 1) = False := by simp; omega
        gi_wp2
        exact ⟨KeepsFrom.refl _ _, Below.refl _ _, fun y hy => (List.mem_append.1 hy).elim (HH.out.1 y) (fun h => by rw [List.mem_singleton.1 h]; exact HX.out), HH.out.2.1⟩
    · have HX : Hid (Lg.isC x = false) := Lib.hid (by rw [HC.out, decide_eq_false hk, Bool.false_and])
      have e1 : ((x.kind : Int) == 2) = false := by simp; omega
      have e2 : ((x.kind : Int) = 2) = False := by simp; omega
      gi_wp2
      exact ⟨KeepsFrom.refl _ _, Below.refl _ _, fun y hy => (List.mem_append.1 hy).elim (HH.out.1 y) (fun h => by rw [List.mem_singleton.1 h]; exact HX.out), HH.out.2.1⟩
  case done =>
    rintro D zs W hD rfl ⟨hp, hB⟩ hK
    obtain ⟨A, cc, hrw, _⟩ := (hL0.bel hB).own
    obtain ⟨d0, d1, d2, d3, d4⟩ := lg_cells hrw
    have q0 : Boxed W g 5 (.int .u8 0) := (hB.block g (by omega)).trans b0
    have q1 : Boxed W (g + 1) 22 (.int .u64 0) := (hB.block (g + 1) (by omega)).trans b1
    have y0 := q0.cell
    have y1 := q1.cell
    have z0 := q0.frozen
    have z1 := q1.frozen
    have E : Hid (Lg.memA L c = (L.mem, L.idx)) := Lib.hid (memA_none hp)
    have HQ := Lib.hid (And.intro q0 (And.intro q1 hB))
    have n1 : ¬ g = p := by have := hL.lt p hL.sp; have := HGs.out; omega
    have n2 : ¬ p = g := fun e => n1 e.symm
    have n3 : ¬ g + 1 = p := by have := hL.lt p hL.sp; have := HGs.out; omega
    have n4 : ¬ p = g + 1 := fun e => n3 e.symm
    have HKd := Lib.hid hK
    clear hp hB hrw d0 d2 d4 q0 q1 hK
    gi_wp2
    apply cutM
    case h =>
      intro key
      have hfo : Try.prog.follows Departure.mixedOrders = true := by kernel_rfl
      gi_region_with_o (fail)
      all_goals
        refine forgetX (fun W2 => Two g W0.heap.size L.mem L.idx W W2) ?_ ?_
        · first | exact two_ab HQ.out.1 HQ.out.2.1 L.mem L.idx | exact two_ba HQ.out.1 HQ.out.2.1 L.mem L.idx | exact (two_ab HQ.out.1 HQ.out.2.1 L.mem L.idx).drew | exact (two_ba HQ.out.1 HQ.out.2.1 L.mem L.idx).drew
        · exact key.out
    case g =>
      intro W2 H2
      have hK2 := H2.kf.same D _ hD HKd.out rfl
      gi_wp2
      refine ⟨by simp, .inl ⟨_, _, rfl, run_takeDeferred hK2, ?_⟩⟩
      rw [E.out]
      exact two_end H2.b0 H2.b1 hK2 (by rw [← HGs.out]; exact (hB0.trans (HQ.out.2.2.mono (by omega))).trans H2.bel) (by have := HGs.out; omega) _ rfl rfl
  case stop =>
    rintro D cc pre W hD hpre ⟨⟨rfl, pre', x, rfl, h2, h3, h4, h5⟩, h6⟩ hK
    have y0 := h4.cell
    have y1 := h5.cell
    gi_wp2
    refine ⟨by simp, .inl ⟨_, _, rfl, run_takeDeferred hK, ?_⟩⟩
    rw [memA_some hpre h2 h3]
    exact two_end h4 h5 hK (by rw [← HGs.out]; exact h6) (by have := HGs.out; omega) _ rfl rfl
theorem membersAfter_any {p : Nat} {S : Nat → Prop} {l : Lg.L} (W : World) (h : LgAt W p S l) (c : Nat) (hc : c ≤ l.es.length) :
    Calls Try.prog 90 #[.pointer (some ⟨p, 0, none⟩), .int .i64 (c : Int)] W (RetL (.tuple #[.int .u8 ((Lg.memA l c).1 : Int), .int .u64 ((Lg.memA l c).2 : Int)]) W) :=
  (callsIn_wide (n := 3)).1 (membersAfter_in Fence.wide 3 trivial trivial trivial rfl (by omega) W p S l h c hc)
end Go.Proofs.Ytlnohjboldenpaa
