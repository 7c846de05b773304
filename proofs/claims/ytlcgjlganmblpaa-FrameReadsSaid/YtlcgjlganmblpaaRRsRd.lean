/-
  wapentakeref03.ReadResult walked.
  wapentakeref03.ReadResult walked. WRITTEN BY wip/tools/gen_rsrd.py.
-/
import Derived.Test.YtlcgjlganmblpaaRCall
import Derived.Test.YtlcgjlganmblpaaRCmdRead
set_option linter.unusedSimpArgs false
set_option linter.unusedVariables false
namespace Go.Proofs.Ytlcgjlganmblpaa
open Go.RowKit
set_option linter.unusedVariables false
namespace Cm
theorem len_Sok {t : Tk} (h : (tS t).2.ok = true) (hok : t.ok = true) : (tS t).2.l.length + 1 ≤ t.l.length := by
  unfold tS at h ⊢
  split
  · rename_i x k hx
    obtain ⟨_, hl, hk⟩ := readS_some hx
    have h1 := congrArg List.length hl
    rw [List.length_append] at h1
    have h2 : (row x).length = (Nm.grp x.length).length + x.length := by unfold row; rw [List.length_append]
    have h3 := Nm.grp_length x.length
    simp only [List.length_drop] at h1 ⊢
    have h4 : 0 < (Nm.grp x.length).length := by rw [h3]; omega
    omega
  · rename_i hx
    rw [hx] at h; cases h
theorem okS {t : Tk} (h : (tS t).2.ok = true) : t.ok = true := by
  cases hk : t.ok with
  | true => rfl
  | false =>
    have := bad_S t.l
    have e : t = ⟨t.l, false⟩ := by cases t; simp only at hk; subst hk; rfl
    rw [← e] at this
    rw [this] at h; cases h
theorem okV {t : Tk} (h : (tV t).2.ok = true) : t.ok = true := by
  cases hk : t.ok with
  | true => rfl
  | false =>
    have := bad_V t.l
    have e : t = ⟨t.l, false⟩ := by cases t; simp only at hk; subst hk; rfl
    rw [← e] at this
    rw [this] at h; cases h
end Cm
namespace Rs
open Cm (Tk opt G)
/-- k rows of N are taken. -/
structure RI (q : Tk) (N k : Nat) (xs : List Row) (t : Tk) : Prop where
  bad : q.ok = false → t.ok = false
  no : q.ok = true → t.ok = false → rdRows N q.l = none
  yes : q.ok = true → t.ok = true → rdRows N q.l = (rdRows (N - k) t.l).bind fun x => some (xs ++ x.1, x.2)
theorem RI.start (q : Tk) (N : Nat) : RI q N 0 [] q := by
  refine ⟨fun h => h, fun h k => ?_, fun _ _ => ?_⟩
  · rw [h] at k; cases k
  · rw [Nat.sub_zero]
    rcases h : rdRows N q.l with _ | ⟨a, b⟩
    · rfl
    · rfl
theorem RI.step {q : Tk} {N k : Nat} {xs : List Row} {t t' : Tk} {x : Row} (h : RI q N k xs t) (hk : k < N) (ht : t.ok = true) (hp : G t (rdRow t.l) x t') : RI q N (k + 1) (xs ++ [x]) t' := by
  have e : N - k = (N - (k + 1)) + 1 := by omega
  have hr := hp.good ht
  refine ⟨fun hq => ?_, fun hq ht' => ?_, fun hq ht' => ?_⟩
  · have := h.bad hq; rw [ht] at this; cases this
  · rw [h.yes hq ht, e, rdRows, hr, opt, ht']; rfl
  · rw [h.yes hq ht, e, rdRows, hr, opt, ht']
    simp only [if_true, Option.bind_some]
    rcases hx : rdRows (N - (k + 1)) t'.l with _ | ⟨a, b⟩
    · rfl
    · simp
theorem RI.fin {q : Tk} {N k : Nat} {xs : List Row} {t : Tk} (h : RI q N k xs t) (he : t.ok = false ∨ k = N) : G q (rdRows N q.l) xs t := by
  refine ⟨h.bad, fun hq => ?_⟩
  by_cases ht : t.ok = true
  · have hk : k = N := by rcases he with e | e; (rw [ht] at e; cases e); exact e
    rw [h.yes hq ht, hk, Nat.sub_self]
    simp [rdRows, opt, ht]
  · have ht' : t.ok = false := by simpa using ht
    rw [h.no hq ht', opt, ht']; rfl
theorem grow {t t1 t2 t3 : Tk} {k v : ByteArray} {n : Nat} (h1 : Cm.tS t = (k, t1)) (h2 : Cm.tS t1 = (v, t2)) (h3 : Cm.tV t2 = (n, t3)) : G t (rdRow t.l) ⟨k, v, n⟩ t3 := by
  unfold rdRow
  exact (Cm.G.S h1).bind ((Cm.G.S h2).bind ((Cm.G.V h3).bind (Cm.G.pure _ _)))
theorem gparse {t0 t1 t2 t3 t4 t : Tk} {c n k : Nat} {v : ByteArray} {xs : List Row} (h0 : Cm.tB t0 = (c, t1)) (h1 : Cm.tV t1 = (n, t2)) (h2 : Cm.tS t2 = (v, t3)) (h3 : Cm.tV t3 = (k, t4)) (h : G t4 (rdRows k t4.l) xs t) : G t0 (parse t0.l) ⟨c, n, v, xs⟩ t := by
  unfold parse
  exact (Cm.G.B h0).bind ((Cm.G.V h1).bind ((Cm.G.S h2).bind ((Cm.G.V h3).bind (h.bind (Cm.G.pure _ _)))))
theorem gread {l : List UInt8} {t : Tk} {r : Res} (h : G ⟨l, true⟩ (parse l) r t) : read l = if t.ok = true ∧ t.l = [] then some r else none := by
  unfold read
  rw [h.good rfl]
  unfold opt
  by_cases ht : t.ok = true
  · by_cases hl : t.l = []
    · simp [ht, hl]
    · simp [ht, hl]
  · simp [ht]
end Rs
/-- How memory stands while a value of type T is read: the result's row, the taker, the value. -/
structure TSt (T : TypeId) (Z : Array Value) (w W : World) (g : Nat) (t : Cm.Tk) (X : Array Value) : Prop where
  b : Below w.heap.size w W
  z : W.heap[w.heap.size]? = some (.cells Z T (0, 0))
  t : TkAt W (w.heap.size + 1) t
  c : W.heap[g]? = some (.cells X T (0, 0))
  lo : w.heap.size + 1 < g
  hi : g < W.heap.size
theorem TSt.call {T : TypeId} {Z X : Array Value} {w W W' : World} {g : Nat} {t t' : Cm.Tk} (h : TSt T Z w W g t X) (ho : Only (w.heap.size + 1) W W') (ht : TkAt W' (w.heap.size + 1) t') : TSt T Z w W' g t' X :=
  ⟨ho.below h.b (by omega), (ho.block _ (Nat.lt_trans (Nat.lt_trans (by omega) h.lo) h.hi) (by omega)).trans h.z, ht, (ho.block _ h.hi (by have := h.lo; omega)).trans h.c, h.lo, Nat.lt_of_lt_of_le h.hi ho.size⟩
theorem TSt.grow {T : TypeId} {Z X : Array Value} {w W W' : World} {g : Nat} {t : Cm.Tk} (h : TSt T Z w W g t X) (hb : Below W.heap.size W W') : TSt T Z w W' g t X := h.call (Only.of hb) (h.t.below hb)
theorem TSt.put {T : TypeId} {Z X : Array Value} {w W : World} {g : Nat} {t : Cm.Tk} (h : TSt T Z w W g t X) (i : Nat) (v : Value) : TSt T Z w (W.setCell ⟨g, i, none⟩ v) g t (X.setIfInBounds i v) := by
  have hlo := h.lo
  exact ⟨h.b.setCell (p := ⟨g, i, none⟩) (by simp; omega) _, (Below.heap_setCell _ _ _ _ (by simp; omega)).trans h.z, (Below.heap_setCell _ _ _ _ (by simp; omega)).trans h.t, heap_setCell_same W g i _ _ v h.c, h.lo, by simpa using h.hi⟩
theorem TSt.grown {T : TypeId} {Z X : Array Value} {w W W' : World} {g : Nat} {t : Cm.Tk} {row : Option Nat} (h : TSt T Z w W g t X) (hg : W.grownBy W' row) (hr : ∀ k, row = some k → g + 1 ≤ k) : TSt T Z w W' g t X := by
  have hlo := h.lo
  have hhi := h.hi
  have key : ∀ k, k ≤ g → W'.heap[k]? = W.heap[k]? := fun k hk => hg.block k (by omega) (fun e => by have := hr k e.symm; omega)
  have hsz : w.heap.size ≤ W.heap.size := h.b.size
  exact ⟨h.b.grown hg hsz (fun k e => by have := hr k e; omega), (key _ (by omega)).trans h.z, (key _ (by omega)).trans h.t, (key _ (by omega)).trans h.c, h.lo, Nat.lt_of_lt_of_le h.hi hg.size⟩
theorem TSt.start (T : TypeId) (Z X : Array Value) (w w1 : World) (s : ByteArray) (t : Cm.Tk) (ho : Only (w.heap.size + 1) ((w.alloc (.cells Z T)).alloc (.cells #[.string s, .bool true] 116)) w1) (ht : TkAt w1 (w.heap.size + 1) t) :
    TSt T Z w (w1.alloc (.cells X T)) w1.heap.size t X := by
  have hsz := ho.size
  simp only [World.size_alloc] at hsz
  refine ⟨bnew (ho.below (bnew (bnew (Below.refl _ _) _) _) (by omega)) _, ?_, ht.below (bnew (Below.refl _ _) _), heap_alloc_new w1 _, by omega, by simp⟩
  rw [Below.heap_alloc _ _ _ (by omega), ho.block _ (by simp; omega) (by omega), Below.heap_alloc _ _ _ (by simp)]
  exact heap_alloc_new w _
theorem taker_new (T : TypeId) (Z : Array Value) (w : World) (s : ByteArray) : TkAt ((w.alloc (.cells Z T)).alloc (.cells #[.string s, .bool true] 116)) (w.heap.size + 1) ⟨s.data.toList, true⟩ := by
  have := heap_alloc_new (w.alloc (.cells Z T)) (.cells #[.string s, .bool true] 116)
  rw [World.size_alloc] at this
  unfold TkAt
  rw [this]
/-- How much a taker that is well has left, and one. -/
def leftOf (W : World) (g : Nat) : Nat := match W.cell? ⟨g, 0, none⟩, W.cell? ⟨g, 1, none⟩ with
  | some (.string s), some (.bool true) => s.size + 1
  | _, _ => 0
theorem leftOf_at {W : World} {g : Nat} {t : Cm.Tk} (h : TkAt W g t) : leftOf W g = if t.ok = true then t.l.length + 1 else 0 := by
  unfold leftOf
  rw [h.s, h.k]
  cases t.ok
  · rfl
  · simp [Lib.size_eq]
theorem own_liesR {W : World} {base : Nat} {A : Option Addr} {cap : Nat} {ps : List Rs.Row} (h : W.ownsRow base 78 3 (.slice A ps.length cap) ps.length (rc ps)) : Lies W A (rc ps) ∧ ∀ b off, A = some ⟨b, off, none⟩ → base ≤ b := by
  rcases h.2 with ⟨e, hn⟩ | ⟨g, cap', cur, e, hb, hg, _, _, hcs, htake⟩
  · have : ps = [] := List.eq_nil_of_length_eq_zero hn
    subst this
    injection e with e1
    subst e1
    exact ⟨.inl rfl, fun b off h => by cases h⟩
  · injection e with e1 e2 e3
    subst e1
    refine ⟨.inr ⟨g, 0, rfl, (Array.getElem?_eq_some_iff.1 hg).1, fun i u hu => ?_⟩, fun b off h => by injection h with h; injection h with h; omega⟩
    have := h.cells (g := g) rfl i u hu
    have e : (⟨g, 0, none⟩ : Addr).add i = ⟨g, 0 + i, none⟩ := by unfold Addr.add; split <;> simp_all
    rwa [e] at this
/-- The state, with the rows so far in memory of their own. -/
structure RB (w W : World) (g : Nat) (t : Cm.Tk) (c n : Nat) (v : ByteArray) (xs : List Rs.Row) (A : Option Addr) (cap : Nat) : Prop where
  st : TSt 37 (resC Rs.zero none 0) w W g t (resC ⟨c, n, v, xs⟩ A cap)
  own : W.ownsRow (g + 1) 78 3 (.slice A xs.length cap) xs.length (rc xs)
theorem RB.call {w W W' : World} {g : Nat} {t t' : Cm.Tk} {c n : Nat} {v : ByteArray} {xs : List Rs.Row} {A : Option Addr} {cap : Nat} (h : RB w W g t c n v xs A cap) (ho : Only (w.heap.size + 1) W W') (ht : TkAt W' (w.heap.size + 1) t') : RB w W' g t' c n v xs A cap := by
  refine ⟨h.st.call ho ht, h.own.kept ho.grown ?_⟩
  rcases e : (Value.slice A xs.length cap).ownBlock with _ | k
  · exact .inl rfl
  · refine .inr fun e2 => ?_
    injection e2 with e2
    have := (h.own.lt k e).1
    have := h.st.lo
    omega
theorem rows_put {w W : World} {g gq capq : Nat} {t : Cm.Tk} {c n : Nat} {v : ByteArray} {xs : List Rs.Row} {x : Rs.Row} {A : Option Addr} {cap : Nat} (h : TSt 37 (resC Rs.zero none 0) w W g t ((resC ⟨c, n, v, xs⟩ A cap).setIfInBounds 3 (.slice (some ⟨gq, 0, none⟩) (xs.length + 1) capq))) : TSt 37 (resC Rs.zero none 0) w W g t (resC ⟨c, n, v, xs ++ [x]⟩ (some ⟨gq, 0, none⟩) capq) := by
  rw [show xs.length + 1 = (xs ++ [x]).length by simp] at h
  exact h
theorem resAtZ {W : World} {q : Nat} (h : W.heap[q]? = some (.cells (resC Rs.zero none 0) 37 (0, 0))) : W.cell? ⟨q, 0, none⟩ = some (.int .u8 0) ∧ W.cell? ⟨q, 1, none⟩ = some (.int .u64 0) ∧ W.cell? ⟨q, 2, none⟩ = some (.string ⟨#[]⟩) ∧ W.cell? ⟨q, 3, none⟩ = some (.slice none 0 0) ∧ W.frozen? ⟨q, 0, none⟩ = false ∧ W.frozen? ⟨q, 1, none⟩ = false ∧ W.frozen? ⟨q, 2, none⟩ = false ∧ W.frozen? ⟨q, 3, none⟩ = false :=
  ⟨cell_of_row W q 0 _ _ _ h, cell_of_row W q 1 _ _ _ h, cell_of_row W q 2 _ _ _ h, cell_of_row W q 3 _ _ _ h, frozen_of_row W q 0 _ _ h, frozen_of_row W q 1 _ _ h, frozen_of_row W q 2 _ _ h, frozen_of_row W q 3 _ _ h⟩
end Go.Proofs.Ytlcgjlganmblpaa
namespace Go.Proofs.Ytlcgjlganmblpaa
open Go.RowKit
set_option linter.unusedVariables false
set_option maxRecDepth 100000 in
set_option maxHeartbeats 8000000 in
theorem refReadRes_any (s : ByteArray) (w : World) (hs : s.size ≤ 10000000) :
    Calls Try.prog 49 #[.string s] w (RetRr (Rs.read s.data.toList) w) := by
  obtain ⟨t0, ht0⟩ : ∃ t : Cm.Tk, t = ⟨s.data.toList, true⟩ := ⟨_, rfl⟩
  have hl0 : t0.l.length ≤ 10000000 := by rw [ht0, ← Lib.size_eq]; exact hs
  have T0 := taker_new 37 (resC Rs.zero none 0) w s
  rw [← ht0] at T0
  have hc := tkB_any _ _ _ T0 (by omega)
  have hlt := Cm.lt_B t0
  have hl1 := Cm.len_B t0
  generalize hB : Cm.tB t0 = r1 at hc hlt hl1
  obtain ⟨c, t1⟩ := r1
  simp only at hc hlt hl1
  have hw8 : (c : Int) % 256 = (c : Int) := by omega
  have HB := Lib.hid hB
  have Hc := Lib.hid hc
  have Ht0 := Lib.hid ht0
  clear hc T0 hB ht0
  go_enter Try.func49, Try.ntmps49
  go_wp2_with fail
  refine Hc.out.mono ?_
  rintro e w1 ⟨rfl, hT1, ho1⟩
  have HS := Lib.hid (TSt.start 37 (resC Rs.zero none 0) (resC ⟨c, 0, Cm.e0, []⟩ none 0) w w1 s t1 ho1 hT1)
  clear hT1 ho1 Hc
  go_upto_region 3 with (fail)
  refine forget (fun W => TSt 37 (resC Rs.zero none 0) w W w1.heap.size t1 (resC ⟨c, 0, Cm.e0, []⟩ none 0)) HS.out ?_
  clear hw8 HS
  obtain ⟨g, hg⟩ : ∃ g, g = w1.heap.size := ⟨_, rfl⟩
  rw [← hg]
  clear hg
  clear w1
  intro W0 S
  have HS := Lib.hid S
  clear S
  go_wp2_with fail
  have hc := tkV_any _ _ _ HS.out.t (by omega)
  have hl2 := Cm.len_V t1
  generalize hV2 : Cm.tV t1 = r at hc hl2
  obtain ⟨n, t2⟩ := r
  simp only at hc hl2
  refine hc.mono ?_
  rintro e W1 ⟨rfl, hT, ho⟩
  have S1 := HS.out.call ho hT
  have HV2 := Lib.hid hV2
  clear hc hT ho hV2 HS
  have kc : W1.cell? ⟨g, 1, none⟩ = some (.int .u64 0) := cell_of_row W1 g 1 _ _ _ S1.c
  have zc := frozen_of_row W1 g 1 _ _ S1.c
  have HS := Lib.hid (S1.put 1 (.int .u64 (n : Int)))
  clear S1
  go_upto_region 4 with (fail)
  refine forget (fun W => TSt 37 (resC Rs.zero none 0) w W g t2 (resC ⟨c, n, Cm.e0, []⟩ none 0)) HS.out ?_
  clear HS kc zc
  clear W0 W1
  intro W0 S
  have HS := Lib.hid S
  clear S
  go_wp2_with fail
  have hc := tkS_any _ _ _ HS.out.t (by omega)
  have hl3 := Cm.len_S t2
  generalize hV3 : Cm.tS t2 = r at hc hl3
  obtain ⟨v, t3⟩ := r
  simp only at hc hl3
  refine hc.mono ?_
  rintro e W1 ⟨rfl, hT, ho⟩
  have S1 := HS.out.call ho hT
  have HV3 := Lib.hid hV3
  clear hc hT ho hV3 HS
  have kc : W1.cell? ⟨g, 2, none⟩ = some (.string Cm.e0) := cell_of_row W1 g 2 _ _ _ S1.c
  have zc := frozen_of_row W1 g 2 _ _ S1.c
  have HS := Lib.hid (S1.put 2 (.string v))
  clear S1
  go_upto_region 5 with (fail)
  refine forget (fun W => TSt 37 (resC Rs.zero none 0) w W g t3 (resC ⟨c, n, v, []⟩ none 0)) HS.out ?_
  clear HS kc zc
  clear W0 W1
  intro W0 S
  have HS := Lib.hid S
  clear S
  go_wp2_with fail
  have hc := tkV_any _ _ _ HS.out.t (by omega)
  have hl4 := Cm.len_V t3
  generalize hV4 : Cm.tV t3 = r at hc hl4
  obtain ⟨N, t4⟩ := r
  simp only at hc hl4
  refine hc.mono ?_
  rintro e W1 ⟨rfl, hT, ho⟩
  have S1 := HS.out.call ho hT
  have HV4 := Lib.hid hV4
  clear hc hT ho hV4 HS
  have HS := Lib.hid S1
  clear S1
  go_upto_region 6 with (fail)
  refine forget (fun W => TSt 37 (resC Rs.zero none 0) w W g t4 (resC ⟨c, n, v, []⟩ none 0)) HS.out ?_
  clear HS
  clear W0 W1
  intro W0 S
  have HS := Lib.hid S
  clear S
  obtain ⟨i0, hi, hz0, hz1, hz2⟩ := info_parts Try.infoRow
  go_wp2_with fail
  go_loopw [7] (fun i wr => ∃ (t : Cm.Tk) (xs : List Rs.Row) (A : Option Addr) (cap : Nat), i = .int .u64 (xs.length : Int) ∧ xs.length ≤ N ∧ RB w wr g t c n v xs A cap ∧ Rs.RI t4 N xs.length xs t ∧ (t.ok = true → xs.length + t.l.length ≤ 10000000) ∧ xs.length ≤ 10000001 ∧ t.l.length ≤ 10000000) (fun _ wr => leftOf wr (w.heap.size + 1))
  case atStart => exact ⟨t4, [], none, 0, rfl, Nat.zero_le _, ⟨HS.out, World.ownsRow_nil _ _ _ _⟩, Rs.RI.start _ _, fun _ => by simp; omega, by simp, by omega⟩
  case round =>
    obtain ⟨t, xs, A, cap, rfl, hkN, hR, hI, hJ, hJ2, hJ3⟩ := hrel
    clear HS
    have HR := Lib.hid hR
    have HI := Lib.hid hI
    have u0 := hR.st.t.s
    have u1 := hR.st.t.k
    obtain ⟨k, hk⟩ : ∃ k, k = xs.length := ⟨_, rfl⟩
    have HK := Lib.hid hk
    have HJ := Lib.hid hJ
    rw [← hk] at hkN hJ2
    have HRead : Hid (∀ (hx : t.ok = false ∨ k = N), Rs.read s.data.toList = if t.ok = true ∧ t.l = [] then some ⟨c, n, v, xs⟩ else none) := Lib.hid (fun hx => by
      have h1 := Rs.gparse HB.out HV2.out HV3.out HV4.out (HI.out.fin (by rw [← HK.out]; exact hx))
      rw [Ht0.out] at h1
      exact Rs.gread h1)
    obtain ⟨tl, tok⟩ := t
    simp only at u0 u1 HRead hJ3
    rw [← HK.out]
    clear hk hR hI hJ
    by_cases hlt2 : k < N
    case neg =>
      have HkN : Hid (k = N) := Lib.hid (by omega)
      have d1 : decide ((k : Int) < (N : Int)) = false := by simp; omega
      have d2 : decide (k < N) = false := by simp; omega
      have d3 : ((k : Int) < (N : Int)) = False := by simp; omega
      clear hlt2 hi hz0 hz1 hz2
      cases tok
      case false =>
        have Hno : Hid (Rs.read s.data.toList = none) := Lib.hid (by rw [HRead.out (.inl rfl), if_neg (by simp)])
        obtain ⟨z0, z1, z2, z3, y0, y1, y2, y3⟩ := resAtZ HR.out.st.z
        go_wp2_with fail
        have hres := results_ct (P := Try.prog) (fn := Try.f49) rfl
        refine bodyPost_ret (hres _ _ w.heap.size 37 (resC Rs.zero none 0) (0, 0) _ rfl (resPut (r := Rs.zero) (A := none) (cap := 0) HR.out.st.z) Try.underlying37 rfl sizeRes) rfl ⟨none, 0, ?_, ?_, resBelow HR.out.st.b (Nat.le_refl _)⟩
        · rw [Hno.out]; rfl
        · rw [Hno.out]; exact .inl rfl
      case true =>
        rcases tl with _ | ⟨x, r⟩
        · have Hyes : Hid (Rs.read s.data.toList = some ⟨c, n, v, xs⟩) := Lib.hid (by rw [HRead.out (.inr HkN.out), if_pos ⟨rfl, rfl⟩])
          have y0 : decide ((0 : Int) < ((⟨#[]⟩ : ByteArray).size : Int)) = false := by rfl
          have hown := own_liesR HR.out.own
          have HO := Lib.hid hown
          obtain ⟨r, hr⟩ : ∃ r : Rs.Res, r = ⟨c, n, v, xs⟩ := ⟨_, rfl⟩
          have hc0 : wr.heap[g]? = some (.cells (resC r A cap) 37 (0, 0)) := by rw [hr]; exact HR.out.st.c
          have q0 : wr.cell? ⟨g, 0, none⟩ = some (.int .u8 (r.code : Int)) := cell_of_row wr g 0 _ _ _ hc0
          have q1 : wr.cell? ⟨g, 1, none⟩ = some (.int .u64 (r.n : Int)) := cell_of_row wr g 1 _ _ _ hc0
          have q2 : wr.cell? ⟨g, 2, none⟩ = some (.string r.val) := cell_of_row wr g 2 _ _ _ hc0
          have q3 : wr.cell? ⟨g, 3, none⟩ = some (.slice A r.rows.length cap) := cell_of_row wr g 3 _ _ _ hc0
          have hrr : r.rows = xs := by rw [hr]
          rw [← hr] at Hyes
          have Hrr := Lib.hid hrr
          clear hown hr hc0 hrr
          obtain ⟨z0, z1, z2, z3, e0, e1, e2, e3⟩ := resAtZ HR.out.st.z
          have hlo := HR.out.st.lo
          go_wp2_with fail
          have hres := results_ct (P := Try.prog) (fn := Try.f49) rfl
          refine bodyPost_ret (hres _ _ w.heap.size 37 (resC r A cap) (0, 0) _ rfl (resPut (r := r) (A := A) (cap := cap) HR.out.st.z) Try.underlying37 rfl sizeRes) rfl ⟨A, cap, ?_, ?_, resBelow HR.out.st.b (Nat.le_refl _)⟩
          · rw [Hyes.out]; rfl
          · rw [Hyes.out]
            refine resLies ?_ (fun b off h => by have := HO.out.2 b off h; omega)
            show Lies wr A (rc r.rows)
            rw [Hrr.out]; exact HO.out.1
        · have Hno : Hid (Rs.read s.data.toList = none) := Lib.hid (by rw [HRead.out (.inr HkN.out), if_neg (by simp)])
          obtain ⟨y, hy⟩ : ∃ y : ByteArray, y = ⟨(x :: r).toArray⟩ := ⟨_, rfl⟩
          rw [← hy] at u0
          have e0 : y.size = (x :: r).length := by rw [hy, Lib.size_eq]
          have e1 : 0 < y.size := by rw [e0]; simp
          have d0 : decide ((0 : Int) < (y.size : Int)) = true := by simp; omega
          clear hy e0
          obtain ⟨z0, z1, z2, z3, y0, y1, y2, y3⟩ := resAtZ HR.out.st.z
          go_wp2_with fail
          have hres := results_ct (P := Try.prog) (fn := Try.f49) rfl
          refine bodyPost_ret (hres _ _ w.heap.size 37 (resC Rs.zero none 0) (0, 0) _ rfl (resPut (r := Rs.zero) (A := none) (cap := 0) HR.out.st.z) Try.underlying37 rfl sizeRes) rfl ⟨none, 0, ?_, ?_, resBelow HR.out.st.b (Nat.le_refl _)⟩
          · rw [Hno.out]; rfl
          · rw [Hno.out]; exact .inl rfl
    have d1 : decide ((k : Int) < (N : Int)) = true := by simp; omega
    have d2 : decide (k < N) = true := by simp; omega
    have d3 : ((k : Int) < (N : Int)) = True := by simp; omega
    cases tok
    case false =>
      have Hno : Hid (Rs.read s.data.toList = none) := Lib.hid (by rw [HRead.out (.inl rfl), if_neg (by simp)])
      clear hi hz0 hz1 hz2
      obtain ⟨z0, z1, z2, z3, y0, y1, y2, y3⟩ := resAtZ HR.out.st.z
      go_wp2_with fail
      have hres := results_ct (P := Try.prog) (fn := Try.f49) rfl
      refine bodyPost_ret (hres _ _ w.heap.size 37 (resC Rs.zero none 0) (0, 0) _ rfl (resPut (r := Rs.zero) (A := none) (cap := 0) HR.out.st.z) Try.underlying37 rfl sizeRes) rfl ⟨none, 0, ?_, ?_, resBelow HR.out.st.b (Nat.le_refl _)⟩
      · rw [Hno.out]; rfl
      · rw [Hno.out]; exact .inl rfl
    have hlen := HJ.out rfl
    simp only at hlen
    rw [← HK.out] at hlen
    clear HJ
    obtain ⟨ta, hta⟩ : ∃ t : Cm.Tk, t = ⟨tl, true⟩ := ⟨_, rfl⟩
    have htok : ta.ok = true := by rw [hta]
    have htal : ta.l = tl := by rw [hta]
    rw [← hta] at HR HI
    have Hta := Lib.hid (And.intro htok (And.intro htal hta))
    clear htok htal hta
    have hla : ta.l.length ≤ 10000000 := by rw [Hta.out.2.1]; omega
    have hlka : k + ta.l.length ≤ 10000000 := by rw [Hta.out.2.1]; omega
    go_wp2_with fail
    have hc := tkS_any _ _ _ HR.out.st.t (by omega)
    have hb1 := Cm.len_S ta
    generalize hA1 : Cm.tS ta = r at hc hb1
    obtain ⟨key, tb⟩ := r
    simp only at hc hb1
    refine hc.mono ?_
    rintro e W1 ⟨rfl, hT, ho⟩
    have HA1 := Lib.hid hA1
    have hws : wr.heap.size ≤ W1.heap.size := ho.size
    have hgl : g < wr.heap.size := HR.out.st.hi
    have hlo := HR.out.st.lo
    have HW := Lib.hid (And.intro (ho.trans (Only.of (bnew (Below.refl _ _) (.cells #[.string key, .string ⟨#[]⟩, .int .u64 0] 78)))) (And.intro (hT.below (bnew (Below.refl _ _) (.cells #[.string key, .string ⟨#[]⟩, .int .u64 0] 78))) (heap_alloc_new W1 (.cells #[.string key, .string ⟨#[]⟩, .int .u64 0] 78))))
    clear hc hT ho hA1 u0 u1
    go_upto_region 10 with (fail)
    refine forget (fun W => Only (w.heap.size + 1) wr W ∧ TkAt W (w.heap.size + 1) tb ∧ W.heap[W1.heap.size]? = some (.cells #[.string key, .string ⟨#[]⟩, .int .u64 0] 78 (0, 0))) HW.out ?_
    clear HW
    obtain ⟨gp, hgp⟩ : ∃ g, g = W1.heap.size := ⟨_, rfl⟩
    have hgw : wr.heap.size ≤ gp := by omega
    rw [← hgp]
    clear hgp hws
    clear W1
    rintro W1 ⟨p1, p2, p3⟩
    have HW := Lib.hid (And.intro p1 (And.intro p2 p3))
    clear p1 p2 p3
    go_wp2_with fail
    have hc := tkS_any _ _ _ HW.out.2.1 (by omega)
    have htc := Cm.len_S tb
    generalize hA : Cm.tS tb = r at hc htc
    obtain ⟨vv, tc⟩ := r
    simp only at hc htc
    refine hc.mono ?_
    rintro e W2 ⟨rfl, hT, ho⟩
    have Htc := Lib.hid hA
    have hne : gp ≠ w.heap.size + 1 := by omega
    have hp2 := (ho.block gp (Array.getElem?_eq_some_iff.1 HW.out.2.2).1 hne).trans HW.out.2.2
    have kc : W2.cell? ⟨gp, 1, none⟩ = some (.string ⟨#[]⟩) := cell_of_row W2 gp 1 _ _ _ hp2
    have zc := frozen_of_row W2 gp 1 _ _ hp2
    have HX := Lib.hid (And.intro ((HW.out.1.trans ho).high hgw 1 (.string vv)) (And.intro (show TkAt (W2.setCell ⟨gp, 1, none⟩ (.string vv)) (w.heap.size + 1) tc from (Below.heap_setCell _ _ _ _ (by simp; omega)).trans hT) (heap_setCell_same W2 gp 1 _ _ (.string vv) hp2)))
    clear hc hA hT ho hp2 HW hne
    go_upto_region 11 with (fail)
    refine forget (fun W => Only (w.heap.size + 1) wr W ∧ TkAt W (w.heap.size + 1) tc ∧ W.heap[gp]? = some (.cells #[.string key, .string vv, .int .u64 0] 78 (0, 0))) HX.out ?_
    clear HX kc zc
    clear W1 W2
    rintro W1 ⟨p1, p2, p3⟩
    have HW := Lib.hid (And.intro p1 (And.intro p2 p3))
    clear p1 p2 p3
    go_wp2_with fail
    have hc := tkV_any _ _ _ HW.out.2.1 (by omega)
    have htd := Cm.len_V tc
    generalize hA : Cm.tV tc = r at hc htd
    obtain ⟨ver, td⟩ := r
    simp only at hc htd
    refine hc.mono ?_
    rintro e W2 ⟨rfl, hT, ho⟩
    have Htd := Lib.hid hA
    have hne : gp ≠ w.heap.size + 1 := by omega
    have hp2 := (ho.block gp (Array.getElem?_eq_some_iff.1 HW.out.2.2).1 hne).trans HW.out.2.2
    have kc : W2.cell? ⟨gp, 2, none⟩ = some (.int .u64 0) := cell_of_row W2 gp 2 _ _ _ hp2
    have zc := frozen_of_row W2 gp 2 _ _ hp2
    have HX := Lib.hid (And.intro ((HW.out.1.trans ho).high hgw 2 (.int .u64 (ver : Int))) (And.intro (show TkAt (W2.setCell ⟨gp, 2, none⟩ (.int .u64 (ver : Int))) (w.heap.size + 1) td from (Below.heap_setCell _ _ _ _ (by simp; omega)).trans hT) (heap_setCell_same W2 gp 2 _ _ (.int .u64 (ver : Int)) hp2)))
    clear hc hA hT ho hp2 HW hne
    go_upto_region 12 with (fail)
    refine forget (fun W => Only (w.heap.size + 1) wr W ∧ TkAt W (w.heap.size + 1) td ∧ W.heap[gp]? = some (.cells #[.string key, .string vv, .int .u64 (ver : Int)] 78 (0, 0))) HX.out ?_
    clear HX kc zc
    clear W1 W2
    rintro W1 ⟨p1, p2, p3⟩
    have HW := Lib.hid (And.intro p1 (And.intro p2 p3))
    clear p1 p2 p3
    have hR9 := HR.out.call HW.out.1 HW.out.2.1
    have hP9 := HW.out.2.2
    have hgp9 : gp < W1.heap.size := (Array.getElem?_eq_some_iff.1 hP9).1
    have m0 : W1.cell? ⟨gp, 0, none⟩ = some (.string key) := cell_of_row W1 gp 0 _ _ _ hP9
    have m1 : W1.cell? ⟨gp, 1, none⟩ = some (.string vv) := cell_of_row W1 gp 1 _ _ _ hP9
    have m2 : W1.cell? ⟨gp, 2, none⟩ = some (.int .u64 (ver : Int)) := cell_of_row W1 gp 2 _ _ _ hP9
    have c3 : W1.cell? ⟨g, 3, none⟩ = some (.slice A xs.length cap) := cell_of_row W1 g 3 _ _ _ hR9.st.c
    have hown := hR9.own
    have hhi := hR9.st.hi
    have H9 := Lib.hid hR9
    have hpk : xs.length ≤ 10000000 := by rw [← HK.out]; omega
    clear hP9 hR9 HW
    go_wp2_with (at_builtin; refine wpList_append_own _ rfl (.tmp 45) (.tmp 47) 35 rfl (g + 1) 78 i0 (.agg #[.string ⟨#[]⟩, .string ⟨#[]⟩, .int .u64 0]) 3 40 Try.underlying35 hi hz0 hz1 hz2 rfl (by decide) (.slice A xs.length cap) _ _ rfl (World.ownsRow.alloc hown _) ⟨W1.heap.size, 0, none⟩ 1 1 [.string key, .string vv, .int .u64 (ver : Int)] rfl rfl (news_new W1 _ _) (fun u hu => by simp at hu; rcases hu with rfl | rfl | rfl <;> rfl) (by simp only [maxLen]; omega) (by omega) (by simp; omega) ?_; intro v' w' ho' hg' _; have hex : ∃ gq capq, v' = .slice (some ⟨gq, 0, none⟩) (xs.length + 1) capq ∧ g + 1 ≤ gq := (by rcases ho'.2 with ⟨_, hn⟩ | ⟨gq, capq, cur, hv, hb, _⟩; (exfalso; omega); exact ⟨gq, capq, hv, hb⟩); obtain ⟨gq, capq, hv, hgq⟩ := hex; subst hv; have S' := (H9.out.st.grow (bnew (Below.refl _ _) _)).grown hg' (fun k e => (hown.lt k e).1); have d3' : w'.cell? ⟨g, 3, none⟩ = some (.slice A xs.length cap) := cell_of_row w' g 3 _ _ _ S'.c; have z3 := frozen_of_row w' g 3 _ _ S'.c; have HS' := Lib.hid S'; have Ho' := Lib.hid ho'; clear S' ho' hg')
    have HN := Lib.hid (And.intro (TSt.put HS'.out 3 (.slice (some ⟨gq, 0, none⟩) (xs.length + 1) capq)) (Ho'.out.kept (set_grown w' g 3 (.slice (some ⟨gq, 0, none⟩) (xs.length + 1) capq)) (.inr (fun e => by have e2 : gq = g := Option.some.inj e; omega))))
    have HG := Lib.hid (Rs.grow HA1.out Htc.out Htd.out)
    have HL : Hid (td.ok = true → td.l.length + 1 ≤ ta.l.length) := Lib.hid (fun h => by
      have e1 : tc.ok = true := Cm.okV (t := tc) (by rw [Htd.out]; exact h)
      have e2 : tb.ok = true := Cm.okS (t := tb) (by rw [Htc.out]; exact e1)
      have e3 := Cm.len_Sok (t := ta) (by rw [HA1.out]; exact e2) Hta.out.1
      rw [HA1.out] at e3
      simp only at e3
      omega)
    go_roundw
    case rel =>
      refine ⟨td, xs ++ [⟨key, vv, ver⟩], some ⟨gq, 0, none⟩, capq, ?_, ?_, ⟨rows_put HN.out.1, ?_⟩, ?_, ?_, ?_, by omega⟩
      · rw [List.length_append, ← HK.out]; rfl
      · rw [List.length_append, ← HK.out]; show k + 1 ≤ N; omega
      · have := HN.out.2
        rw [List.length_append]
        simpa [rc, rc1] using this
      · have := HI.out.step (by rw [← HK.out]; exact hlt2) Hta.out.1 HG.out
        rw [List.length_append]; exact this
      · intro h
        have := HL.out h
        rw [List.length_append, ← HK.out]
        show k + 1 + _ ≤ _
        omega
      · rw [List.length_append, ← HK.out]; show k + 1 ≤ _; omega
    case measure =>
      rw [leftOf_at HN.out.1.t, leftOf_at HR.out.st.t, Hta.out.1]
      have := HL.out
      cases htd : td.ok
      · simp
      · have := this htd
        simp; omega
end Go.Proofs.Ytlcgjlganmblpaa
