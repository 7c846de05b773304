/-
  cmd.Write and cmd.WriteResult walked.
  cmd.Read walked.
  cmd.ReadResult walked.
-/
import Derived.Test.YtlcgjlganmblpaaRInst
import Derived.Test.YtlcgjlganmblpaaRScD
import Derived.Test.YtlcgjlganmblpaaRCmdMay
import Derived.Test.YtlcgjlganmblpaaRMath
import Derived.Test.YtlcgjlganmblpaaRCmdRead
import Derived.Test.YtlcgjlganmblpaaRRes
set_option linter.unusedSimpArgs false
set_option linter.unusedVariables false
namespace Go.Proofs.Ytlcgjlganmblpaa
open Go.RowKit
/-- A writer that was just made. -/
theorem WrAt.new (w : World) : WrAt w.heap.size (w.alloc (.cells #[.pointer none, .slice none 0 0, .bool false] 100)) w.heap.size none ⟨[], false⟩ :=
  ⟨_, _, ⟨.inl rfl, heap_alloc_new w _, World.ownsRow_nil _ _ _ _, Nat.le_refl _⟩, rfl⟩
theorem Made.below {T : TypeId} {A : Wk.Alg} {B : Nat} {K : Wkr T A B} {W w' : World} {g : Nat} {o o' : Option Nat} {s' : Wk.St} {Au : Option Addr} {cs : List Value} (h : Made K W w' g o o' s' Au cs) {w : World} {C : Nat} (hb : Below C w W) (hC : C ≤ W.heap.size) (hg : C ≤ g) (ho : o = none) : Below C w w' :=
  h.kept.below hb hC hg (fun k e => by rw [ho] at e; cases e)
set_option maxRecDepth 100000 in
set_option maxHeartbeats 1000000 in
theorem wenc_any (B : Nat) (W : World) (g : Nat) (o : Option Nat) (s : Wk.St) (h : WrAt B W g o s) (h0 : s.bad = false → s.l ≠ []) :
    Calls Try.prog 59 #[.pointer (some ⟨g, 0, none⟩)] W fun e w' => e = .returned (.string (if s.bad then ⟨#[]⟩ else ⟨s.l.toArray⟩)) ∧ Below B W w' := by
  have H := Lib.hid h
  obtain ⟨p, v, hP, rfl⟩ := h
  have c2 := hP.c2
  cases hb : s.bad
  · have Hc := Lib.hid (bstring_any B W g _ s H.out (h0 hb))
    rw [hb] at c2
    clear hP H
    go_enter Try.func59, Try.ntmps59
    go_wp2_with fail
    refine Hc.out.mono ?_
    rintro e w1 ⟨rfl, hb1⟩
    go_wp2_with fail
    go_ret
    exact ⟨rfl, hb1⟩
  · rw [hb] at c2
    clear hP H
    go_enter Try.func59, Try.ntmps59
    go_wp2_with fail
    go_ret
    exact ⟨rfl, Below.refl _ _⟩
set_option maxRecDepth 100000 in
set_option maxHeartbeats 2000000 in
theorem cwrite_any (c : Cm.Cmd) (hf : Cm.Fits c) (hz : Short c) (A : Option Addr) (cap : Nat) (w : World) (hA : Lies w A (pc c.parts)) (h0 : (Wk.wA.cmd ⟨[], false⟩ c).2.bad = false → (Wk.wA.cmd ⟨[], false⟩ c).2.l ≠ []) (hn : (Wk.wA.cmd ⟨[], false⟩ c).1.parts.length ≤ 1000000) :
    Calls Try.prog 52 #[.agg (cmdC c A cap)] w (RetS (Wk.out c) w) := by
  have FX := cmdF c A cap
  obtain ⟨X, hX⟩ : ∃ X, X = cmdC c A cap := ⟨_, rfl⟩
  have hW0 : ∀ a : Obj, WrAt (w.heap.size + 1) ((w.alloc a).alloc (.cells #[.pointer none, .slice none 0 0, .bool false] 100)) (w.heap.size + 1) none ⟨[], false⟩ := fun a => by
    have := WrAt.new (w.alloc a)
    rw [World.size_alloc] at this
    exact this
  have hwc := wcmd_any (wrK (w.heap.size + 1)) _ _ _ _ c A cap (hW0 (.cells X 30)) (by simp) (hA.below (bnew (bnew (Below.refl _ _) _) _)) (fun b off e hne => by
    rcases hA with h | ⟨b2, off2, e2, hb, _⟩
    · exfalso; have := pc_length c.parts; rw [h] at this; exact hne (List.eq_nil_of_length_eq_zero (by simp at this; omega))
    · rw [e2] at e; injection e with e; injection e with e _; omega) hf hz
  rw [← hX] at FX hwc ⊢
  have Hwc := Lib.hid hwc
  have HX := Lib.hid hX
  have HA := Lib.hid hA
  have hx := FX.size
  have hsz : (Try.prog.info? 30).map (·.size) = some X.size := by rw [hx]; exact sizeCmd
  have Hsz := Lib.hid hsz
  have hrow0 : ((w.alloc (.cells X 30)).alloc (.cells #[.pointer none, .slice none 0 0, .bool false] 100)).heap[w.heap.size]? = some (.cells X 30 (0, 0)) := (Below.heap_alloc _ _ _ (by simp)).trans (heap_alloc_new w _)
  have Hrow0 := Lib.hid hrow0
  clear hsz hX hW0 hA FX hwc hrow0
  go_enter Try.func52, Try.ntmps52
  go_wp2_with (refine wpList_load_row rfl 30 _ rfl w.heap.size rfl 30 X (0, 0) _ Hrow0.out Try.underlying30 rfl Hsz.out ?_)
  refine Hwc.out.mono ?_
  rintro e w1 ⟨Au, cu, o1, rfl, hM⟩
  have hout : Wk.out c = if Cm.same (Wk.wA.cmd ⟨[], false⟩ c).1 c then (if (Wk.wA.cmd ⟨[], false⟩ c).2.bad then [] else (Wk.wA.cmd ⟨[], false⟩ c).2.l) else [] := rfl
  generalize Wk.wA.cmd ⟨[], false⟩ c = r at hM hout h0 hn ⊢
  obtain ⟨u, s⟩ := r
  simp only at hM hout h0 hn ⊢
  have FP := cmdF u Au cu
  obtain ⟨P, hP⟩ : ∃ P, P = cmdC u Au cu := ⟨_, rfl⟩
  rw [← hP] at FP ⊢
  have HP := Lib.hid hP
  have hst := storeCmd P FP.size FP.one
  have hps := FP.size
  have HszP : Hid ((Try.prog.info? 30).map (·.size) = some P.size) := Lib.hid (by rw [hps]; exact sizeCmd)
  have HM := Lib.hid hM
  have Hout := Lib.hid hout
  have Hh := Lib.hid (And.intro h0 hn)
  clear hP FP hM Hwc hout h0 hn
  go_upto_region 3 with (fail)
  refine forget (fun W => Below w.heap.size w W ∧ w1.heap.size < W.heap.size ∧ W.heap[w.heap.size]? = some (.cells X 30 (0, 0)) ∧ W.heap[w1.heap.size]? = some (.cells P 30 (0, 0)) ∧ Lies W Au (pc u.parts) ∧ WrAt (w.heap.size + 1) W (w.heap.size + 1) o1 s) ?_ ?_
  · have M := HM.out
    have hs1 := M.kept.size
    simp only [World.size_alloc] at hs1
    have hbT : Below w.heap.size w w1 := M.below (w := w) (C := w.heap.size) (bnew (bnew (Below.refl _ _) _) _) (by simp; omega) (by omega) rfl
    have hA1 : WrAt (w.heap.size + 1) w1 (w.heap.size + 1) o1 s := M.at_
    obtain ⟨p, v, hWP, rfl⟩ := hA1
    refine ⟨bnew hbT _, by simp, (Below.heap_alloc _ _ _ (by omega)).trans ((M.kept.block _ (by simp; omega) (by omega) (by simp)).trans Hrow0.out), heap_alloc_new w1 _, M.lies.below (bnew (Below.refl _ _) _), p, v, hWP.alloc _, rfl⟩
  rintro W2 ⟨hb2, hg2, hx2, hp2, hl2, hw2⟩
  have hlw : w.heap.size < W2.heap.size := (Array.getElem?_eq_some_iff.1 hx2).1
  have HE : Hid (Calls Try.prog 76 #[.agg P, .agg X] W2 fun e w' => e = .returned (.bool (Cm.same u c)) ∧ Below W2.heap.size W2 w') := Lib.hid (by
    rw [HP.out, HX.out]
    exact scmd_any u c Au A cu cap W2 hl2 (HA.out.below hb2) Hh.out.2 hz.len)
  have HW := Lib.hid (And.intro hx2 (And.intro hp2 (And.intro hb2 hw2)))
  clear hx2 hp2 hl2 hw2 hb2 hst
  obtain ⟨q, hq⟩ : ∃ q, q = w1.heap.size := ⟨_, rfl⟩
  rw [← hq] at HW hg2 ⊢
  clear hq HM Hrow0
  go_wp2_with (first | (refine wpList_load_row rfl 30 _ rfl w.heap.size rfl 30 X (0, 0) _ HW.out.1 Try.underlying30 rfl Hsz.out ?_) | (refine wpList_load_row rfl 30 _ rfl q rfl 30 P (0, 0) _ HW.out.2.1 Try.underlying30 rfl HszP.out ?_))
  refine HE.out.mono ?_
  rintro e w3 ⟨rfl, hb3⟩
  have hw3 : WrAt (w.heap.size + 1) w3 (w.heap.size + 1) o1 s := by
    obtain ⟨p, v, hWP, rfl⟩ := HW.out.2.2.2
    exact ⟨p, v, hWP.bel hb3, rfl⟩
  have hb03 : Below w.heap.size w w3 := bnext HW.out.2.2.1 hb3
  have Hen := Lib.hid (wenc_any _ w3 _ _ s hw3 Hh.out.1)
  have Hb03 := Lib.hid hb03
  cases hs : Cm.same u c
  · rw [hs] at Hout
    have Hs := Lib.hid hs
    clear hs hb3 hw3 hb03
    go_wp2_with fail
    go_ret
    rw [Hout.out]
    exact ⟨rfl, Hb03.out⟩
  · rw [hs] at Hout
    obtain ⟨y, hy⟩ : ∃ y : ByteArray, y = (if s.bad then ⟨#[]⟩ else ⟨s.l.toArray⟩) := ⟨_, rfl⟩
    have he2 := Hen.out
    rw [← hy] at he2
    have Hen2 := Lib.hid he2
    have Hy : Hid (⟨(Wk.out c).toArray⟩ = y) := Lib.hid (by rw [Hout.out, hy]; cases s.bad <;> rfl)
    clear hs hb3 hw3 hb03 hy he2 Hen
    go_wp2_with fail
    refine Hen2.out.mono ?_
    rintro e w4 ⟨rfl, hb4⟩
    have Hb4 := Lib.hid hb4
    clear hb4
    go_wp2_with fail
    go_ret
    refine ⟨?_, ?_⟩
    · rw [Hy.out]; rfl
    · have h3 := Hb03.out
      have h4 := Hb4.out
      exact h3.trans (h4.mono (by omega))
/-- cmd.Write is the document's. -/
theorem cmdWrite_any (c : Cm.Cmd) (hf : Cm.Fits c) (hz : Short c) (A : Option Addr) (cap : Nat) (w : World) (hA : Lies w A (pc c.parts)) :
    Calls Try.prog 52 #[.agg (cmdC c A cap)] w (RetS (Cm.write c) w) := by
  rw [← Wk.out_eq c hf]
  exact cwrite_any c hf hz A cap w hA (Wk.wcmd_ne c hf) (by have := Wk.wcmd_len c; omega)
set_option maxRecDepth 100000 in
set_option maxHeartbeats 2000000 in
theorem cmdWriteRes_any (r : Rs.Res) (hf : RFits r) (hv : r.val.size ≤ 100000) (hxl : r.rows.length ≤ 1000) (hfit : ∀ p ∈ r.rows, p.key.size ≤ 100000 ∧ p.val.size ≤ 100000) (A : Option Addr) (cap : Nat) (w : World) (hA : Lies w A (rc r.rows)) :
    Calls Try.prog 29 #[.agg #[.int .u8 (r.code : Int), .int .u64 (r.n : Int), .string r.val, .slice A r.rows.length cap]] w (RetS (Rs.bytes r) w) := by
  have hl : r.rows.length < Nm.top := by unfold Nm.top; omega
  have hpre := Wk.wpre r hf.code hf.n hl
  have hres := Wk.wres r hf.code hf.n hl hf.rows
  have hW0 : ∀ a : Obj, WrAt (w.heap.size + 1) ((w.alloc a).alloc (.cells #[.pointer none, .slice none 0 0, .bool false] 100)) (w.heap.size + 1) none ⟨[], false⟩ := fun a => by
    have := WrAt.new (w.alloc a)
    rw [World.size_alloc] at this
    exact this
  have hbnd : (Cm.one r.code ++ Nm.grp r.n ++ Cm.txt r.val ++ Nm.grp r.rows.length).length ≤ 200000 := by
    have h1 := grp_len r.n hf.n
    have h2 := grp_len r.rows.length hl
    have h3 := grp_len r.val.size (by unfold Nm.top; omega)
    have h4 : r.val.data.toList.length = r.val.size := (Lib.size_eq _).symm
    simp only [List.length_append, Cm.one, Cm.txt, row, List.length_singleton]
    rw [h4]; omega
  have hwc := wres_any (wrK (w.heap.size + 1)) _ _ _ _ r A cap (hW0 (.cells (resC r A cap) 37)) (by simp) (hA.below (bnew (bnew (Below.refl _ _) _) _)) (fun b off e hne => by
    rcases hA with h | ⟨b2, off2, e2, hb, _⟩
    · exfalso; have := rc_length r.rows; rw [h] at this; exact hne (List.eq_nil_of_length_eq_zero (by simp at this; omega))
    · rw [e2] at e; injection e with e; injection e with e _; omega) hf hv (by omega) hfit
    (fun k s => s.l.length ≤ 200000 + k * 200030 ∧ k ≤ 1000) (by rw [hpre]; exact ⟨by simpa using hbnd, by omega⟩)
    (fun k s1 hk hk2 _ => by
      rw [hpre] at hk2
      simp only at hk2
      have hp : ((r.rows.drop k).headD Wk.zeroR).ver < Nm.top ∧ ((r.rows.drop k).headD Wk.zeroR).key.size ≤ 100000 ∧ ((r.rows.drop k).headD Wk.zeroR).val.size ≤ 100000 := by
        rcases hd : r.rows.drop k with _ | ⟨q, rr⟩
        · exact ⟨by simp [Wk.zeroR, Nm.top], by decide, by decide⟩
        · have hm : q ∈ r.rows := List.mem_of_mem_drop (i := k) (by rw [hd]; simp)
          exact ⟨hf.rows q hm, hfit q hm⟩
      have := Wk.wA.row_len s1 _ hp.1 (by unfold Nm.top; omega) (by unfold Nm.top; omega)
      refine ⟨?_, by omega⟩
      have e : (k + 1) * 200030 = k * 200030 + 200030 := by omega
      rw [e]; omega)
    (fun k s hk => ⟨by have : k * 200030 ≤ 1000 * 200030 := Nat.mul_le_mul_right _ hk.2; omega, by omega⟩)
  rw [hres] at hwc
  simp only at hwc
  have Hwc := Lib.hid hwc
  clear hwc hW0 hpre hres hbnd
  go_enter Try.func29, Try.ntmps29
  go_wp2_with fail
  refine Hwc.out.mono ?_
  rintro e w1 ⟨Au, cu, o1, rfl, hM⟩
  have hbT : Below w.heap.size w w1 := hM.below (w := w) (C := w.heap.size) (bnew (bnew (Below.refl _ _) _) _) (by simp; omega) (by omega) rfl
  have hA1 : WrAt (w.heap.size + 1) w1 (w.heap.size + 1) o1 ⟨Rs.bytes r, false⟩ := hM.at_
  have Hen := Lib.hid (wenc_any _ w1 _ _ _ hA1 (fun _ => by simp [Rs.bytes, Cm.one]))
  have HbT := Lib.hid hbT
  clear hM hA1 hbT
  go_wp2_with fail
  refine Hen.out.mono ?_
  rintro e w4 ⟨rfl, hb4⟩
  have Hb4 := Lib.hid hb4
  clear hb4
  go_wp2_with fail
  go_ret
  refine ⟨rfl, HbT.out.trans (Hb4.out.mono (by omega))⟩
end Go.Proofs.Ytlcgjlganmblpaa
namespace Go.Proofs.Ytlcgjlganmblpaa
open Go.RowKit
theorem zero_short : Short Cm.zero := ⟨by decide, by decide, by decide, by decide, by decide, by decide, fun p hp => by cases hp⟩
/-- A reader that was just made. -/
theorem RdAt.new (w : World) (B : Nat) (hB : B ≤ w.heap.size) (s : ByteArray) : RdAt B (w.alloc (.cells #[.string s, .bool false] 104)) w.heap.size none ⟨s.data.toList, false⟩ :=
  ⟨by rw [heap_alloc_new], rfl, hB⟩
set_option maxRecDepth 100000 in
set_option maxHeartbeats 4000000 in
theorem cmdRead_any (s : ByteArray) (w : World) (hs : s.size ≤ 10000000) :
    Calls Try.prog 31 #[.string s] w (RetRd (Cm.read s.data.toList) w) := by
  rw [← Wk.inn_eq]
  have hW0 : ∀ a : Obj, RdAt (w.heap.size + 1) ((w.alloc a).alloc (.cells #[.string s, .bool false] 104)) (w.heap.size + 1) none ⟨s.data.toList, false⟩ := fun a => by
    have := RdAt.new (w.alloc a) (w.heap.size + 1) (by simp) s
    rw [World.size_alloc] at this
    exact this
  have hwc := wcmd_any (rdK (w.heap.size + 1)) _ _ _ _ Cm.zero none 0 (hW0 (.cells (cmdC Cm.zero none 0) 30)) (by simp only; rw [← Lib.size_eq]; omega) (.inl rfl) (fun b off e => by cases e) Cm.zero_fits zero_short
  have hz0 : ((w.alloc (.cells (cmdC Cm.zero none 0) 30)).alloc (.cells #[.string s, .bool false] 104)).heap[w.heap.size]? = some (.cells (cmdC Cm.zero none 0) 30 (0, 0)) := (Below.heap_alloc _ _ _ (by simp)).trans (heap_alloc_new w _)
  have Hz0 := Lib.hid hz0
  have hinn : Wk.inn s.data.toList = if (Wk.rA.cmd ⟨s.data.toList, false⟩ Cm.zero).2.bad = false ∧ (Wk.rA.cmd ⟨s.data.toList, false⟩ Cm.zero).2.l = [] then some (Wk.rA.cmd ⟨s.data.toList, false⟩ Cm.zero).1 else none := rfl
  generalize Wk.rA.cmd ⟨s.data.toList, false⟩ Cm.zero = r at hwc hinn
  obtain ⟨u, st⟩ := r
  simp only at hwc hinn
  have Hwc := Lib.hid hwc
  have Hinn := Lib.hid hinn
  generalize Wk.inn s.data.toList = ans at Hinn ⊢
  clear hwc hinn hz0 hW0
  go_enter Try.func31, Try.ntmps31
  go_wp2_with fail
  refine Hwc.out.mono ?_
  rintro e w1 ⟨Au, cu, o1, rfl, hM⟩
  have FP := cmdF u Au cu
  obtain ⟨P, hP⟩ : ∃ P, P = cmdC u Au cu := ⟨_, rfl⟩
  rw [← hP] at FP ⊢
  have HP := Lib.hid hP
  have hst := storeCmd P FP.size FP.one
  have hps := FP.size
  have HM := Lib.hid hM
  clear hP FP hM Hwc
  go_upto_region 3 with (fail)
  refine forget (fun W => Below w.heap.size w W ∧ W.heap[w.heap.size]? = some (.cells (cmdC Cm.zero none 0) 30 (0, 0)) ∧ W.heap[w1.heap.size]? = some (.cells P 30 (0, 0)) ∧ w.heap.size < w1.heap.size ∧ Lies W Au (pc u.parts) ∧ (∀ b off, Au = some ⟨b, off, none⟩ → b ≠ w.heap.size) ∧ RdAt (w.heap.size + 1) W (w.heap.size + 1) o1 st) ?_ ?_
  · have M := HM.out
    have hs1 := M.kept.size
    simp only [World.size_alloc] at hs1
    have hbT : Below w.heap.size w w1 := M.kept.below (B := w.heap.size) (bnew (bnew (Below.refl _ _) _) _) (by simp; omega) (by omega) (fun k e => by cases e)
    have hA1 : RdAt (w.heap.size + 1) w1 (w.heap.size + 1) o1 st := M.at_
    refine ⟨bnew hbT _, (Below.heap_alloc _ _ _ (by omega)).trans ((M.kept.block _ (by simp; omega) (by omega) (by simp)).trans Hz0.out), heap_alloc_new w1 _, by omega, M.lies.below (bnew (Below.refl _ _) _), fun b off e => by have := (M.sep b off e).1; simp at this; omega, hA1.bel (bnew (Below.refl _ _) _)⟩
  rintro W2 ⟨hb2, hz2, hp2, hq2, hl2, hsep, hr2⟩
  obtain ⟨q, hq⟩ : ∃ q, q = w1.heap.size := ⟨_, rfl⟩
  rw [← hq] at hp2 hq2 ⊢
  have Hen := Lib.hid (rdE_any _ W2 _ _ st hr2)
  have HS := Lib.hid (And.intro hb2 (And.intro hz2 (And.intro hp2 (And.intro hl2 hsep))))
  clear hq HM Hz0 hr2 hb2 hz2 hp2 hl2 hsep hst hps
  go_wp2_with fail
  refine Hen.out.mono ?_
  rintro e w3 ⟨rfl, rfl⟩
  clear Hen
  obtain ⟨hb2, hz2, hp2, hl2, hsep⟩ := HS.out
  have hlw : w.heap.size < W2.heap.size := (Array.getElem?_eq_some_iff.1 hz2).1
  obtain ⟨z0, z1, z2, z3, z4, z5, z6, z7, z8, z9, z10, z11, zz⟩ := cmdAt hz2
  rw [HP.out] at hp2
  obtain ⟨q0, q1, q2, q3, q4, q5, q6, q7, q8, q9, q10, q11, _⟩ := cmdAt hp2
  cases he : (!st.bad && st.l.isEmpty)
  · have Hno : Hid (ans = none) := Lib.hid (by
      rw [Hinn.out, if_neg]
      rintro ⟨h1, h2⟩
      rw [h1, h2] at he; simp at he)
    clear he hz2 hp2 hl2 hsep hb2 Hinn
    go_wp2_with fail
    have hres := results_ct (P := Try.prog) (fn := Try.f31) rfl
    refine bodyPost_ret (hres _ _ w.heap.size 30 (cmdC Cm.zero none 0) (0, 0) _ rfl (cmdPut (c := Cm.zero) (A := none) (cap := 0) HS.out.2.1) Try.underlying30 rfl sizeCmd) rfl ⟨none, 0, ?_, ?_, cmdBelow (c := Cm.zero) (A := none) (cap := 0) HS.out.1 (Nat.le_refl _)⟩
    · rw [Hno.out]; rfl
    · rw [Hno.out]; exact .inl rfl
  · have Hyes : Hid (ans = some u) := Lib.hid (by
      rw [Hinn.out, if_pos]
      simp only [Bool.and_eq_true, Bool.not_eq_true', List.isEmpty_iff] at he
      exact he)
    clear he hz2 hp2 hl2 hsep hb2 Hinn
    go_wp2_with fail
    have hres := results_ct (P := Try.prog) (fn := Try.f31) rfl
    refine bodyPost_ret (hres _ _ w.heap.size 30 (cmdC u Au cu) (0, 0) _ rfl (cmdPut (c := u) (A := Au) (cap := cu) HS.out.2.1) Try.underlying30 rfl sizeCmd) rfl ⟨Au, cu, ?_, ?_, cmdBelow (c := u) (A := Au) (cap := cu) HS.out.1 (Nat.le_refl _)⟩
    · rw [Hyes.out]; rfl
    · rw [Hyes.out]
      exact cmdLies (c := u) (A := Au) (cap := cu) HS.out.2.2.2.1 HS.out.2.2.2.2
end Go.Proofs.Ytlcgjlganmblpaa
namespace Go.Proofs.Ytlcgjlganmblpaa
open Go.RowKit
/-- What a reader of results answers. -/
def RetRr (o : Option Rs.Res) (w : World) (e : Ending) (w' : World) : Prop :=
  ∃ A cap, e = .returned (.tuple #[.agg (resC (o.getD Rs.zero) A cap), .bool o.isSome]) ∧ Lies w' A (rc (o.getD Rs.zero).rows) ∧ Below w.heap.size w w'
theorem zero_rfits : RFits Rs.zero := ⟨by decide, by unfold Rs.zero Nm.top; decide, fun p hp => by cases hp⟩
theorem Wk.rrow_len (s : Wk.St) (x : Rs.Row) : (Wk.rA.row s x).2.l.length ≤ s.l.length := by
  have h1 := Wk.rT_len s x.key
  have h2 := Wk.rT_len (Wk.rT s x.key).2 x.val
  have h3 := Wk.rG_len (Wk.rT (Wk.rT s x.key).2 x.val).2 x.ver 18446744073709551615
  have e : (Wk.rA.row s x).2 = (Wk.rG (Wk.rT (Wk.rT s x.key).2 x.val).2 x.ver 18446744073709551615).2 := rfl
  rw [e]; omega
theorem Wk.rrow_less (s : Wk.St) (x : Rs.Row) (h : (Wk.rA.row s x).2.bad = false) : (Wk.rA.row s x).2.l.length + 1 ≤ s.l.length := by
  obtain ⟨_, hw, e⟩ := Wk.rrow_of h
  have := congrArg List.length e
  rw [List.length_append] at this
  have h2 : 1 ≤ (Rs.rowB (Wk.rA.row s x).1).length := by
    unfold Rs.rowB Cm.txt row
    have := (Nm.cnt_spec (Wk.rA.row s x).1.ver hw.ver)
    simp only [List.length_append, Nm.grp_length]; omega
  omega
theorem resLies {W : World} {g : Nat} {a b c d : Value} {B : Option Addr} {vs : List Value} (h : Lies W B vs) (hb : ∀ b off, B = some ⟨b, off, none⟩ → b ≠ g) : Lies ((((W.setCell ⟨g, 0, none⟩ a).setCell ⟨g, 1, none⟩ b).setCell ⟨g, 2, none⟩ c).setCell ⟨g, 3, none⟩ d) B vs :=
  (((h.set hb).set hb).set hb).set hb
theorem resBelow {W w : World} {B g : Nat} {a b c d : Value} (h : Below B w W) (hg : B ≤ g) : Below B w ((((W.setCell ⟨g, 0, none⟩ a).setCell ⟨g, 1, none⟩ b).setCell ⟨g, 2, none⟩ c).setCell ⟨g, 3, none⟩ d) :=
  (((h.setCell (p := ⟨g, 0, none⟩) hg _).setCell (p := ⟨g, 1, none⟩) hg _).setCell (p := ⟨g, 2, none⟩) hg _).setCell (p := ⟨g, 3, none⟩) hg _
theorem resPut {W : World} {g : Nat} {z r : Rs.Res} {B A : Option Addr} {cz cap : Nat} (h : W.heap[g]? = some (.cells (resC z B cz) 37 (0, 0))) :
    ((((W.setCell ⟨g, 0, none⟩ (.int .u8 (r.code : Int))).setCell ⟨g, 1, none⟩ (.int .u64 (r.n : Int))).setCell ⟨g, 2, none⟩ (.string r.val)).setCell ⟨g, 3, none⟩ (.slice A r.rows.length cap)).heap[g]? = some (.cells (resC r A cap) 37 (0, 0)) := by
  have s0 := heap_setCell_same W g 0 _ _ (.int .u8 (r.code : Int)) h
  have s1 := heap_setCell_same _ g 1 _ _ (.int .u64 (r.n : Int)) s0
  have s2 := heap_setCell_same _ g 2 _ _ (.string r.val) s1
  have s3 := heap_setCell_same _ g 3 _ _ (.slice A r.rows.length cap) s2
  rw [s3]
  simp [resC]
set_option maxRecDepth 100000 in
set_option maxHeartbeats 2000000 in
theorem cmdReadRes_any (s : ByteArray) (w : World) (hs : s.size ≤ 10000000) :
    Calls Try.prog 36 #[.string s] w (RetRr (Rs.read s.data.toList) w) := by
  rw [← Wk.innR_eq]
  have hW0 : ∀ a : Obj, RdAt (w.heap.size + 1) ((w.alloc a).alloc (.cells #[.string s, .bool false] 104)) (w.heap.size + 1) none ⟨s.data.toList, false⟩ := fun a => by
    have := RdAt.new (w.alloc a) (w.heap.size + 1) (by simp) s
    rw [World.size_alloc] at this
    exact this
  have hsl : s.data.toList.length ≤ 10000000 := by rw [← Lib.size_eq]; exact hs
  have hl4 : (Wk.rA.pre ⟨s.data.toList, false⟩ Rs.zero).2.l.length ≤ s.data.toList.length := by
    have h1 := Wk.rO_len ⟨s.data.toList, false⟩ Rs.zero.code 0 255
    have h2 := Wk.rG_len (Wk.rO ⟨s.data.toList, false⟩ Rs.zero.code 0 255).2 Rs.zero.n 18446744073709551615
    have h3 := Wk.rT_len (Wk.rG (Wk.rO ⟨s.data.toList, false⟩ Rs.zero.code 0 255).2 Rs.zero.n 18446744073709551615).2 Rs.zero.val
    have h4 := Wk.rG_len (Wk.rT (Wk.rG (Wk.rO ⟨s.data.toList, false⟩ Rs.zero.code 0 255).2 Rs.zero.n 18446744073709551615).2 Rs.zero.val).2 Rs.zero.rows.length 18446744073709551615
    have e : (Wk.rA.pre ⟨s.data.toList, false⟩ Rs.zero).2 = (Wk.rG (Wk.rT (Wk.rG (Wk.rO ⟨s.data.toList, false⟩ Rs.zero.code 0 255).2 Rs.zero.n 18446744073709551615).2 Rs.zero.val).2 Rs.zero.rows.length 18446744073709551615).2 := rfl
    rw [e]; simp only at h1; omega
  have hwc := wres_any (rdK (w.heap.size + 1)) _ _ _ _ Rs.zero none 0 (hW0 (.cells (resC Rs.zero none 0) 37)) (by simp only; omega) (.inl rfl) (fun b off e => by cases e) zero_rfits (by decide) (by decide) (fun p hp => by cases hp)
    (fun k s1 => s1.l.length ≤ 10000000 ∧ (s1.bad = false → s1.l.length + k ≤ 10000000) ∧ k ≤ 10000001) ⟨by omega, fun _ => by omega, by omega⟩
    (fun k s1 hk _ hb => by
      have h1 := Wk.rrow_len s1 ((Rs.zero.rows.drop k).headD Wk.zeroR)
      have h2 := hk.2.1 hb
      refine ⟨by omega, fun hb2 => ?_, by omega⟩
      have h3 := Wk.rrow_less s1 _ hb2
      omega)
    (fun k s1 hk => ⟨by omega, by omega⟩)
  have hz0 : ((w.alloc (.cells (resC Rs.zero none 0) 37)).alloc (.cells #[.string s, .bool false] 104)).heap[w.heap.size]? = some (.cells (resC Rs.zero none 0) 37 (0, 0)) := (Below.heap_alloc _ _ _ (by simp)).trans (heap_alloc_new w _)
  have Hz0 := Lib.hid hz0
  have hinn : Wk.innR s.data.toList = if (Wk.rA.res ⟨s.data.toList, false⟩ Rs.zero).2.bad = false ∧ (Wk.rA.res ⟨s.data.toList, false⟩ Rs.zero).2.l = [] then some (Wk.rA.res ⟨s.data.toList, false⟩ Rs.zero).1 else none := rfl
  generalize Wk.rA.res ⟨s.data.toList, false⟩ Rs.zero = r at hwc hinn
  obtain ⟨u, st⟩ := r
  simp only at hwc hinn
  have Hwc := Lib.hid hwc
  have Hinn := Lib.hid hinn
  generalize Wk.innR s.data.toList = ans at Hinn ⊢
  clear hwc hinn hz0 hW0 hl4 hsl
  go_enter Try.func36, Try.ntmps36
  go_wp2_with fail
  refine Hwc.out.mono ?_
  rintro e w1 ⟨Au, cu, o1, rfl, hM⟩
  have HM := Lib.hid hM
  clear hM Hwc
  unfold resC
  go_upto_region 3 with (fail)
  refine forget (fun W => Below w.heap.size w W ∧ W.heap[w.heap.size]? = some (.cells (resC Rs.zero none 0) 37 (0, 0)) ∧ W.heap[w1.heap.size]? = some (.cells (resC u Au cu) 37 (0, 0)) ∧ w.heap.size < w1.heap.size ∧ Lies W Au (rc u.rows) ∧ (∀ b off, Au = some ⟨b, off, none⟩ → b ≠ w.heap.size) ∧ RdAt (w.heap.size + 1) W (w.heap.size + 1) o1 st) ?_ ?_
  · have M := HM.out
    have hs1 := M.kept.size
    simp only [World.size_alloc] at hs1
    have hbT : Below w.heap.size w w1 := M.kept.below (B := w.heap.size) (bnew (bnew (Below.refl _ _) _) _) (by simp; omega) (by omega) (fun k e => by cases e)
    have hA1 : RdAt (w.heap.size + 1) w1 (w.heap.size + 1) o1 st := M.at_
    refine ⟨bnew hbT _, (Below.heap_alloc _ _ _ (by omega)).trans ((M.kept.block _ (by simp; omega) (by omega) (by simp)).trans Hz0.out), heap_alloc_new w1 _, by omega, M.lies.below (bnew (Below.refl _ _) _), fun b off e => by have := (M.sep b off e).1; simp at this; omega, hA1.bel (bnew (Below.refl _ _) _)⟩
  rintro W2 ⟨hb2, hz2, hp2, hq2, hl2, hsep, hr2⟩
  obtain ⟨q, hq⟩ : ∃ q, q = w1.heap.size := ⟨_, rfl⟩
  rw [← hq] at hp2 hq2 ⊢
  have Hen := Lib.hid (rdE_any _ W2 _ _ st hr2)
  have HS := Lib.hid (And.intro hb2 (And.intro hz2 (And.intro hp2 (And.intro hl2 hsep))))
  clear hq HM Hz0 hr2 hb2 hz2 hp2 hl2 hsep
  go_wp2_with fail
  refine Hen.out.mono ?_
  rintro e w3 ⟨rfl, rfl⟩
  clear Hen
  obtain ⟨hb2, hz2, hp2, hl2, hsep⟩ := HS.out
  have hlw : w.heap.size < W2.heap.size := (Array.getElem?_eq_some_iff.1 hz2).1
  have z0 : W2.cell? ⟨w.heap.size, 0, none⟩ = some (.int .u8 0) := cell_of_row W2 _ 0 _ _ _ hz2
  have z1 : W2.cell? ⟨w.heap.size, 1, none⟩ = some (.int .u64 0) := cell_of_row W2 _ 1 _ _ _ hz2
  have z2 : W2.cell? ⟨w.heap.size, 2, none⟩ = some (.string ⟨#[]⟩) := cell_of_row W2 _ 2 _ _ _ hz2
  have z3 : W2.cell? ⟨w.heap.size, 3, none⟩ = some (.slice none 0 0) := cell_of_row W2 _ 3 _ _ _ hz2
  have f0 := frozen_of_row W2 w.heap.size 0 _ _ hz2
  have f1 := frozen_of_row W2 w.heap.size 1 _ _ hz2
  have f2 := frozen_of_row W2 w.heap.size 2 _ _ hz2
  have f3 := frozen_of_row W2 w.heap.size 3 _ _ hz2
  have q0 : W2.cell? ⟨q, 0, none⟩ = some (.int .u8 (u.code : Int)) := cell_of_row W2 _ 0 _ _ _ hp2
  have q1 : W2.cell? ⟨q, 1, none⟩ = some (.int .u64 (u.n : Int)) := cell_of_row W2 _ 1 _ _ _ hp2
  have q2 : W2.cell? ⟨q, 2, none⟩ = some (.string u.val) := cell_of_row W2 _ 2 _ _ _ hp2
  have q3 : W2.cell? ⟨q, 3, none⟩ = some (.slice Au u.rows.length cu) := cell_of_row W2 _ 3 _ _ _ hp2
  cases he : (!st.bad && st.l.isEmpty)
  · have Hno : Hid (ans = none) := Lib.hid (by
      rw [Hinn.out, if_neg]
      rintro ⟨h1, h2⟩
      rw [h1, h2] at he; simp at he)
    clear he hz2 hp2 hl2 hsep hb2 Hinn
    go_wp2_with fail
    have hres := results_ct (P := Try.prog) (fn := Try.f36) rfl
    refine bodyPost_ret (hres _ _ w.heap.size 37 (resC Rs.zero none 0) (0, 0) _ rfl (resPut (r := Rs.zero) (A := none) (cap := 0) HS.out.2.1) Try.underlying37 rfl sizeRes) rfl ⟨none, 0, ?_, ?_, resBelow HS.out.1 (Nat.le_refl _)⟩
    · rw [Hno.out]; rfl
    · rw [Hno.out]; exact .inl rfl
  · have Hyes : Hid (ans = some u) := Lib.hid (by
      rw [Hinn.out, if_pos]
      simp only [Bool.and_eq_true, Bool.not_eq_true', List.isEmpty_iff] at he
      exact he)
    clear he hz2 hp2 hl2 hsep hb2 Hinn
    go_wp2_with fail
    have hres := results_ct (P := Try.prog) (fn := Try.f36) rfl
    refine bodyPost_ret (hres _ _ w.heap.size 37 (resC u Au cu) (0, 0) _ rfl (resPut (r := u) (A := Au) (cap := cu) HS.out.2.1) Try.underlying37 rfl sizeRes) rfl ⟨Au, cu, ?_, ?_, resBelow HS.out.1 (Nat.le_refl _)⟩
    · rw [Hyes.out]; rfl
    · rw [Hyes.out]
      exact resLies HS.out.2.2.2.1 HS.out.2.2.2.2
end Go.Proofs.Ytlcgjlganmblpaa
