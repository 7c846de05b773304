/-
  cmd.Write and cmd.WriteResult walked.
  cmd.Read walked.
  cmd.ReadResult walked.
  cmd.Oversize and cmd.Asks walked.
-/
import Derived.Test.YtpdahbfjbgcmgaaSInst
import Derived.Test.YtpdahbfjbgcmgaaSScE
import Derived.Test.YtpdahbfjbgcmgaaSCmdMay
import Derived.Test.YtpdahbfjbgcmgaaSMath
import Derived.Test.YtpdahbfjbgcmgaaSCmdRead
import Derived.Test.YtpdahbfjbgcmgaaSRes
import Derived.Test.YtpdahbfjbgcmgaaSCmdOver
import Derived.Test.YtpdahbfjbgcmgaaSCmd
import Derived.Test.YtpdahbfjbgcmgaaSWk
set_option linter.unusedSimpArgs false
set_option linter.unusedVariables false
namespace Go.Proofs.Ytpdahbfjbgcmgaa
open Go.RowKit
/-- A writer that was just made. -/
theorem WrAt.new (w : World) : WrAt w.heap.size (w.alloc (.cells #[.pointer none, .slice none 0 0, .bool false] 80)) w.heap.size none ⟨[], false⟩ :=
  ⟨_, _, ⟨.inl rfl, heap_alloc_new w _, World.ownsRow_nil _ _ _ _, Nat.le_refl _⟩, rfl⟩
theorem Made.below {T : TypeId} {A : Wk.Alg} {B : Nat} {K : Wkr T A B} {W w' : World} {g : Nat} {o o' : Option Nat} {s' : Wk.St} {Au : Option Addr} {cs : List Value} (h : Made K W w' g o o' s' Au cs) {w : World} {C : Nat} (hb : Below C w W) (hC : C ≤ W.heap.size) (hg : C ≤ g) (ho : o = none) : Below C w w' :=
  h.kept.below hb hC hg (fun k e => by rw [ho] at e; cases e)
set_option maxRecDepth 100000 in
set_option maxHeartbeats 1000000 in
theorem wenc_any (B : Nat) (W : World) (g : Nat) (o : Option Nat) (s : Wk.St) (h : WrAt B W g o s) (h0 : s.bad = false → s.l ≠ []) :
    Calls Try.prog 51 #[.pointer (some ⟨g, 0, none⟩)] W fun e w' => e = .returned (.string (if s.bad then ⟨#[]⟩ else ⟨s.l.toArray⟩)) ∧ Below B W w' := by
  have H := Lib.hid h
  obtain ⟨p, v, hP, rfl⟩ := h
  have c2 := hP.c2
  cases hb : s.bad
  · have Hc := Lib.hid (bstring_any B W g _ s H.out (h0 hb))
    rw [hb] at c2
    clear hP H
    go_enter Try.func51, Try.ntmps51
    go_wp2_with fail
    refine Hc.out.mono ?_
    rintro e w1 ⟨rfl, hb1⟩
    go_wp2_with fail
    go_ret
    exact ⟨rfl, hb1⟩
  · rw [hb] at c2
    clear hP H
    go_enter Try.func51, Try.ntmps51
    go_wp2_with fail
    go_ret
    exact ⟨rfl, Below.refl _ _⟩
set_option maxRecDepth 100000 in
set_option maxHeartbeats 2000000 in
theorem cwrite_any (c : Cm.Cmd) (hf : Cm.Fits c) (hz : Short c) (A : Option Addr) (cap : Nat) (w : World) (hA : Lies w A (pc c.parts)) (h0 : (Wk.wA.cmd ⟨[], false⟩ c).2.bad = false → (Wk.wA.cmd ⟨[], false⟩ c).2.l ≠ []) (hn : (Wk.wA.cmd ⟨[], false⟩ c).1.parts.length ≤ 1000000) :
    Calls Try.prog 16 #[.agg (cmdC c A cap)] w (RetS (Wk.out c) w) := by
  have FX := cmdF c A cap
  obtain ⟨X, hX⟩ : ∃ X, X = cmdC c A cap := ⟨_, rfl⟩
  have hW0 : ∀ a : Obj, WrAt (w.heap.size + 1) ((w.alloc a).alloc (.cells #[.pointer none, .slice none 0 0, .bool false] 80)) (w.heap.size + 1) none ⟨[], false⟩ := fun a => by
    have := WrAt.new (w.alloc a)
    rw [World.size_alloc] at this
    exact this
  have hwc := wcmd_any (wrK (w.heap.size + 1)) _ _ _ _ c A cap (hW0 (.cells X 27)) (by simp) (hA.below (bnew (bnew (Below.refl _ _) _) _)) (fun b off e hne => by
    rcases hA with h | ⟨b2, off2, e2, hb, _⟩
    · exfalso; have := pc_length c.parts; rw [h] at this; exact hne (List.eq_nil_of_length_eq_zero (by simp at this; omega))
    · rw [e2] at e; injection e with e; injection e with e _; omega) hf hz
  rw [← hX] at FX hwc ⊢
  have Hwc := Lib.hid hwc
  have HX := Lib.hid hX
  have HA := Lib.hid hA
  have hx := FX.size
  have hsz : (Try.prog.info? 27).map (·.size) = some X.size := by rw [hx]; exact sizeCmd
  have Hsz := Lib.hid hsz
  have hrow0 : ((w.alloc (.cells X 27)).alloc (.cells #[.pointer none, .slice none 0 0, .bool false] 80)).heap[w.heap.size]? = some (.cells X 27 (0, 0)) := (Below.heap_alloc _ _ _ (by simp)).trans (heap_alloc_new w _)
  have Hrow0 := Lib.hid hrow0
  clear hsz hX hW0 hA FX hwc hrow0
  go_enter Try.func16, Try.ntmps16
  go_wp2_with (refine wpList_load_row rfl 27 _ rfl w.heap.size rfl 27 X (0, 0) _ Hrow0.out Try.underlying27 rfl Hsz.out ?_)
  refine Hwc.out.mono ?_
  rintro e w1 ⟨Au, cu, o1, rfl, hM⟩
  have hout : Wk.out c = if Cm.same (Wk.wA.cmd ⟨[], false⟩ c).1 c then (if (Wk.wA.cmd ⟨[], false⟩ c).2.bad then [] else (Wk.wA.cmd ⟨[], false⟩ c).2.l) else [] := rfl
  generalize Wk.wA.cmd ⟨[], false⟩ c = r at hM hout h0 hn ⊢
  obtain ⟨u, s⟩ := r
  simp only at hM hout h0 hn ⊢
  have FP := cmdF u Au cu
  obtain ⟨P, hP⟩ : ∃ P, P = cmdC u Au cu := ⟨_, rfl⟩
  rw [← hP] at FP ⊢
  have HP := Lib.hid hP
  have hst := storeCmd P FP.size FP.one
  have hps := FP.size
  have HszP : Hid ((Try.prog.info? 27).map (·.size) = some P.size) := Lib.hid (by rw [hps]; exact sizeCmd)
  have HM := Lib.hid hM
  have Hout := Lib.hid hout
  have Hh := Lib.hid (And.intro h0 hn)
  clear hP FP hM Hwc hout h0 hn
  go_upto_region 3 with (fail)
  refine forget (fun W => Below w.heap.size w W ∧ w1.heap.size < W.heap.size ∧ W.heap[w.heap.size]? = some (.cells X 27 (0, 0)) ∧ W.heap[w1.heap.size]? = some (.cells P 27 (0, 0)) ∧ Lies W Au (pc u.parts) ∧ WrAt (w.heap.size + 1) W (w.heap.size + 1) o1 s) ?_ ?_
  · have M := HM.out
    have hs1 := M.kept.size
    simp only [World.size_alloc] at hs1
    have hbT : Below w.heap.size w w1 := M.below (w := w) (C := w.heap.size) (bnew (bnew (Below.refl _ _) _) _) (by simp; omega) (by omega) rfl
    have hA1 : WrAt (w.heap.size + 1) w1 (w.heap.size + 1) o1 s := M.at_
    obtain ⟨p, v, hWP, rfl⟩ := hA1
    refine ⟨bnew hbT _, by simp, (Below.heap_alloc _ _ _ (by omega)).trans ((M.kept.block _ (by simp; omega) (by omega) (by simp)).trans Hrow0.out), heap_alloc_new w1 _, M.lies.below (bnew (Below.refl _ _) _), p, v, hWP.alloc _, rfl⟩
  rintro W2 ⟨hb2, hg2, hx2, hp2, hl2, hw2⟩
  have hlw : w.heap.size < W2.heap.size := (Array.getElem?_eq_some_iff.1 hx2).1
  have HE : Hid (Calls Try.prog 50 #[.agg P, .agg X] W2 fun e w' => e = .returned (.bool (Cm.same u c)) ∧ Below W2.heap.size W2 w') := Lib.hid (by
    rw [HP.out, HX.out]
    exact scmd_any u c Au A cu cap W2 hl2 (HA.out.below hb2) Hh.out.2 hz.len)
  have HW := Lib.hid (And.intro hx2 (And.intro hp2 (And.intro hb2 hw2)))
  clear hx2 hp2 hl2 hw2 hb2 hst
  obtain ⟨q, hq⟩ : ∃ q, q = w1.heap.size := ⟨_, rfl⟩
  rw [← hq] at HW hg2 ⊢
  clear hq HM Hrow0
  go_wp2_with (first | (refine wpList_load_row rfl 27 _ rfl w.heap.size rfl 27 X (0, 0) _ HW.out.1 Try.underlying27 rfl Hsz.out ?_) | (refine wpList_load_row rfl 27 _ rfl q rfl 27 P (0, 0) _ HW.out.2.1 Try.underlying27 rfl HszP.out ?_))
  refine HE.out.mono ?_
  rintro e w3 ⟨rfl, hb3⟩
  have hw3 : WrAt (w.heap.size + 1) w3 (w.heap.size + 1) o1 s := by
    obtain ⟨p, v, hWP, rfl⟩ := HW.out.2.2.2
    exact ⟨p, v, hWP.bel hb3, rfl⟩
  have hb03 : Below w.heap.size w w3 := bnext HW.out.2.2.1 hb3
  have Hen := Lib.hid (wenc_any _ w3 _ _ s hw3 Hh.out.1)
  have Hb03 := Lib.hid hb03
  cases hs : Cm.same u c
  · rw [hs] at Hout
    have Hs := Lib.hid hs
    clear hs hb3 hw3 hb03
    go_wp2_with fail
    go_ret
    rw [Hout.out]
    exact ⟨rfl, Hb03.out⟩
  · rw [hs] at Hout
    obtain ⟨y, hy⟩ : ∃ y : ByteArray, y = (if s.bad then ⟨#[]⟩ else ⟨s.l.toArray⟩) := ⟨_, rfl⟩
    have he2 := Hen.out
    rw [← hy] at he2
    have Hen2 := Lib.hid he2
    have Hy : Hid (⟨(Wk.out c).toArray⟩ = y) := Lib.hid (by rw [Hout.out, hy]; cases s.bad <;> rfl)
    clear hs hb3 hw3 hb03 hy he2 Hen
    go_wp2_with fail
    refine Hen2.out.mono ?_
    rintro e w4 ⟨rfl, hb4⟩
    have Hb4 := Lib.hid hb4
    clear hb4
    go_wp2_with fail
    go_ret
    refine ⟨?_, ?_⟩
    · rw [Hy.out]; rfl
    · have h3 := Hb03.out
      have h4 := Hb4.out
      exact h3.trans (h4.mono (by omega))
/-- cmd.Write is the document's. -/
theorem cmdWrite_any (c : Cm.Cmd) (hf : Cm.Fits c) (hz : Short c) (A : Option Addr) (cap : Nat) (w : World) (hA : Lies w A (pc c.parts)) :
    Calls Try.prog 16 #[.agg (cmdC c A cap)] w (RetS (Cm.write c) w) := by
  rw [← Wk.out_eq c hf]
  exact cwrite_any c hf hz A cap w hA (Wk.wcmd_ne c hf) (by have := Wk.wcmd_len c; omega)
set_option maxRecDepth 100000 in
set_option maxHeartbeats 2000000 in
theorem cmdWriteRes_any (r : Rs.Res) (hf : RFits r) (hv : r.val.size ≤ 100000) (hxl : r.rows.length ≤ 1000) (hfit : ∀ p ∈ r.rows, p.key.size ≤ 100000 ∧ p.val.size ≤ 100000) (A : Option Addr) (cap : Nat) (w : World) (hA : Lies w A (rc r.rows)) :
    Calls Try.prog 20 #[.agg #[.int .u8 (r.code : Int), .int .u64 (r.n : Int), .string r.val, .slice A r.rows.length cap]] w (RetS (Rs.bytes r) w) := by
  have hl : r.rows.length < Nm.top := by unfold Nm.top; omega
  have hpre := Wk.wpre r hf.code hf.n hl
  have hres := Wk.wres r hf.code hf.n hl hf.rows
  have hW0 : ∀ a : Obj, WrAt (w.heap.size + 1) ((w.alloc a).alloc (.cells #[.pointer none, .slice none 0 0, .bool false] 80)) (w.heap.size + 1) none ⟨[], false⟩ := fun a => by
    have := WrAt.new (w.alloc a)
    rw [World.size_alloc] at this
    exact this
  have hbnd : (Cm.one r.code ++ Nm.grp r.n ++ Cm.txt r.val ++ Nm.grp r.rows.length).length ≤ 200000 := by
    have h1 := grp_len r.n hf.n
    have h2 := grp_len r.rows.length hl
    have h3 := grp_len r.val.size (by unfold Nm.top; omega)
    have h4 : r.val.data.toList.length = r.val.size := (Lib.size_eq _).symm
    simp only [List.length_append, Cm.one, Cm.txt, row, List.length_singleton]
    rw [h4]; omega
  have hwc := wres_any (wrK (w.heap.size + 1)) _ _ _ _ r A cap (hW0 (.cells (resC r A cap) 42)) (by simp) (hA.below (bnew (bnew (Below.refl _ _) _) _)) (fun b off e hne => by
    rcases hA with h | ⟨b2, off2, e2, hb, _⟩
    · exfalso; have := rc_length r.rows; rw [h] at this; exact hne (List.eq_nil_of_length_eq_zero (by simp at this; omega))
    · rw [e2] at e; injection e with e; injection e with e _; omega) hf hv (by omega) hfit
    (fun k s => s.l.length ≤ 200000 + k * 200030 ∧ k ≤ 1000) (by rw [hpre]; exact ⟨by simpa using hbnd, by omega⟩)
    (fun k s1 hk hk2 _ => by
      rw [hpre] at hk2
      simp only at hk2
      have hp : ((r.rows.drop k).headD Wk.zeroR).ver < Nm.top ∧ ((r.rows.drop k).headD Wk.zeroR).key.size ≤ 100000 ∧ ((r.rows.drop k).headD Wk.zeroR).val.size ≤ 100000 := by
        rcases hd : r.rows.drop k with _ | ⟨q, rr⟩
        · exact ⟨by simp [Wk.zeroR, Nm.top], by decide, by decide⟩
        · have hm : q ∈ r.rows := List.mem_of_mem_drop (i := k) (by rw [hd]; simp)
          exact ⟨hf.rows q hm, hfit q hm⟩
      have := Wk.wA.row_len s1 _ hp.1 (by unfold Nm.top; omega) (by unfold Nm.top; omega)
      refine ⟨?_, by omega⟩
      have e : (k + 1) * 200030 = k * 200030 + 200030 := by omega
      rw [e]; omega)
    (fun k s hk => ⟨by have : k * 200030 ≤ 1000 * 200030 := Nat.mul_le_mul_right _ hk.2; omega, by omega⟩)
  rw [hres] at hwc
  simp only at hwc
  have Hwc := Lib.hid hwc
  clear hwc hW0 hpre hres hbnd
  go_enter Try.func20, Try.ntmps20
  go_wp2_with fail
  refine Hwc.out.mono ?_
  rintro e w1 ⟨Au, cu, o1, rfl, hM⟩
  have hbT : Below w.heap.size w w1 := hM.below (w := w) (C := w.heap.size) (bnew (bnew (Below.refl _ _) _) _) (by simp; omega) (by omega) rfl
  have hA1 : WrAt (w.heap.size + 1) w1 (w.heap.size + 1) o1 ⟨Rs.bytes r, false⟩ := hM.at_
  have Hen := Lib.hid (wenc_any _ w1 _ _ _ hA1 (fun _ => by simp [Rs.bytes, Cm.one]))
  have HbT := Lib.hid hbT
  clear hM hA1 hbT
  go_wp2_with fail
  refine Hen.out.mono ?_
  rintro e w4 ⟨rfl, hb4⟩
  have Hb4 := Lib.hid hb4
  clear hb4
  go_wp2_with fail
  go_ret
  refine ⟨rfl, HbT.out.trans (Hb4.out.mono (by omega))⟩
end Go.Proofs.Ytpdahbfjbgcmgaa
namespace Go.Proofs.Ytpdahbfjbgcmgaa
open Go.RowKit
theorem zero_short : Short Cm.zero := ⟨by decide, by decide, by decide, by decide, by decide, by decide, fun p hp => by cases hp⟩
/-- A reader that was just made. -/
theorem RdAt.new (w : World) (B : Nat) (hB : B ≤ w.heap.size) (s : ByteArray) : RdAt B (w.alloc (.cells #[.string s, .bool false] 94)) w.heap.size none ⟨s.data.toList, false⟩ :=
  ⟨by rw [heap_alloc_new], rfl, hB⟩
set_option maxRecDepth 100000 in
set_option maxHeartbeats 4000000 in
theorem cmdRead_any (s : ByteArray) (w : World) (hs : s.size ≤ 10000000) :
    Calls Try.prog 25 #[.string s] w (RetRd (Cm.read s.data.toList) w) := by
  rw [← Wk.inn_eq]
  have hW0 : ∀ a : Obj, RdAt (w.heap.size + 1) ((w.alloc a).alloc (.cells #[.string s, .bool false] 94)) (w.heap.size + 1) none ⟨s.data.toList, false⟩ := fun a => by
    have := RdAt.new (w.alloc a) (w.heap.size + 1) (by simp) s
    rw [World.size_alloc] at this
    exact this
  have hwc := wcmd_any (rdK (w.heap.size + 1)) _ _ _ _ Cm.zero none 0 (hW0 (.cells (cmdC Cm.zero none 0) 27)) (by simp only; rw [← Lib.size_eq]; omega) (.inl rfl) (fun b off e => by cases e) Cm.zero_fits zero_short
  have hz0 : ((w.alloc (.cells (cmdC Cm.zero none 0) 27)).alloc (.cells #[.string s, .bool false] 94)).heap[w.heap.size]? = some (.cells (cmdC Cm.zero none 0) 27 (0, 0)) := (Below.heap_alloc _ _ _ (by simp)).trans (heap_alloc_new w _)
  have Hz0 := Lib.hid hz0
  have hinn : Wk.inn s.data.toList = if (Wk.rA.cmd ⟨s.data.toList, false⟩ Cm.zero).2.bad = false ∧ (Wk.rA.cmd ⟨s.data.toList, false⟩ Cm.zero).2.l = [] then some (Wk.rA.cmd ⟨s.data.toList, false⟩ Cm.zero).1 else none := rfl
  generalize Wk.rA.cmd ⟨s.data.toList, false⟩ Cm.zero = r at hwc hinn
  obtain ⟨u, st⟩ := r
  simp only at hwc hinn
  have Hwc := Lib.hid hwc
  have Hinn := Lib.hid hinn
  generalize Wk.inn s.data.toList = ans at Hinn ⊢
  clear hwc hinn hz0 hW0
  go_enter Try.func25, Try.ntmps25
  go_wp2_with fail
  refine Hwc.out.mono ?_
  rintro e w1 ⟨Au, cu, o1, rfl, hM⟩
  have FP := cmdF u Au cu
  obtain ⟨P, hP⟩ : ∃ P, P = cmdC u Au cu := ⟨_, rfl⟩
  rw [← hP] at FP ⊢
  have HP := Lib.hid hP
  have hst := storeCmd P FP.size FP.one
  have hps := FP.size
  have HM := Lib.hid hM
  clear hP FP hM Hwc
  go_upto_region 3 with (fail)
  refine forget (fun W => Below w.heap.size w W ∧ W.heap[w.heap.size]? = some (.cells (cmdC Cm.zero none 0) 27 (0, 0)) ∧ W.heap[w1.heap.size]? = some (.cells P 27 (0, 0)) ∧ w.heap.size < w1.heap.size ∧ Lies W Au (pc u.parts) ∧ (∀ b off, Au = some ⟨b, off, none⟩ → b ≠ w.heap.size) ∧ RdAt (w.heap.size + 1) W (w.heap.size + 1) o1 st) ?_ ?_
  · have M := HM.out
    have hs1 := M.kept.size
    simp only [World.size_alloc] at hs1
    have hbT : Below w.heap.size w w1 := M.kept.below (B := w.heap.size) (bnew (bnew (Below.refl _ _) _) _) (by simp; omega) (by omega) (fun k e => by cases e)
    have hA1 : RdAt (w.heap.size + 1) w1 (w.heap.size + 1) o1 st := M.at_
    refine ⟨bnew hbT _, (Below.heap_alloc _ _ _ (by omega)).trans ((M.kept.block _ (by simp; omega) (by omega) (by simp)).trans Hz0.out), heap_alloc_new w1 _, by omega, M.lies.below (bnew (Below.refl _ _) _), fun b off e => by have := (M.sep b off e).1; simp at this; omega, hA1.bel (bnew (Below.refl _ _) _)⟩
  rintro W2 ⟨hb2, hz2, hp2, hq2, hl2, hsep, hr2⟩
  obtain ⟨q, hq⟩ : ∃ q, q = w1.heap.size := ⟨_, rfl⟩
  rw [← hq] at hp2 hq2 ⊢
  have Hen := Lib.hid (rdE_any _ W2 _ _ st hr2)
  have HS := Lib.hid (And.intro hb2 (And.intro hz2 (And.intro hp2 (And.intro hl2 hsep))))
  clear hq HM Hz0 hr2 hb2 hz2 hp2 hl2 hsep hst hps
  go_wp2_with fail
  refine Hen.out.mono ?_
  rintro e w3 ⟨rfl, rfl⟩
  clear Hen
  obtain ⟨hb2, hz2, hp2, hl2, hsep⟩ := HS.out
  have hlw : w.heap.size < W2.heap.size := (Array.getElem?_eq_some_iff.1 hz2).1
  obtain ⟨z0, z1, z2, z3, z4, z5, z6, z7, z8, z9, z10, z11, zz⟩ := cmdAt hz2
  rw [HP.out] at hp2
  obtain ⟨q0, q1, q2, q3, q4, q5, q6, q7, q8, q9, q10, q11, _⟩ := cmdAt hp2
  cases he : (!st.bad && st.l.isEmpty)
  · have Hno : Hid (ans = none) := Lib.hid (by
      rw [Hinn.out, if_neg]
      rintro ⟨h1, h2⟩
      rw [h1, h2] at he; simp at he)
    clear he hz2 hp2 hl2 hsep hb2 Hinn
    go_wp2_with fail
    have hres := results_ct (P := Try.prog) (fn := Try.f25) rfl
    refine bodyPost_ret (hres _ _ w.heap.size 27 (cmdC Cm.zero none 0) (0, 0) _ rfl (cmdPut (c := Cm.zero) (A := none) (cap := 0) HS.out.2.1) Try.underlying27 rfl sizeCmd) rfl ⟨none, 0, ?_, ?_, cmdBelow (c := Cm.zero) (A := none) (cap := 0) HS.out.1 (Nat.le_refl _)⟩
    · rw [Hno.out]; rfl
    · rw [Hno.out]; exact .inl rfl
  · have Hyes : Hid (ans = some u) := Lib.hid (by
      rw [Hinn.out, if_pos]
      simp only [Bool.and_eq_true, Bool.not_eq_true', List.isEmpty_iff] at he
      exact he)
    clear he hz2 hp2 hl2 hsep hb2 Hinn
    go_wp2_with fail
    have hres := results_ct (P := Try.prog) (fn := Try.f25) rfl
    refine bodyPost_ret (hres _ _ w.heap.size 27 (cmdC u Au cu) (0, 0) _ rfl (cmdPut (c := u) (A := Au) (cap := cu) HS.out.2.1) Try.underlying27 rfl sizeCmd) rfl ⟨Au, cu, ?_, ?_, cmdBelow (c := u) (A := Au) (cap := cu) HS.out.1 (Nat.le_refl _)⟩
    · rw [Hyes.out]; rfl
    · rw [Hyes.out]
      exact cmdLies (c := u) (A := Au) (cap := cu) HS.out.2.2.2.1 HS.out.2.2.2.2
end Go.Proofs.Ytpdahbfjbgcmgaa
namespace Go.Proofs.Ytpdahbfjbgcmgaa
open Go.RowKit
/-- What a reader of results answers. -/
def RetRr (o : Option Rs.Res) (w : World) (e : Ending) (w' : World) : Prop :=
  ∃ A cap, e = .returned (.tuple #[.agg (resC (o.getD Rs.zero) A cap), .bool o.isSome]) ∧ Lies w' A (rc (o.getD Rs.zero).rows) ∧ Below w.heap.size w w'
theorem zero_rfits : RFits Rs.zero := ⟨by decide, by unfold Rs.zero Nm.top; decide, fun p hp => by cases hp⟩
theorem Wk.rrow_len (s : Wk.St) (x : Rs.Row) : (Wk.rA.row s x).2.l.length ≤ s.l.length := by
  have h1 := Wk.rT_len s x.key
  have h2 := Wk.rT_len (Wk.rT s x.key).2 x.val
  have h3 := Wk.rG_len (Wk.rT (Wk.rT s x.key).2 x.val).2 x.ver 18446744073709551615
  have e : (Wk.rA.row s x).2 = (Wk.rG (Wk.rT (Wk.rT s x.key).2 x.val).2 x.ver 18446744073709551615).2 := rfl
  rw [e]; omega
theorem Wk.rrow_less (s : Wk.St) (x : Rs.Row) (h : (Wk.rA.row s x).2.bad = false) : (Wk.rA.row s x).2.l.length + 1 ≤ s.l.length := by
  obtain ⟨_, hw, e⟩ := Wk.rrow_of h
  have := congrArg List.length e
  rw [List.length_append] at this
  have h2 : 1 ≤ (Rs.rowB (Wk.rA.row s x).1).length := by
    unfold Rs.rowB Cm.txt row
    have := (Nm.cnt_spec (Wk.rA.row s x).1.ver hw.ver)
    simp only [List.length_append, Nm.grp_length]; omega
  omega
theorem resLies {W : World} {g : Nat} {a b c d : Value} {B : Option Addr} {vs : List Value} (h : Lies W B vs) (hb : ∀ b off, B = some ⟨b, off, none⟩ → b ≠ g) : Lies ((((W.setCell ⟨g, 0, none⟩ a).setCell ⟨g, 1, none⟩ b).setCell ⟨g, 2, none⟩ c).setCell ⟨g, 3, none⟩ d) B vs :=
  (((h.set hb).set hb).set hb).set hb
theorem resBelow {W w : World} {B g : Nat} {a b c d : Value} (h : Below B w W) (hg : B ≤ g) : Below B w ((((W.setCell ⟨g, 0, none⟩ a).setCell ⟨g, 1, none⟩ b).setCell ⟨g, 2, none⟩ c).setCell ⟨g, 3, none⟩ d) :=
  (((h.setCell (p := ⟨g, 0, none⟩) hg _).setCell (p := ⟨g, 1, none⟩) hg _).setCell (p := ⟨g, 2, none⟩) hg _).setCell (p := ⟨g, 3, none⟩) hg _
theorem resPut {W : World} {g : Nat} {z r : Rs.Res} {B A : Option Addr} {cz cap : Nat} (h : W.heap[g]? = some (.cells (resC z B cz) 42 (0, 0))) :
    ((((W.setCell ⟨g, 0, none⟩ (.int .u8 (r.code : Int))).setCell ⟨g, 1, none⟩ (.int .u64 (r.n : Int))).setCell ⟨g, 2, none⟩ (.string r.val)).setCell ⟨g, 3, none⟩ (.slice A r.rows.length cap)).heap[g]? = some (.cells (resC r A cap) 42 (0, 0)) := by
  have s0 := heap_setCell_same W g 0 _ _ (.int .u8 (r.code : Int)) h
  have s1 := heap_setCell_same _ g 1 _ _ (.int .u64 (r.n : Int)) s0
  have s2 := heap_setCell_same _ g 2 _ _ (.string r.val) s1
  have s3 := heap_setCell_same _ g 3 _ _ (.slice A r.rows.length cap) s2
  rw [s3]
  simp [resC]
set_option maxRecDepth 100000 in
set_option maxHeartbeats 2000000 in
theorem cmdReadRes_any (s : ByteArray) (w : World) (hs : s.size ≤ 10000000) :
    Calls Try.prog 29 #[.string s] w (RetRr (Rs.read s.data.toList) w) := by
  rw [← Wk.innR_eq]
  have hW0 : ∀ a : Obj, RdAt (w.heap.size + 1) ((w.alloc a).alloc (.cells #[.string s, .bool false] 94)) (w.heap.size + 1) none ⟨s.data.toList, false⟩ := fun a => by
    have := RdAt.new (w.alloc a) (w.heap.size + 1) (by simp) s
    rw [World.size_alloc] at this
    exact this
  have hsl : s.data.toList.length ≤ 10000000 := by rw [← Lib.size_eq]; exact hs
  have hl4 : (Wk.rA.pre ⟨s.data.toList, false⟩ Rs.zero).2.l.length ≤ s.data.toList.length := by
    have h1 := Wk.rO_len ⟨s.data.toList, false⟩ Rs.zero.code 0 255
    have h2 := Wk.rG_len (Wk.rO ⟨s.data.toList, false⟩ Rs.zero.code 0 255).2 Rs.zero.n 18446744073709551615
    have h3 := Wk.rT_len (Wk.rG (Wk.rO ⟨s.data.toList, false⟩ Rs.zero.code 0 255).2 Rs.zero.n 18446744073709551615).2 Rs.zero.val
    have h4 := Wk.rG_len (Wk.rT (Wk.rG (Wk.rO ⟨s.data.toList, false⟩ Rs.zero.code 0 255).2 Rs.zero.n 18446744073709551615).2 Rs.zero.val).2 Rs.zero.rows.length 18446744073709551615
    have e : (Wk.rA.pre ⟨s.data.toList, false⟩ Rs.zero).2 = (Wk.rG (Wk.rT (Wk.rG (Wk.rO ⟨s.data.toList, false⟩ Rs.zero.code 0 255).2 Rs.zero.n 18446744073709551615).2 Rs.zero.val).2 Rs.zero.rows.length 18446744073709551615).2 := rfl
    rw [e]; simp only at h1; omega
  have hwc := wres_any (rdK (w.heap.size + 1)) _ _ _ _ Rs.zero none 0 (hW0 (.cells (resC Rs.zero none 0) 42)) (by simp only; omega) (.inl rfl) (fun b off e => by cases e) zero_rfits (by decide) (by decide) (fun p hp => by cases hp)
    (fun k s1 => s1.l.length ≤ 10000000 ∧ (s1.bad = false → s1.l.length + k ≤ 10000000) ∧ k ≤ 10000001) ⟨by omega, fun _ => by omega, by omega⟩
    (fun k s1 hk _ hb => by
      have h1 := Wk.rrow_len s1 ((Rs.zero.rows.drop k).headD Wk.zeroR)
      have h2 := hk.2.1 hb
      refine ⟨by omega, fun hb2 => ?_, by omega⟩
      have h3 := Wk.rrow_less s1 _ hb2
      omega)
    (fun k s1 hk => ⟨by omega, by omega⟩)
  have hz0 : ((w.alloc (.cells (resC Rs.zero none 0) 42)).alloc (.cells #[.string s, .bool false] 94)).heap[w.heap.size]? = some (.cells (resC Rs.zero none 0) 42 (0, 0)) := (Below.heap_alloc _ _ _ (by simp)).trans (heap_alloc_new w _)
  have Hz0 := Lib.hid hz0
  have hinn : Wk.innR s.data.toList = if (Wk.rA.res ⟨s.data.toList, false⟩ Rs.zero).2.bad = false ∧ (Wk.rA.res ⟨s.data.toList, false⟩ Rs.zero).2.l = [] then some (Wk.rA.res ⟨s.data.toList, false⟩ Rs.zero).1 else none := rfl
  generalize Wk.rA.res ⟨s.data.toList, false⟩ Rs.zero = r at hwc hinn
  obtain ⟨u, st⟩ := r
  simp only at hwc hinn
  have Hwc := Lib.hid hwc
  have Hinn := Lib.hid hinn
  generalize Wk.innR s.data.toList = ans at Hinn ⊢
  clear hwc hinn hz0 hW0 hl4 hsl
  go_enter Try.func29, Try.ntmps29
  go_wp2_with fail
  refine Hwc.out.mono ?_
  rintro e w1 ⟨Au, cu, o1, rfl, hM⟩
  have HM := Lib.hid hM
  clear hM Hwc
  unfold resC
  go_upto_region 3 with (fail)
  refine forget (fun W => Below w.heap.size w W ∧ W.heap[w.heap.size]? = some (.cells (resC Rs.zero none 0) 42 (0, 0)) ∧ W.heap[w1.heap.size]? = some (.cells (resC u Au cu) 42 (0, 0)) ∧ w.heap.size < w1.heap.size ∧ Lies W Au (rc u.rows) ∧ (∀ b off, Au = some ⟨b, off, none⟩ → b ≠ w.heap.size) ∧ RdAt (w.heap.size + 1) W (w.heap.size + 1) o1 st) ?_ ?_
  · have M := HM.out
    have hs1 := M.kept.size
    simp only [World.size_alloc] at hs1
    have hbT : Below w.heap.size w w1 := M.kept.below (B := w.heap.size) (bnew (bnew (Below.refl _ _) _) _) (by simp; omega) (by omega) (fun k e => by cases e)
    have hA1 : RdAt (w.heap.size + 1) w1 (w.heap.size + 1) o1 st := M.at_
    refine ⟨bnew hbT _, (Below.heap_alloc _ _ _ (by omega)).trans ((M.kept.block _ (by simp; omega) (by omega) (by simp)).trans Hz0.out), heap_alloc_new w1 _, by omega, M.lies.below (bnew (Below.refl _ _) _), fun b off e => by have := (M.sep b off e).1; simp at this; omega, hA1.bel (bnew (Below.refl _ _) _)⟩
  rintro W2 ⟨hb2, hz2, hp2, hq2, hl2, hsep, hr2⟩
  obtain ⟨q, hq⟩ : ∃ q, q = w1.heap.size := ⟨_, rfl⟩
  rw [← hq] at hp2 hq2 ⊢
  have Hen := Lib.hid (rdE_any _ W2 _ _ st hr2)
  have HS := Lib.hid (And.intro hb2 (And.intro hz2 (And.intro hp2 (And.intro hl2 hsep))))
  clear hq HM Hz0 hr2 hb2 hz2 hp2 hl2 hsep
  go_wp2_with fail
  refine Hen.out.mono ?_
  rintro e w3 ⟨rfl, rfl⟩
  clear Hen
  obtain ⟨hb2, hz2, hp2, hl2, hsep⟩ := HS.out
  have hlw : w.heap.size < W2.heap.size := (Array.getElem?_eq_some_iff.1 hz2).1
  have z0 : W2.cell? ⟨w.heap.size, 0, none⟩ = some (.int .u8 0) := cell_of_row W2 _ 0 _ _ _ hz2
  have z1 : W2.cell? ⟨w.heap.size, 1, none⟩ = some (.int .u64 0) := cell_of_row W2 _ 1 _ _ _ hz2
  have z2 : W2.cell? ⟨w.heap.size, 2, none⟩ = some (.string ⟨#[]⟩) := cell_of_row W2 _ 2 _ _ _ hz2
  have z3 : W2.cell? ⟨w.heap.size, 3, none⟩ = some (.slice none 0 0) := cell_of_row W2 _ 3 _ _ _ hz2
  have f0 := frozen_of_row W2 w.heap.size 0 _ _ hz2
  have f1 := frozen_of_row W2 w.heap.size 1 _ _ hz2
  have f2 := frozen_of_row W2 w.heap.size 2 _ _ hz2
  have f3 := frozen_of_row W2 w.heap.size 3 _ _ hz2
  have q0 : W2.cell? ⟨q, 0, none⟩ = some (.int .u8 (u.code : Int)) := cell_of_row W2 _ 0 _ _ _ hp2
  have q1 : W2.cell? ⟨q, 1, none⟩ = some (.int .u64 (u.n : Int)) := cell_of_row W2 _ 1 _ _ _ hp2
  have q2 : W2.cell? ⟨q, 2, none⟩ = some (.string u.val) := cell_of_row W2 _ 2 _ _ _ hp2
  have q3 : W2.cell? ⟨q, 3, none⟩ = some (.slice Au u.rows.length cu) := cell_of_row W2 _ 3 _ _ _ hp2
  cases he : (!st.bad && st.l.isEmpty)
  · have Hno : Hid (ans = none) := Lib.hid (by
      rw [Hinn.out, if_neg]
      rintro ⟨h1, h2⟩
      rw [h1, h2] at he; simp at he)
    clear he hz2 hp2 hl2 hsep hb2 Hinn
    go_wp2_with fail
    have hres := results_ct (P := Try.prog) (fn := Try.f29) rfl
    refine bodyPost_ret (hres _ _ w.heap.size 42 (resC Rs.zero none 0) (0, 0) _ rfl (resPut (r := Rs.zero) (A := none) (cap := 0) HS.out.2.1) Try.underlying42 rfl sizeRes) rfl ⟨none, 0, ?_, ?_, resBelow HS.out.1 (Nat.le_refl _)⟩
    · rw [Hno.out]; rfl
    · rw [Hno.out]; exact .inl rfl
  · have Hyes : Hid (ans = some u) := Lib.hid (by
      rw [Hinn.out, if_pos]
      simp only [Bool.and_eq_true, Bool.not_eq_true', List.isEmpty_iff] at he
      exact he)
    clear he hz2 hp2 hl2 hsep hb2 Hinn
    go_wp2_with fail
    have hres := results_ct (P := Try.prog) (fn := Try.f29) rfl
    refine bodyPost_ret (hres _ _ w.heap.size 42 (resC u Au cu) (0, 0) _ rfl (resPut (r := u) (A := Au) (cap := cu) HS.out.2.1) Try.underlying42 rfl sizeRes) rfl ⟨Au, cu, ?_, ?_, resBelow HS.out.1 (Nat.le_refl _)⟩
    · rw [Hyes.out]; rfl
    · rw [Hyes.out]
      exact resLies HS.out.2.2.2.1 HS.out.2.2.2.2
end Go.Proofs.Ytpdahbfjbgcmgaa
namespace Go.Proofs.Ytpdahbfjbgcmgaa
open Go.RowKit
theorem longKey_any (s : ByteArray) (w : World) : Calls Try.prog 53 #[.string s] w fun e w' => e = .returned (.bool (decide (16 < s.size))) ∧ w = w' := by
  by_cases h : 16 < s.size
  · have d1 : decide ((16 : Int) < (s.size : Int)) = true := dec_t h
    rw [decide_eq_true h]
    clear h
    go_enter Try.func53, Try.ntmps53
    go_wp2_with fail
    go_ret
    exact ⟨rfl, rfl⟩
  · have d1 : decide ((16 : Int) < (s.size : Int)) = false := dec_f h
    rw [decide_eq_false h]
    clear h
    go_enter Try.func53, Try.ntmps53
    go_wp2_with fail
    go_ret
    exact ⟨rfl, rfl⟩
theorem longValue_any (s : ByteArray) (w : World) : Calls Try.prog 54 #[.string s] w fun e w' => e = .returned (.bool (decide (64 < s.size))) ∧ w = w' := by
  by_cases h : 64 < s.size
  · have d1 : decide ((64 : Int) < (s.size : Int)) = true := dec_t h
    rw [decide_eq_true h]
    clear h
    go_enter Try.func54, Try.ntmps54
    go_wp2_with fail
    go_ret
    exact ⟨rfl, rfl⟩
  · have d1 : decide ((64 : Int) < (s.size : Int)) = false := dec_f h
    rw [decide_eq_false h]
    clear h
    go_enter Try.func54, Try.ntmps54
    go_wp2_with fail
    go_ret
    exact ⟨rfl, rfl⟩
set_option maxRecDepth 100000 in
theorem longPart_any (p : Cm.Part) (w : World) : Calls Try.prog 56 #[.agg #[.int .u8 (p.op : Int), .string p.key, .string p.val]] w fun e w' => e = .returned (.bool (Cm.overP p)) ∧ Below w.heap.size w w' := by
  have hk := longKey_any p.key
  have hv := longValue_any p.val
  by_cases h : 16 < p.key.size
  · have E : Hid (Cm.overP p = true) := Lib.hid (by unfold Cm.overP; simp [h])
    rw [decide_eq_true h] at hk
    have Hk := Lib.hid hk
    clear hk hv h
    go_enter Try.func56, Try.ntmps56
    go_wp2_with fail
    refine (Hk.out _).mono ?_
    rintro e w1 ⟨rfl, rfl⟩
    go_wp2_with fail
    go_ret
    rw [E.out]
    exact ⟨rfl, bnew (Below.refl _ _) _⟩
  · have E : Hid (Cm.overP p = decide (64 < p.val.size)) := Lib.hid (by unfold Cm.overP; simp [h])
    rw [decide_eq_false h] at hk
    have Hk := Lib.hid hk
    have Hv := Lib.hid hv
    clear hk hv h
    go_enter Try.func56, Try.ntmps56
    go_wp2_with fail
    refine (Hk.out _).mono ?_
    rintro e w1 ⟨rfl, rfl⟩
    generalize decide (64 < p.val.size) = b at Hv E
    go_wp2_with fail
    refine (Hv.out _).mono ?_
    rintro e w1 ⟨rfl, rfl⟩
    go_wp2_with fail
    go_ret
    rw [E.out]
    exact ⟨rfl, bnew (Below.refl _ _) _⟩
set_option maxRecDepth 100000 in
set_option maxHeartbeats 1000000 in
theorem idx_any (ps : List Cm.Part) (A : Option Addr) (ca : Nat) (w : World) (hA : Lies w A (pc ps)) (hn : ps.length ≤ 1000000) :
    Calls Try.prog 101 #[.slice A ps.length ca, .func (.func 56) #[] #[]] w fun e w' => ∃ z : Int, e = .returned (.int .i64 z) ∧ (ps.any Cm.overP = true → 0 ≤ z) ∧ (ps.any Cm.overP = false → z = -1) ∧ Below w.heap.size w w' := by
  have HA := Lib.hid hA
  clear hA
  go_enter Try.func101, Try.ntmps101
  go_wp2
  go_loopw [8] (fun i wr => ∃ k : Nat, k ≤ ps.length ∧ i = .int .i64 (k : Int) ∧ (ps.take k).any Cm.overP = false ∧ Below w.heap.size w wr) (fun i _ => ps.length - (intOf i).toNat)
  case atStart => exact ⟨0, Nat.zero_le _, rfl, by simp, Below.refl _ _⟩
  case round =>
    obtain ⟨k, hk, rfl, hall, hb⟩ := hrel
    have Hall := Lib.hid hall
    have Hb := Lib.hid hb
    clear hall hb
    by_cases hlt : k < ps.length
    · obtain ⟨ba, oa, rfl, hba, p0, p1, p2⟩ := HA.out.part k hlt
      have r0 : wr.cell? ⟨ba, oa + k * 3, none⟩ = _ := (Hb.out.cell (p := ⟨ba, oa + k * 3, none⟩) hba).trans p0
      have r1 : wr.cell? ⟨ba, oa + k * 3 + 1, none⟩ = _ := (Hb.out.cell (p := ⟨ba, oa + k * 3 + 1, none⟩) hba).trans p1
      have r2 : wr.cell? ⟨ba, oa + k * 3 + 2, none⟩ = _ := (Hb.out.cell (p := ⟨ba, oa + k * 3 + 2, none⟩) hba).trans p2
      obtain ⟨p, hp⟩ : ∃ p, p = ps[k] := ⟨_, rfl⟩
      have hstep := any_take ps k hlt
      rw [← hp] at r0 r1 r2 hstep
      rw [Hall.out, Bool.false_or] at hstep
      have hl := longPart_any p
      cases hs : Cm.overP p
      · rw [hs] at hl hstep
        have Hl := Lib.hid hl
        have Hst := Lib.hid hstep
        clear hl hstep hs hp p0 p1 p2
        go_wp2_with fail
        refine (Hl.out _).mono ?_
        rintro e w1 ⟨rfl, hb1⟩
        have Hb1 := Lib.hid (Hb.out.trans (hb1.mono Hb.out.size))
        clear hb1
        go_wp2_with fail
        go_roundw
        case rel => exact ⟨k + 1, by omega, by go_num, Hst.out, Hb1.out⟩
        case measure => simp [intOf]; omega
      · rw [hs] at hl hstep
        have Hl := Lib.hid hl
        have Hany : Hid (ps.any Cm.overP = true) := Lib.hid (by
          rw [List.any_eq_true]
          exact ⟨p, by rw [hp]; exact List.getElem_mem hlt, hs⟩)
        clear hl hstep hs hp p0 p1 p2
        go_wp2_with fail
        refine (Hl.out _).mono ?_
        rintro e w1 ⟨rfl, hb1⟩
        have Hb1 := Lib.hid (Hb.out.trans (hb1.mono Hb.out.size))
        clear hb1
        go_wp2_with fail
        go_ret
        exact ⟨(k : Int), rfl, fun _ => (by omega), fun h => (by rw [Hany.out] at h; cases h), Hb1.out⟩
    · obtain rfl : k = ps.length := by omega
      go_wp2_with fail
      go_ret
      refine ⟨-1, rfl, fun h => ?_, fun _ => rfl, Hb.out⟩
      have := Hall.out
      rw [List.take_length] at this
      rw [this] at h; cases h
set_option maxRecDepth 100000 in
theorem contains_any (ps : List Cm.Part) (A : Option Addr) (ca : Nat) (w : World) (hA : Lies w A (pc ps)) (hn : ps.length ≤ 1000000) :
    Calls Try.prog 55 #[.slice A ps.length ca, .func (.func 56) #[] #[]] w fun e w' => e = .returned (.bool (ps.any Cm.overP)) ∧ Below w.heap.size w w' := by
  have Hc := Lib.hid (idx_any ps A ca w hA hn)
  clear hA
  go_enter Try.func55, Try.ntmps55
  go_wp2_with fail
  refine Hc.out.mono ?_
  rintro e w1 ⟨z, rfl, h1, h2, hb⟩
  have Hb := Lib.hid hb
  clear hb
  cases hs : ps.any Cm.overP
  · have hz := h2 hs
    subst hz
    have Hs := Lib.hid hs
    clear h1 h2 hs
    go_wp2_with fail
    go_ret
    exact ⟨by rw [Hs.out]; rfl, Hb.out⟩
  · have hz := h1 hs
    have Hs := Lib.hid hs
    clear h1 h2 hs
    go_wp2_with fail
    go_ret
    exact ⟨by rw [Hs.out]; rfl, Hb.out⟩
set_option maxRecDepth 100000 in
set_option maxHeartbeats 2000000 in
theorem cmdOver_any (c : Cm.Cmd) (A : Option Addr) (cap : Nat) (w : World) (hA : Lies w A (pc c.parts)) (hn : c.parts.length ≤ 1000000) :
    Calls Try.prog 18 #[.agg (cmdC c A cap)] w fun e w' => e = .returned (.bool (Cm.oversize c)) ∧ Below w.heap.size w w' := by
  have Hcf := Lib.hid (fun W (hb : Below w.heap.size w W) => contains_any c.parts A cap W (hA.below hb) hn)
  have FX := cmdF c A cap
  generalize cmdC c A cap = X at FX ⊢
  obtain ⟨hx, _, _, _, _, x3, x4, x5, x6, x7, _, _, _, x11⟩ := FX
  clear hA
  have k1 := longKey_any c.key
  have k2 := longKey_any c.frm
  have k3 := longKey_any c.tto
  have k4 := longValue_any c.val
  have k5 := longValue_any c.exp
  by_cases h1 : 16 < c.key.size
  · have E : Hid (Cm.oversize c = true) := Lib.hid (by unfold Cm.oversize Cm.over0; simp [h1])
    rw [decide_eq_true h1] at k1
    have K1 := Lib.hid k1
    clear k1 k2 k3 k4 k5 h1
    go_enter Try.func18, Try.ntmps18
    go_wp2_with fail
    refine (K1.out _).mono ?_
    rintro e w1 ⟨rfl, rfl⟩
    go_wp2_with fail
    go_ret
    rw [E.out]
    exact ⟨rfl, bnew (Below.refl _ _) _⟩
  by_cases h2 : 16 < c.frm.size
  · have E : Hid (Cm.oversize c = true) := Lib.hid (by unfold Cm.oversize Cm.over0; simp [h1, h2])
    rw [decide_eq_false h1] at k1
    have K1 := Lib.hid k1
    rw [decide_eq_true h2] at k2
    have K2 := Lib.hid k2
    clear k1 k2 k3 k4 k5 h1 h2
    go_enter Try.func18, Try.ntmps18
    go_wp2_with fail
    refine (K1.out _).mono ?_
    rintro e w1 ⟨rfl, rfl⟩
    go_wp2_with fail
    refine (K2.out _).mono ?_
    rintro e w2 ⟨rfl, rfl⟩
    go_wp2_with fail
    go_ret
    rw [E.out]
    exact ⟨rfl, bnew (Below.refl _ _) _⟩
  by_cases h3 : 16 < c.tto.size
  · have E : Hid (Cm.oversize c = true) := Lib.hid (by unfold Cm.oversize Cm.over0; simp [h1, h2, h3])
    rw [decide_eq_false h1] at k1
    have K1 := Lib.hid k1
    rw [decide_eq_false h2] at k2
    have K2 := Lib.hid k2
    rw [decide_eq_true h3] at k3
    have K3 := Lib.hid k3
    clear k1 k2 k3 k4 k5 h1 h2 h3
    go_enter Try.func18, Try.ntmps18
    go_wp2_with fail
    refine (K1.out _).mono ?_
    rintro e w1 ⟨rfl, rfl⟩
    go_wp2_with fail
    refine (K2.out _).mono ?_
    rintro e w2 ⟨rfl, rfl⟩
    go_wp2_with fail
    refine (K3.out _).mono ?_
    rintro e w3 ⟨rfl, rfl⟩
    go_wp2_with fail
    go_ret
    rw [E.out]
    exact ⟨rfl, bnew (Below.refl _ _) _⟩
  by_cases h4 : 64 < c.val.size
  · have E : Hid (Cm.oversize c = true) := Lib.hid (by unfold Cm.oversize Cm.over0; simp [h1, h2, h3, h4])
    rw [decide_eq_false h1] at k1
    have K1 := Lib.hid k1
    rw [decide_eq_false h2] at k2
    have K2 := Lib.hid k2
    rw [decide_eq_false h3] at k3
    have K3 := Lib.hid k3
    rw [decide_eq_true h4] at k4
    have K4 := Lib.hid k4
    clear k1 k2 k3 k4 k5 h1 h2 h3 h4
    go_enter Try.func18, Try.ntmps18
    go_wp2_with fail
    refine (K1.out _).mono ?_
    rintro e w1 ⟨rfl, rfl⟩
    go_wp2_with fail
    refine (K2.out _).mono ?_
    rintro e w2 ⟨rfl, rfl⟩
    go_wp2_with fail
    refine (K3.out _).mono ?_
    rintro e w3 ⟨rfl, rfl⟩
    go_wp2_with fail
    refine (K4.out _).mono ?_
    rintro e w4 ⟨rfl, rfl⟩
    go_wp2_with fail
    go_ret
    rw [E.out]
    exact ⟨rfl, bnew (Below.refl _ _) _⟩
  by_cases h5 : 64 < c.exp.size
  · have E : Hid (Cm.oversize c = true) := Lib.hid (by unfold Cm.oversize Cm.over0; simp [h1, h2, h3, h4, h5])
    rw [decide_eq_false h1] at k1
    have K1 := Lib.hid k1
    rw [decide_eq_false h2] at k2
    have K2 := Lib.hid k2
    rw [decide_eq_false h3] at k3
    have K3 := Lib.hid k3
    rw [decide_eq_false h4] at k4
    have K4 := Lib.hid k4
    rw [decide_eq_true h5] at k5
    have K5 := Lib.hid k5
    clear k1 k2 k3 k4 k5 h1 h2 h3 h4 h5
    go_enter Try.func18, Try.ntmps18
    go_wp2_with fail
    refine (K1.out _).mono ?_
    rintro e w1 ⟨rfl, rfl⟩
    go_wp2_with fail
    refine (K2.out _).mono ?_
    rintro e w2 ⟨rfl, rfl⟩
    go_wp2_with fail
    refine (K3.out _).mono ?_
    rintro e w3 ⟨rfl, rfl⟩
    go_wp2_with fail
    refine (K4.out _).mono ?_
    rintro e w4 ⟨rfl, rfl⟩
    go_wp2_with fail
    refine (K5.out _).mono ?_
    rintro e w5 ⟨rfl, rfl⟩
    go_wp2_with fail
    go_ret
    rw [E.out]
    exact ⟨rfl, bnew (Below.refl _ _) _⟩
  have E : Hid (Cm.oversize c = c.parts.any Cm.overP) := Lib.hid (by unfold Cm.oversize Cm.over0; simp [h1, h2, h3, h4, h5])
  rw [decide_eq_false h1] at k1
  have K1 := Lib.hid k1
  rw [decide_eq_false h2] at k2
  have K2 := Lib.hid k2
  rw [decide_eq_false h3] at k3
  have K3 := Lib.hid k3
  rw [decide_eq_false h4] at k4
  have K4 := Lib.hid k4
  rw [decide_eq_false h5] at k5
  have K5 := Lib.hid k5
  clear k1 k2 k3 k4 k5 h1 h2 h3 h4 h5
  generalize c.parts.any Cm.overP = b at Hcf E
  go_enter Try.func18, Try.ntmps18
  go_wp2_with fail
  refine (K1.out _).mono ?_
  rintro e w1 ⟨rfl, rfl⟩
  go_wp2_with fail
  refine (K2.out _).mono ?_
  rintro e w2 ⟨rfl, rfl⟩
  go_wp2_with fail
  refine (K3.out _).mono ?_
  rintro e w3 ⟨rfl, rfl⟩
  go_wp2_with fail
  refine (K4.out _).mono ?_
  rintro e w4 ⟨rfl, rfl⟩
  go_wp2_with fail
  refine (K5.out _).mono ?_
  rintro e w5 ⟨rfl, rfl⟩
  go_wp2_with fail
  refine (Hcf.out _ (bnew (Below.refl _ _) _)).mono ?_
  rintro e w6 ⟨rfl, hb⟩
  go_wp2_with fail
  go_ret
  rw [E.out]
  exact ⟨rfl, bnext (bnew (Below.refl _ _) _) hb⟩
set_option maxRecDepth 100000 in
theorem asks_any (n : Nat) (hn : n < 256) (w : World) : Calls Try.prog 19 #[.int .u8 (n : Int)] w fun e w' => e = .returned (.bool (decide (7 < n ∧ n < 12))) ∧ w = w' := by
  by_cases h1 : 8 ≤ n
  · have d1 : decide ((8 : Int) ≤ (n : Int)) = true := by simp; omega
    by_cases h2 : n ≤ 11
    · have d2 : decide ((n : Int) ≤ 11) = true := by simp; omega
      have E : Hid (decide (7 < n ∧ n < 12) = true) := Lib.hid (decide_eq_true (by omega))
      have i1 : (8 : Int) ≤ (n : Int) := by omega
      have i2 : (n : Int) ≤ 11 := by omega
      go_enter Try.func19, Try.ntmps19
      go_wp2_with fail
      go_ret
      exact ⟨by rw [E.out]; rfl, rfl⟩
    · have E : Hid (decide (7 < n ∧ n < 12) = false) := Lib.hid (decide_eq_false (by omega))
      have i1 : (8 : Int) ≤ (n : Int) := by omega
      have i2 : ((n : Int) ≤ 11) = False := eq_false (by omega)
      have i3 : (n ≤ 11) = False := eq_false (by omega)
      clear h2
      go_enter Try.func19, Try.ntmps19
      go_wp2_with fail
      go_ret
      exact ⟨by rw [E.out]; simp, rfl⟩
  · have E : Hid (decide (7 < n ∧ n < 12) = false) := Lib.hid (decide_eq_false (by omega))
    have i2 : ((8 : Int) ≤ (n : Int)) = False := eq_false (by omega)
    have i3 : (8 ≤ n) = False := eq_false (by omega)
    clear h1
    go_enter Try.func19, Try.ntmps19
    go_wp2_with fail
    go_ret
    exact ⟨by rw [E.out]; simp, rfl⟩
end Go.Proofs.Ytpdahbfjbgcmgaa
