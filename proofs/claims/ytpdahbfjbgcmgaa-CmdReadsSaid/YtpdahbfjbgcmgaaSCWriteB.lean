/-
  cmd.WriteResult walked, for many rows of short texts.
-/
import Derived.Test.YtpdahbfjbgcmgaaSCall
set_option linter.unusedSimpArgs false
set_option linter.unusedVariables false
namespace Go.Proofs.Ytpdahbfjbgcmgaa
open Go.RowKit
set_option maxRecDepth 100000 in
set_option maxHeartbeats 2000000 in
theorem cmdWriteRes_gen (N M : Nat) (hNM : N * (M + M + 30) ≤ 600000000) (hM : M ≤ 100000) (hN : N ≤ 1000000) (r : Rs.Res) (hf : RFits r) (hv : r.val.size ≤ 100000) (hxl : r.rows.length ≤ N) (hfit : ∀ p ∈ r.rows, p.key.size ≤ M ∧ p.val.size ≤ M) (A : Option Addr) (cap : Nat) (w : World) (hA : Lies w A (rc r.rows)) :
    Calls Try.prog 20 #[.agg #[.int .u8 (r.code : Int), .int .u64 (r.n : Int), .string r.val, .slice A r.rows.length cap]] w (RetS (Rs.bytes r) w) := by
  have hl : r.rows.length < Nm.top := by unfold Nm.top; omega
  have hpre := Wk.wpre r hf.code hf.n hl
  have hres := Wk.wres r hf.code hf.n hl hf.rows
  have hW0 : ∀ a : Obj, WrAt (w.heap.size + 1) ((w.alloc a).alloc (.cells #[.pointer none, .slice none 0 0, .bool false] 80)) (w.heap.size + 1) none ⟨[], false⟩ := fun a => by
    have := WrAt.new (w.alloc a)
    rw [World.size_alloc] at this
    exact this
  have hbnd : (Cm.one r.code ++ Nm.grp r.n ++ Cm.txt r.val ++ Nm.grp r.rows.length).length ≤ 200000 := by
    have h1 := grp_len r.n hf.n
    have h2 := grp_len r.rows.length hl
    have h3 := grp_len r.val.size (by unfold Nm.top; omega)
    have h4 : r.val.data.toList.length = r.val.size := (Lib.size_eq _).symm
    simp only [List.length_append, Cm.one, Cm.txt, row, List.length_singleton]
    rw [h4]; omega
  have hwc := wres_any (wrK (w.heap.size + 1)) _ _ _ _ r A cap (hW0 (.cells (resC r A cap) 42)) (by simp) (hA.below (bnew (bnew (Below.refl _ _) _) _)) (fun b off e hne => by
    rcases hA with h | ⟨b2, off2, e2, hb, _⟩
    · exfalso; have := rc_length r.rows; rw [h] at this; exact hne (List.eq_nil_of_length_eq_zero (by simp at this; omega))
    · rw [e2] at e; injection e with e; injection e with e _; omega) hf hv (by omega) (fun p hp => ⟨by have := (hfit p hp).1; omega, by have := (hfit p hp).2; omega⟩)
    (fun k s => s.l.length ≤ 200000 + k * (M + M + 30) ∧ k ≤ N) (by rw [hpre]; exact ⟨by simpa using hbnd, by omega⟩)
    (fun k s1 hk hk2 _ => by
      rw [hpre] at hk2
      simp only at hk2
      have hp : ((r.rows.drop k).headD Wk.zeroR).ver < Nm.top ∧ ((r.rows.drop k).headD Wk.zeroR).key.size ≤ M ∧ ((r.rows.drop k).headD Wk.zeroR).val.size ≤ M := by
        rcases hd : r.rows.drop k with _ | ⟨q, rr⟩
        · exact ⟨by simp [Wk.zeroR, Nm.top], Nat.zero_le _, Nat.zero_le _⟩
        · have hm : q ∈ r.rows := List.mem_of_mem_drop (i := k) (by rw [hd]; simp)
          exact ⟨hf.rows q hm, hfit q hm⟩
      have := Wk.wA.row_len s1 _ hp.1 (by unfold Nm.top; omega) (by unfold Nm.top; omega)
      refine ⟨?_, by omega⟩
      have e : (k + 1) * (M + M + 30) = k * (M + M + 30) + (M + M + 30) := Nat.succ_mul _ _
      rw [e]; omega)
    (fun k s hk => ⟨by have : k * (M + M + 30) ≤ N * (M + M + 30) := Nat.mul_le_mul_right _ hk.2; omega, by omega⟩)
  rw [hres] at hwc
  simp only at hwc
  have Hwc := Lib.hid hwc
  clear hwc hW0 hpre hres hbnd
  go_enter Try.func20, Try.ntmps20
  go_wp2_with fail
  refine Hwc.out.mono ?_
  rintro e w1 ⟨Au, cu, o1, rfl, hMd⟩
  have hbT : Below w.heap.size w w1 := hMd.below (w := w) (C := w.heap.size) (bnew (bnew (Below.refl _ _) _) _) (by simp; omega) (by omega) rfl
  have hA1 : WrAt (w.heap.size + 1) w1 (w.heap.size + 1) o1 ⟨Rs.bytes r, false⟩ := hMd.at_
  have Hen := Lib.hid (wenc_any _ w1 _ _ _ hA1 (fun _ => by simp [Rs.bytes, Cm.one]))
  have HbT := Lib.hid hbT
  clear hMd hA1 hbT
  go_wp2_with fail
  refine Hen.out.mono ?_
  rintro e w4 ⟨rfl, hb4⟩
  have Hb4 := Lib.hid hb4
  clear hb4
  go_wp2_with fail
  go_ret
  refine ⟨rfl, HbT.out.trans (Hb4.out.mono (by omega))⟩
end Go.Proofs.Ytpdahbfjbgcmgaa
