/-
  wapentakeref03.Bytes walked, but for a batch.
-/
import Derived.Test.YtlcgjlganmblpaaRCmd
import Derived.Deep.RegionHeld3
set_option linter.unusedSimpArgs false
set_option linter.unusedVariables false
namespace Go.Proofs.Ytlcgjlganmblpaa
open Go.RowKit

theorem three0 (w : World) (a b c : Obj) : (((w.alloc a).alloc b).alloc c).heap[w.heap.size]? = some a := by
  rw [Below.heap_alloc _ _ _ (by simp; omega), Below.heap_alloc _ _ _ (by simp)]; exact heap_alloc_new w _
theorem three1 (w : World) (a b c : Obj) : (((w.alloc a).alloc b).alloc c).heap[w.heap.size + 1]? = some b := by
  rw [Below.heap_alloc _ _ _ (by simp)]
  have := heap_alloc_new (w.alloc a) b
  rwa [World.size_alloc] at this
theorem three2 (w : World) (a b c : Obj) : (((w.alloc a).alloc b).alloc c).heap[w.heap.size + 1 + 1]? = some c := by
  have := heap_alloc_new ((w.alloc a).alloc b) c
  rwa [World.size_alloc, World.size_alloc] at this
theorem eight (n : Nat) (h : n < 256) : IntKind.i64.wrap (n : Int) = (n : Int) := IntWalk.i64_in _ (by omega)

/-- What Bytes answers. -/
def RetBy (c : Cm.Cmd) (w : World) (e : Ending) (w' : World) : Prop :=
  ∃ B cb, e = .returned (.tuple #[.string ⟨(Cm.bytes c).toArray⟩, .agg (cmdC (Cm.plain c) B cb)]) ∧ Lies w' B (pc (Cm.plain c).parts) ∧ Below w.heap.size w w'

set_option maxRecDepth 100000 in
set_option maxHeartbeats 4000000 in
theorem bytes_1 (c : Cm.Cmd) (hf : Cm.Fits c) (A : Option Addr) (cap : Nat) (w : World) (hlen : (Cm.bytes c).length ≤ 50000000) (hop : c.op = 1) :
    Calls Try.prog 64 #[.agg (cmdC c A cap)] w (RetBy c w) := by
  have hpl := Cm.plain1 (Or.inl hop)
  have hby : Cm.bytes c = Cm.head c ++ Cm.body c := rfl
  rw [Cm.body1 (Or.inl hop)] at hby
  have hll := congrArg List.length hby
  simp only [List.length_append] at hll
  have h1 := one_any c.op
  have h2 := refOne_any c.ses hf.ses
  have h3 := refOne_any c.seq hf.seq
  obtain ⟨g1, hg1⟩ : ∃ g : ByteArray, g = ⟨(Cm.one c.op).toArray⟩ := ⟨_, rfl⟩
  obtain ⟨g2, hg2⟩ : ∃ g : ByteArray, g = ⟨(Nm.grp c.ses).toArray⟩ := ⟨_, rfl⟩
  obtain ⟨g3, hg3⟩ : ∃ g : ByteArray, g = ⟨(Nm.grp c.seq).toArray⟩ := ⟨_, rfl⟩
  unfold RetS at h1 h2 h3
  rw [← hg1] at h1
  rw [← hg2] at h2
  rw [← hg3] at h3
  have z1 : g1.size = 1 := by rw [hg1]; rfl
  have z2 : g2.size ≤ 10 := by rw [hg2, Lib.size_eq]; exact grp_len _ hf.ses
  have z3 : g3.size ≤ 10 := by rw [hg3, Lib.size_eq]; exact grp_len _ hf.seq
  have h4 := refOne_any c.ttl hf.ttl
  obtain ⟨g4, hg4⟩ : ∃ g : ByteArray, g = ⟨(Nm.grp c.ttl).toArray⟩ := ⟨_, rfl⟩
  unfold RetS at h4
  rw [← hg4] at h4
  have z4 : g4.size ≤ 10 := by rw [hg4, Lib.size_eq]; exact grp_len _ hf.ttl
  have hfin : (⟨(Cm.bytes c).toArray⟩ : ByteArray) = g1 ++ g2 ++ g3 ++ g4 := by
    rw [hby, hg1, hg2, hg3, hg4]
    simp [Cm.head, ByteArray.mk_append_mk]
  have Hfin := Lib.hid hfin
  have H1 := Lib.hid h1
  have H2 := Lib.hid h2
  have H3 := Lib.hid h3
  have H4 := Lib.hid h4
  have Hpl := Lib.hid hpl
  have Hop := Lib.hid hop
  have a1 : ∀ W : World, (Op.stringOp .add g1 g2).run Try.prog W = .ok (.string (g1 ++ g2)) W := fun W => run_string_add_sum W g1 g2 (by omega)
  have a2 : ∀ W : World, (Op.stringOp .add (g1 ++ g2) g3).run Try.prog W = .ok (.string (g1 ++ g2 ++ g3)) W := fun W => run_string_add_sum W (g1 ++ g2) g3 (by rw [ByteArray.size_append]; omega)
  have b4 : ∀ W : World, (Op.stringOp .add (g1 ++ g2 ++ g3) g4).run Try.prog W = .ok (.string (g1 ++ g2 ++ g3 ++ g4)) W := fun W => run_string_add_sum W _ g4 (by simp only [ByteArray.size_append]; omega)
  have hw8 := eight c.op hf.op
  have hopI : (c.op : Int) = 1 := by omega
  clear hfin hll hby hlen hpl hop hg1 h1 hg2 h2 hg3 h3 hg4 h4
  have HopI := Lib.hid hopI
  clear hopI
  have FX := cmdF c A cap
  generalize cmdC c A cap = X at FX ⊢
  obtain ⟨hx, _, x0, x1, x2, x3, x4, x5, x6, x7, x8, x9, x10, x11⟩ := FX
  go_enter Try.func64, Try.ntmps64
  go_wp2_with fail
  refine forget (fun W => Below w.heap.size w W ∧ w.heap.size + 3 = W.heap.size ∧ W.heap[w.heap.size]? = some (.cells X 30 (0, 0)) ∧ W.heap[w.heap.size + 1]? = some (.cells (cmdC Cm.zero none 0) 30 (0, 0)) ∧ W.heap[w.heap.size + 1 + 1]? = some (.cells (cmdC ⟨c.op, c.ses, c.seq, Cm.e0, Cm.e0, Cm.e0, Cm.e0, Cm.e0, 0, 0, 0, []⟩ none 0) 30 (0, 0))) ?_ ?_
  · exact ⟨bnew (bnew (bnew (Below.refl _ _) _) _) _, by simp, three0 w _ _ _, three1 w _ _ _, three2 w _ _ _⟩
  rintro W0 ⟨hb0, hz0, hbx, hbz, hbp⟩
  have c0 := cell_of_row W0 w.heap.size 0 X _ _ hbx
  rw [Array.getElem?_eq_getElem (by omega), x0] at c0
  have k0 := fun d os => cell_regrown c0 d os
  have c1 := cell_of_row W0 w.heap.size 1 X _ _ hbx
  rw [Array.getElem?_eq_getElem (by omega), x1] at c1
  have k1 := fun d os => cell_regrown c1 d os
  have c2 := cell_of_row W0 w.heap.size 2 X _ _ hbx
  rw [Array.getElem?_eq_getElem (by omega), x2] at c2
  have k2 := fun d os => cell_regrown c2 d os
  have HB := Lib.hid (And.intro hb0 (And.intro hbx (And.intro hbz hbp)))
  clear hb0 hbx hbz hbp c0 c1 c2
  refine wp_region_quiet_below (by kernel_rfl) (by kernel_rfl) ?_
  repeat (go_big_quiet_step ((first | (go_at_call 67; exact Calls.regrown_of (H1.out _)) | (go_at_call 69; first | (with_reducible exact Calls.regrown_of (H2.out _)) | (with_reducible exact Calls.regrown_of (H3.out _))))))
  refine wpQuiet_nil ?_
  intro _ hw'
  obtain ⟨pq, hw''⟩ := hw'
  subst hw''
  have hb1 := below_regrown W0 pq.d pq.os
  clear k0 k1 k2
  generalize Go.Sort.grow (redrawn W0 pq.d) pq.os = W1 at *
  obtain ⟨hb0, hbx, hbz, hbp⟩ := HB.out
  have hs1 := hb1.size
  have hx1 := (hb1.block w.heap.size (by omega)).trans hbx
  have hz1 := (hb1.block (w.heap.size + 1) (by omega)).trans hbz
  have hp1 := (hb1.block (w.heap.size + 1 + 1) (by omega)).trans hbp
  have hbb := bnext hb0 hb1
  clear hb0 hb1 hbx hbz hbp HB
  have c0 := cell_of_row W1 w.heap.size 0 X _ _ hx1
  rw [Array.getElem?_eq_getElem (by omega), x0] at c0
  have c10 := cell_of_row W1 w.heap.size 10 X _ _ hx1
  rw [Array.getElem?_eq_getElem (by omega), x10] at c10
  have e10 : W1.cell? ⟨w.heap.size + 1 + 1, 10, none⟩ = some (.int .u64 0) := cell_of_row W1 (w.heap.size + 1 + 1) 10 _ _ _ hp1
  have f10 := frozen_of_row W1 (w.heap.size + 1 + 1) 10 _ _ hp1
  have s0 := heap_setCell_same (W1) (w.heap.size + 1 + 1) 10 _ _ (.int .u64 (c.ttl : Int)) hp1
  have hpf : ((W1).setCell ⟨w.heap.size + 1 + 1, 10, none⟩ (.int .u64 (c.ttl : Int))).heap[w.heap.size + 1 + 1]? = some (.cells (cmdC (Cm.plain c) none 0) 30 (0, 0)) := by rw [Hpl.out]; exact s0
  have hxf : ((W1).setCell ⟨w.heap.size + 1 + 1, 10, none⟩ (.int .u64 (c.ttl : Int))).heap[w.heap.size]? = some (.cells X 30 (0, 0)) := (Below.heap_setCell _ _ _ _ (by simp; try omega)).trans (hx1)
  have hzf : ((W1).setCell ⟨w.heap.size + 1 + 1, 10, none⟩ (.int .u64 (c.ttl : Int))).heap[w.heap.size + 1]? = some (.cells (cmdC Cm.zero none 0) 30 (0, 0)) := (Below.heap_setCell _ _ _ _ (by simp; try omega)).trans (hz1)
  have hbf : Below w.heap.size w ((W1).setCell ⟨w.heap.size + 1 + 1, 10, none⟩ (.int .u64 (c.ttl : Int))) := (hbb).setCell (p := ⟨w.heap.size + 1 + 1, 10, none⟩) (by simp; omega) _
  have hsf : w.heap.size + 1 + 1 < ((W1).setCell ⟨w.heap.size + 1 + 1, 10, none⟩ (.int .u64 (c.ttl : Int))).heap.size := by simp only [World.size_setCell]; omega
  have HF := Lib.hid (And.intro hbf (And.intro hsf (And.intro hxf (And.intro hzf hpf))))
  clear hbf hsf hxf hzf hpf hbb hx1 hz1 hp1 s0
  have hopI := HopI.out
  go_wp2_with (go_at_call 69; refine (H4.out _).mono ?_; rintro e W3 ⟨rfl, hb3⟩)
  obtain ⟨hb2, hs2, _, hz2, hp2⟩ := HF.out
  have hzT := (hb3.block (w.heap.size + 1) (by omega)).trans hz2
  have hpT := (hb3.block (w.heap.size + 1 + 1) hs2).trans hp2
  have hbT := bnext hb2 hb3
  have hsT : w.heap.size + 1 + 1 < W3.heap.size := Nat.lt_of_lt_of_le hs2 hb3.size
  clear hb2 hz2 hp2 hb3 hs2 HF
  obtain ⟨q0, q1, q2, q3, q4, q5, q6, q7, q8, q9, q10, q11, qz⟩ := cmdAt hpT
  obtain ⟨y0, y1, y2, y3, y4, y5, y6, y7, y8, y9, y10, y11, yz⟩ := cmdAt hzT
  have Hb := Lib.hid hbT
  have HzT := Lib.hid hzT
  have hlz : (Cm.plain c).parts = [] := by rw [Hpl.out]
  have Hlz := Lib.hid hlz
  clear hpT hzT hbT hlz a1 a2 b4
  try clear hopI
  go_region
  go_wp2
  have hres := results_tc (P := Try.prog) (fn := Try.f64) rfl
  refine bodyPost_ret (hres _ _ (w.heap.size + 1) 30 (cmdC (Cm.plain c) none 0) (0, 0) _ rfl (row_drew (cmdPut (c := Cm.plain c) (A := none) (cap := 0) HzT.out)) Try.underlying30 rfl sizeCmd) rfl ⟨none, 0, ?_, .inl (by rw [Hlz.out]; rfl), below_drew (cmdBelow Hb.out (by omega))⟩
  rw [Hfin.out]
  rfl

set_option maxRecDepth 100000 in
set_option maxHeartbeats 4000000 in
theorem bytes_6 (c : Cm.Cmd) (hf : Cm.Fits c) (A : Option Addr) (cap : Nat) (w : World) (hlen : (Cm.bytes c).length ≤ 50000000) (hop : c.op = 6) :
    Calls Try.prog 64 #[.agg (cmdC c A cap)] w (RetBy c w) := by
  have hpl := Cm.plain1 (Or.inr hop)
  have hby : Cm.bytes c = Cm.head c ++ Cm.body c := rfl
  rw [Cm.body1 (Or.inr hop)] at hby
  have hll := congrArg List.length hby
  simp only [List.length_append] at hll
  have h1 := one_any c.op
  have h2 := refOne_any c.ses hf.ses
  have h3 := refOne_any c.seq hf.seq
  obtain ⟨g1, hg1⟩ : ∃ g : ByteArray, g = ⟨(Cm.one c.op).toArray⟩ := ⟨_, rfl⟩
  obtain ⟨g2, hg2⟩ : ∃ g : ByteArray, g = ⟨(Nm.grp c.ses).toArray⟩ := ⟨_, rfl⟩
  obtain ⟨g3, hg3⟩ : ∃ g : ByteArray, g = ⟨(Nm.grp c.seq).toArray⟩ := ⟨_, rfl⟩
  unfold RetS at h1 h2 h3
  rw [← hg1] at h1
  rw [← hg2] at h2
  rw [← hg3] at h3
  have z1 : g1.size = 1 := by rw [hg1]; rfl
  have z2 : g2.size ≤ 10 := by rw [hg2, Lib.size_eq]; exact grp_len _ hf.ses
  have z3 : g3.size ≤ 10 := by rw [hg3, Lib.size_eq]; exact grp_len _ hf.seq
  have h4 := refOne_any c.ttl hf.ttl
  obtain ⟨g4, hg4⟩ : ∃ g : ByteArray, g = ⟨(Nm.grp c.ttl).toArray⟩ := ⟨_, rfl⟩
  unfold RetS at h4
  rw [← hg4] at h4
  have z4 : g4.size ≤ 10 := by rw [hg4, Lib.size_eq]; exact grp_len _ hf.ttl
  have hfin : (⟨(Cm.bytes c).toArray⟩ : ByteArray) = g1 ++ g2 ++ g3 ++ g4 := by
    rw [hby, hg1, hg2, hg3, hg4]
    simp [Cm.head, ByteArray.mk_append_mk]
  have Hfin := Lib.hid hfin
  have H1 := Lib.hid h1
  have H2 := Lib.hid h2
  have H3 := Lib.hid h3
  have H4 := Lib.hid h4
  have Hpl := Lib.hid hpl
  have Hop := Lib.hid hop
  have a1 : ∀ W : World, (Op.stringOp .add g1 g2).run Try.prog W = .ok (.string (g1 ++ g2)) W := fun W => run_string_add_sum W g1 g2 (by omega)
  have a2 : ∀ W : World, (Op.stringOp .add (g1 ++ g2) g3).run Try.prog W = .ok (.string (g1 ++ g2 ++ g3)) W := fun W => run_string_add_sum W (g1 ++ g2) g3 (by rw [ByteArray.size_append]; omega)
  have b4 : ∀ W : World, (Op.stringOp .add (g1 ++ g2 ++ g3) g4).run Try.prog W = .ok (.string (g1 ++ g2 ++ g3 ++ g4)) W := fun W => run_string_add_sum W _ g4 (by simp only [ByteArray.size_append]; omega)
  have hw8 := eight c.op hf.op
  have hopI : (c.op : Int) = 6 := by omega
  clear hfin hll hby hlen hpl hop hg1 h1 hg2 h2 hg3 h3 hg4 h4
  have HopI := Lib.hid hopI
  clear hopI
  have FX := cmdF c A cap
  generalize cmdC c A cap = X at FX ⊢
  obtain ⟨hx, _, x0, x1, x2, x3, x4, x5, x6, x7, x8, x9, x10, x11⟩ := FX
  go_enter Try.func64, Try.ntmps64
  go_wp2_with fail
  refine forget (fun W => Below w.heap.size w W ∧ w.heap.size + 3 = W.heap.size ∧ W.heap[w.heap.size]? = some (.cells X 30 (0, 0)) ∧ W.heap[w.heap.size + 1]? = some (.cells (cmdC Cm.zero none 0) 30 (0, 0)) ∧ W.heap[w.heap.size + 1 + 1]? = some (.cells (cmdC ⟨c.op, c.ses, c.seq, Cm.e0, Cm.e0, Cm.e0, Cm.e0, Cm.e0, 0, 0, 0, []⟩ none 0) 30 (0, 0))) ?_ ?_
  · exact ⟨bnew (bnew (bnew (Below.refl _ _) _) _) _, by simp, three0 w _ _ _, three1 w _ _ _, three2 w _ _ _⟩
  rintro W0 ⟨hb0, hz0, hbx, hbz, hbp⟩
  have c0 := cell_of_row W0 w.heap.size 0 X _ _ hbx
  rw [Array.getElem?_eq_getElem (by omega), x0] at c0
  have k0 := fun d os => cell_regrown c0 d os
  have c1 := cell_of_row W0 w.heap.size 1 X _ _ hbx
  rw [Array.getElem?_eq_getElem (by omega), x1] at c1
  have k1 := fun d os => cell_regrown c1 d os
  have c2 := cell_of_row W0 w.heap.size 2 X _ _ hbx
  rw [Array.getElem?_eq_getElem (by omega), x2] at c2
  have k2 := fun d os => cell_regrown c2 d os
  have HB := Lib.hid (And.intro hb0 (And.intro hbx (And.intro hbz hbp)))
  clear hb0 hbx hbz hbp c0 c1 c2
  refine wp_region_quiet_below (by kernel_rfl) (by kernel_rfl) ?_
  repeat (go_big_quiet_step ((first | (go_at_call 67; exact Calls.regrown_of (H1.out _)) | (go_at_call 69; first | (with_reducible exact Calls.regrown_of (H2.out _)) | (with_reducible exact Calls.regrown_of (H3.out _))))))
  refine wpQuiet_nil ?_
  intro _ hw'
  obtain ⟨pq, hw''⟩ := hw'
  subst hw''
  have hb1 := below_regrown W0 pq.d pq.os
  clear k0 k1 k2
  generalize Go.Sort.grow (redrawn W0 pq.d) pq.os = W1 at *
  obtain ⟨hb0, hbx, hbz, hbp⟩ := HB.out
  have hs1 := hb1.size
  have hx1 := (hb1.block w.heap.size (by omega)).trans hbx
  have hz1 := (hb1.block (w.heap.size + 1) (by omega)).trans hbz
  have hp1 := (hb1.block (w.heap.size + 1 + 1) (by omega)).trans hbp
  have hbb := bnext hb0 hb1
  clear hb0 hb1 hbx hbz hbp HB
  have c0 := cell_of_row W1 w.heap.size 0 X _ _ hx1
  rw [Array.getElem?_eq_getElem (by omega), x0] at c0
  have c10 := cell_of_row W1 w.heap.size 10 X _ _ hx1
  rw [Array.getElem?_eq_getElem (by omega), x10] at c10
  have e10 : W1.cell? ⟨w.heap.size + 1 + 1, 10, none⟩ = some (.int .u64 0) := cell_of_row W1 (w.heap.size + 1 + 1) 10 _ _ _ hp1
  have f10 := frozen_of_row W1 (w.heap.size + 1 + 1) 10 _ _ hp1
  have s0 := heap_setCell_same (W1) (w.heap.size + 1 + 1) 10 _ _ (.int .u64 (c.ttl : Int)) hp1
  have hpf : ((W1).setCell ⟨w.heap.size + 1 + 1, 10, none⟩ (.int .u64 (c.ttl : Int))).heap[w.heap.size + 1 + 1]? = some (.cells (cmdC (Cm.plain c) none 0) 30 (0, 0)) := by rw [Hpl.out]; exact s0
  have hxf : ((W1).setCell ⟨w.heap.size + 1 + 1, 10, none⟩ (.int .u64 (c.ttl : Int))).heap[w.heap.size]? = some (.cells X 30 (0, 0)) := (Below.heap_setCell _ _ _ _ (by simp; try omega)).trans (hx1)
  have hzf : ((W1).setCell ⟨w.heap.size + 1 + 1, 10, none⟩ (.int .u64 (c.ttl : Int))).heap[w.heap.size + 1]? = some (.cells (cmdC Cm.zero none 0) 30 (0, 0)) := (Below.heap_setCell _ _ _ _ (by simp; try omega)).trans (hz1)
  have hbf : Below w.heap.size w ((W1).setCell ⟨w.heap.size + 1 + 1, 10, none⟩ (.int .u64 (c.ttl : Int))) := (hbb).setCell (p := ⟨w.heap.size + 1 + 1, 10, none⟩) (by simp; omega) _
  have hsf : w.heap.size + 1 + 1 < ((W1).setCell ⟨w.heap.size + 1 + 1, 10, none⟩ (.int .u64 (c.ttl : Int))).heap.size := by simp only [World.size_setCell]; omega
  have HF := Lib.hid (And.intro hbf (And.intro hsf (And.intro hxf (And.intro hzf hpf))))
  clear hbf hsf hxf hzf hpf hbb hx1 hz1 hp1 s0
  have hopI := HopI.out
  go_wp2_with (go_at_call 69; refine (H4.out _).mono ?_; rintro e W3 ⟨rfl, hb3⟩)
  obtain ⟨hb2, hs2, _, hz2, hp2⟩ := HF.out
  have hzT := (hb3.block (w.heap.size + 1) (by omega)).trans hz2
  have hpT := (hb3.block (w.heap.size + 1 + 1) hs2).trans hp2
  have hbT := bnext hb2 hb3
  have hsT : w.heap.size + 1 + 1 < W3.heap.size := Nat.lt_of_lt_of_le hs2 hb3.size
  clear hb2 hz2 hp2 hb3 hs2 HF
  obtain ⟨q0, q1, q2, q3, q4, q5, q6, q7, q8, q9, q10, q11, qz⟩ := cmdAt hpT
  obtain ⟨y0, y1, y2, y3, y4, y5, y6, y7, y8, y9, y10, y11, yz⟩ := cmdAt hzT
  have Hb := Lib.hid hbT
  have HzT := Lib.hid hzT
  have hlz : (Cm.plain c).parts = [] := by rw [Hpl.out]
  have Hlz := Lib.hid hlz
  clear hpT hzT hbT hlz a1 a2 b4
  try clear hopI
  go_region
  go_wp2
  have hres := results_tc (P := Try.prog) (fn := Try.f64) rfl
  refine bodyPost_ret (hres _ _ (w.heap.size + 1) 30 (cmdC (Cm.plain c) none 0) (0, 0) _ rfl (row_drew (cmdPut (c := Cm.plain c) (A := none) (cap := 0) HzT.out)) Try.underlying30 rfl sizeCmd) rfl ⟨none, 0, ?_, .inl (by rw [Hlz.out]; rfl), below_drew (cmdBelow Hb.out (by omega))⟩
  rw [Hfin.out]
  rfl

set_option maxRecDepth 100000 in
set_option maxHeartbeats 4000000 in
theorem bytes_2 (c : Cm.Cmd) (hf : Cm.Fits c) (A : Option Addr) (cap : Nat) (w : World) (hlen : (Cm.bytes c).length ≤ 50000000) (hop : c.op = 2) :
    Calls Try.prog 64 #[.agg (cmdC c A cap)] w (RetBy c w) := by
  have hpl := Cm.plain2 hop
  have hby : Cm.bytes c = Cm.head c ++ Cm.body c := rfl
  rw [Cm.body2 hop] at hby
  have hll := congrArg List.length hby
  simp only [List.length_append] at hll
  have h1 := one_any c.op
  have h2 := refOne_any c.ses hf.ses
  have h3 := refOne_any c.seq hf.seq
  obtain ⟨g1, hg1⟩ : ∃ g : ByteArray, g = ⟨(Cm.one c.op).toArray⟩ := ⟨_, rfl⟩
  obtain ⟨g2, hg2⟩ : ∃ g : ByteArray, g = ⟨(Nm.grp c.ses).toArray⟩ := ⟨_, rfl⟩
  obtain ⟨g3, hg3⟩ : ∃ g : ByteArray, g = ⟨(Nm.grp c.seq).toArray⟩ := ⟨_, rfl⟩
  unfold RetS at h1 h2 h3
  rw [← hg1] at h1
  rw [← hg2] at h2
  rw [← hg3] at h3
  have z1 : g1.size = 1 := by rw [hg1]; rfl
  have z2 : g2.size ≤ 10 := by rw [hg2, Lib.size_eq]; exact grp_len _ hf.ses
  have z3 : g3.size ≤ 10 := by rw [hg3, Lib.size_eq]; exact grp_len _ hf.seq
  have h4 : ∀ W, Calls Try.prog 70 #[.string c.key] W (RetS (Cm.txt c.key) W) := fun W => text_any c.key W (by omega)
  obtain ⟨g4, hg4⟩ : ∃ g : ByteArray, g = ⟨(Cm.txt c.key).toArray⟩ := ⟨_, rfl⟩
  unfold RetS at h4
  rw [← hg4] at h4
  have z4 : g4.size ≤ 50000000 := by rw [hg4, Lib.size_eq]; simp only; omega
  have h5 : ∀ W, Calls Try.prog 70 #[.string c.val] W (RetS (Cm.txt c.val) W) := fun W => text_any c.val W (by omega)
  obtain ⟨g5, hg5⟩ : ∃ g : ByteArray, g = ⟨(Cm.txt c.val).toArray⟩ := ⟨_, rfl⟩
  unfold RetS at h5
  rw [← hg5] at h5
  have z5 : g5.size ≤ 50000000 := by rw [hg5, Lib.size_eq]; simp only; omega
  have h6 := refOne_any c.lease hf.lease
  obtain ⟨g6, hg6⟩ : ∃ g : ByteArray, g = ⟨(Nm.grp c.lease).toArray⟩ := ⟨_, rfl⟩
  unfold RetS at h6
  rw [← hg6] at h6
  have z6 : g6.size ≤ 10 := by rw [hg6, Lib.size_eq]; exact grp_len _ hf.lease
  have hfin : (⟨(Cm.bytes c).toArray⟩ : ByteArray) = g1 ++ g2 ++ g3 ++ g4 ++ g5 ++ g6 := by
    rw [hby, hg1, hg2, hg3, hg4, hg5, hg6]
    simp [Cm.head, ByteArray.mk_append_mk]
  have Hfin := Lib.hid hfin
  have H1 := Lib.hid h1
  have H2 := Lib.hid h2
  have H3 := Lib.hid h3
  have H4 := Lib.hid h4
  have H5 := Lib.hid h5
  have H6 := Lib.hid h6
  have Hpl := Lib.hid hpl
  have Hop := Lib.hid hop
  have a1 : ∀ W : World, (Op.stringOp .add g1 g2).run Try.prog W = .ok (.string (g1 ++ g2)) W := fun W => run_string_add_sum W g1 g2 (by omega)
  have a2 : ∀ W : World, (Op.stringOp .add (g1 ++ g2) g3).run Try.prog W = .ok (.string (g1 ++ g2 ++ g3)) W := fun W => run_string_add_sum W (g1 ++ g2) g3 (by rw [ByteArray.size_append]; omega)
  have b4 : ∀ W : World, (Op.stringOp .add (g1 ++ g2 ++ g3) g4).run Try.prog W = .ok (.string (g1 ++ g2 ++ g3 ++ g4)) W := fun W => run_string_add_sum W _ g4 (by simp only [ByteArray.size_append]; omega)
  have b5 : ∀ W : World, (Op.stringOp .add (g1 ++ g2 ++ g3 ++ g4) g5).run Try.prog W = .ok (.string (g1 ++ g2 ++ g3 ++ g4 ++ g5)) W := fun W => run_string_add_sum W _ g5 (by simp only [ByteArray.size_append]; omega)
  have b6 : ∀ W : World, (Op.stringOp .add (g1 ++ g2 ++ g3 ++ g4 ++ g5) g6).run Try.prog W = .ok (.string (g1 ++ g2 ++ g3 ++ g4 ++ g5 ++ g6)) W := fun W => run_string_add_sum W _ g6 (by simp only [ByteArray.size_append]; omega)
  have hw8 := eight c.op hf.op
  have hopI : (c.op : Int) = 2 := by omega
  clear hfin hll hby hlen hpl hop hg1 h1 hg2 h2 hg3 h3 hg4 h4 hg5 h5 hg6 h6
  have HopI := Lib.hid hopI
  clear hopI
  have FX := cmdF c A cap
  generalize cmdC c A cap = X at FX ⊢
  obtain ⟨hx, _, x0, x1, x2, x3, x4, x5, x6, x7, x8, x9, x10, x11⟩ := FX
  go_enter Try.func64, Try.ntmps64
  go_wp2_with fail
  refine forget (fun W => Below w.heap.size w W ∧ w.heap.size + 3 = W.heap.size ∧ W.heap[w.heap.size]? = some (.cells X 30 (0, 0)) ∧ W.heap[w.heap.size + 1]? = some (.cells (cmdC Cm.zero none 0) 30 (0, 0)) ∧ W.heap[w.heap.size + 1 + 1]? = some (.cells (cmdC ⟨c.op, c.ses, c.seq, Cm.e0, Cm.e0, Cm.e0, Cm.e0, Cm.e0, 0, 0, 0, []⟩ none 0) 30 (0, 0))) ?_ ?_
  · exact ⟨bnew (bnew (bnew (Below.refl _ _) _) _) _, by simp, three0 w _ _ _, three1 w _ _ _, three2 w _ _ _⟩
  rintro W0 ⟨hb0, hz0, hbx, hbz, hbp⟩
  have c0 := cell_of_row W0 w.heap.size 0 X _ _ hbx
  rw [Array.getElem?_eq_getElem (by omega), x0] at c0
  have k0 := fun d os => cell_regrown c0 d os
  have c1 := cell_of_row W0 w.heap.size 1 X _ _ hbx
  rw [Array.getElem?_eq_getElem (by omega), x1] at c1
  have k1 := fun d os => cell_regrown c1 d os
  have c2 := cell_of_row W0 w.heap.size 2 X _ _ hbx
  rw [Array.getElem?_eq_getElem (by omega), x2] at c2
  have k2 := fun d os => cell_regrown c2 d os
  have HB := Lib.hid (And.intro hb0 (And.intro hbx (And.intro hbz hbp)))
  clear hb0 hbx hbz hbp c0 c1 c2
  refine wp_region_quiet_below (by kernel_rfl) (by kernel_rfl) ?_
  repeat (go_big_quiet_step ((first | (go_at_call 67; exact Calls.regrown_of (H1.out _)) | (go_at_call 69; first | (with_reducible exact Calls.regrown_of (H2.out _)) | (with_reducible exact Calls.regrown_of (H3.out _))))))
  refine wpQuiet_nil ?_
  intro _ hw'
  obtain ⟨pq, hw''⟩ := hw'
  subst hw''
  have hb1 := below_regrown W0 pq.d pq.os
  clear k0 k1 k2
  generalize Go.Sort.grow (redrawn W0 pq.d) pq.os = W1 at *
  obtain ⟨hb0, hbx, hbz, hbp⟩ := HB.out
  have hs1 := hb1.size
  have hx1 := (hb1.block w.heap.size (by omega)).trans hbx
  have hz1 := (hb1.block (w.heap.size + 1) (by omega)).trans hbz
  have hp1 := (hb1.block (w.heap.size + 1 + 1) (by omega)).trans hbp
  have hbb := bnext hb0 hb1
  clear hb0 hb1 hbx hbz hbp HB
  have c0 := cell_of_row W1 w.heap.size 0 X _ _ hx1
  rw [Array.getElem?_eq_getElem (by omega), x0] at c0
  have c3 := cell_of_row W1 w.heap.size 3 X _ _ hx1
  rw [Array.getElem?_eq_getElem (by omega), x3] at c3
  have c4 := cell_of_row W1 w.heap.size 4 X _ _ hx1
  rw [Array.getElem?_eq_getElem (by omega), x4] at c4
  have c9 := cell_of_row W1 w.heap.size 9 X _ _ hx1
  rw [Array.getElem?_eq_getElem (by omega), x9] at c9
  have e3 : W1.cell? ⟨w.heap.size + 1 + 1, 3, none⟩ = some (.string Cm.e0) := cell_of_row W1 (w.heap.size + 1 + 1) 3 _ _ _ hp1
  have f3 := frozen_of_row W1 (w.heap.size + 1 + 1) 3 _ _ hp1
  have e4 : W1.cell? ⟨w.heap.size + 1 + 1, 4, none⟩ = some (.string Cm.e0) := cell_of_row W1 (w.heap.size + 1 + 1) 4 _ _ _ hp1
  have f4 := frozen_of_row W1 (w.heap.size + 1 + 1) 4 _ _ hp1
  have e9 : W1.cell? ⟨w.heap.size + 1 + 1, 9, none⟩ = some (.int .u64 0) := cell_of_row W1 (w.heap.size + 1 + 1) 9 _ _ _ hp1
  have f9 := frozen_of_row W1 (w.heap.size + 1 + 1) 9 _ _ hp1
  have s0 := heap_setCell_same (W1) (w.heap.size + 1 + 1) 3 _ _ (.string c.key) hp1
  have s1 := heap_setCell_same ((W1).setCell ⟨w.heap.size + 1 + 1, 3, none⟩ (.string c.key)) (w.heap.size + 1 + 1) 4 _ _ (.string c.val) s0
  have s2 := heap_setCell_same (((W1).setCell ⟨w.heap.size + 1 + 1, 3, none⟩ (.string c.key)).setCell ⟨w.heap.size + 1 + 1, 4, none⟩ (.string c.val)) (w.heap.size + 1 + 1) 9 _ _ (.int .u64 (c.lease : Int)) s1
  have hpf : ((((W1).setCell ⟨w.heap.size + 1 + 1, 3, none⟩ (.string c.key)).setCell ⟨w.heap.size + 1 + 1, 4, none⟩ (.string c.val)).setCell ⟨w.heap.size + 1 + 1, 9, none⟩ (.int .u64 (c.lease : Int))).heap[w.heap.size + 1 + 1]? = some (.cells (cmdC (Cm.plain c) none 0) 30 (0, 0)) := by rw [Hpl.out]; exact s2
  have hxf : ((((W1).setCell ⟨w.heap.size + 1 + 1, 3, none⟩ (.string c.key)).setCell ⟨w.heap.size + 1 + 1, 4, none⟩ (.string c.val)).setCell ⟨w.heap.size + 1 + 1, 9, none⟩ (.int .u64 (c.lease : Int))).heap[w.heap.size]? = some (.cells X 30 (0, 0)) := (Below.heap_setCell _ _ _ _ (by simp; try omega)).trans ((Below.heap_setCell _ _ _ _ (by simp; try omega)).trans ((Below.heap_setCell _ _ _ _ (by simp; try omega)).trans (hx1)))
  have hzf : ((((W1).setCell ⟨w.heap.size + 1 + 1, 3, none⟩ (.string c.key)).setCell ⟨w.heap.size + 1 + 1, 4, none⟩ (.string c.val)).setCell ⟨w.heap.size + 1 + 1, 9, none⟩ (.int .u64 (c.lease : Int))).heap[w.heap.size + 1]? = some (.cells (cmdC Cm.zero none 0) 30 (0, 0)) := (Below.heap_setCell _ _ _ _ (by simp; try omega)).trans ((Below.heap_setCell _ _ _ _ (by simp; try omega)).trans ((Below.heap_setCell _ _ _ _ (by simp; try omega)).trans (hz1)))
  have hbf : Below w.heap.size w ((((W1).setCell ⟨w.heap.size + 1 + 1, 3, none⟩ (.string c.key)).setCell ⟨w.heap.size + 1 + 1, 4, none⟩ (.string c.val)).setCell ⟨w.heap.size + 1 + 1, 9, none⟩ (.int .u64 (c.lease : Int))) := (((hbb).setCell (p := ⟨w.heap.size + 1 + 1, 3, none⟩) (by simp; omega) _).setCell (p := ⟨w.heap.size + 1 + 1, 4, none⟩) (by simp; omega) _).setCell (p := ⟨w.heap.size + 1 + 1, 9, none⟩) (by simp; omega) _
  have hsf : w.heap.size + 1 + 1 < ((((W1).setCell ⟨w.heap.size + 1 + 1, 3, none⟩ (.string c.key)).setCell ⟨w.heap.size + 1 + 1, 4, none⟩ (.string c.val)).setCell ⟨w.heap.size + 1 + 1, 9, none⟩ (.int .u64 (c.lease : Int))).heap.size := by simp only [World.size_setCell]; omega
  have HF := Lib.hid (And.intro hbf (And.intro hsf (And.intro hxf (And.intro hzf hpf))))
  clear hbf hsf hxf hzf hpf hbb hx1 hz1 hp1 s0 s1 s2
  have hopI := HopI.out
  go_wp2_with fail
  refine forget (fun W => Below w.heap.size w W ∧ w.heap.size + 1 + 1 < W.heap.size ∧ W.heap[w.heap.size]? = some (.cells X 30 (0, 0)) ∧ W.heap[w.heap.size + 1]? = some (.cells (cmdC Cm.zero none 0) 30 (0, 0)) ∧ W.heap[w.heap.size + 1 + 1]? = some (.cells (cmdC (Cm.plain c) none 0) 30 (0, 0))) HF.out ?_
  clear hopI HF c0 c3 c4 c9 e3 f3 e4 f4 e9 f9
  rintro W2 ⟨hb2, hs2, hx2, hz2, hp2⟩
  have c3 := cell_of_row W2 w.heap.size 3 X _ _ hx2
  rw [Array.getElem?_eq_getElem (by omega), x3] at c3
  have k3 := fun d os => cell_regrown c3 d os
  have c4 := cell_of_row W2 w.heap.size 4 X _ _ hx2
  rw [Array.getElem?_eq_getElem (by omega), x4] at c4
  have k4 := fun d os => cell_regrown c4 d os
  have c9 := cell_of_row W2 w.heap.size 9 X _ _ hx2
  rw [Array.getElem?_eq_getElem (by omega), x9] at c9
  have k9 := fun d os => cell_regrown c9 d os
  clear c3 c4 c9 hx2 x0 x1 x2 x3 x4 x5 x6 x7 x8 x9 x10 x11
  have HF := Lib.hid (And.intro hb2 (And.intro hz2 hp2))
  clear hb2 hz2 hp2
  refine wp_region_quiet_below (by kernel_rfl) (by kernel_rfl) ?_
  repeat (go_big_quiet_step ((first | (go_at_call 70; first | (with_reducible exact Calls.regrown_of (H4.out _)) | (with_reducible exact Calls.regrown_of (H5.out _))) | (go_at_call 69; first | (with_reducible exact Calls.regrown_of (H6.out _))))))
  refine wpQuiet_nil ?_
  intro _ hw'
  obtain ⟨pq2, hw''⟩ := hw'
  subst hw''
  have hb3 := below_regrown W2 pq2.d pq2.os
  clear k3 k4 k9
  generalize Go.Sort.grow (redrawn W2 pq2.d) pq2.os = W3 at *
  obtain ⟨hb2, hz2, hp2⟩ := HF.out
  have hzT := (hb3.block (w.heap.size + 1) (by omega)).trans hz2
  have hpT := (hb3.block (w.heap.size + 1 + 1) (by omega)).trans hp2
  have hbT := bnext hb2 hb3
  have hsT : w.heap.size + 1 + 1 < W3.heap.size := Nat.lt_of_lt_of_le hs2 hb3.size
  clear hb2 hz2 hp2 hb3 hs2 HF
  go_wp2_with fail
  obtain ⟨q0, q1, q2, q3, q4, q5, q6, q7, q8, q9, q10, q11, qz⟩ := cmdAt hpT
  obtain ⟨y0, y1, y2, y3, y4, y5, y6, y7, y8, y9, y10, y11, yz⟩ := cmdAt hzT
  have Hb := Lib.hid hbT
  have HzT := Lib.hid hzT
  have hlz : (Cm.plain c).parts = [] := by rw [Hpl.out]
  have Hlz := Lib.hid hlz
  clear hpT hzT hbT hlz a1 a2 b4 b5 b6
  try clear hopI
  go_region
  go_wp2
  have hres := results_tc (P := Try.prog) (fn := Try.f64) rfl
  refine bodyPost_ret (hres _ _ (w.heap.size + 1) 30 (cmdC (Cm.plain c) none 0) (0, 0) _ rfl (row_drew (cmdPut (c := Cm.plain c) (A := none) (cap := 0) HzT.out)) Try.underlying30 rfl sizeCmd) rfl ⟨none, 0, ?_, .inl (by rw [Hlz.out]; rfl), below_drew (cmdBelow Hb.out (by omega))⟩
  rw [Hfin.out]
  rfl

set_option maxRecDepth 100000 in
set_option maxHeartbeats 4000000 in
theorem bytes_3 (c : Cm.Cmd) (hf : Cm.Fits c) (A : Option Addr) (cap : Nat) (w : World) (hlen : (Cm.bytes c).length ≤ 50000000) (hop : c.op = 3) :
    Calls Try.prog 64 #[.agg (cmdC c A cap)] w (RetBy c w) := by
  have hpl := Cm.plain3 (Or.inl hop)
  have hby : Cm.bytes c = Cm.head c ++ Cm.body c := rfl
  rw [Cm.body3 (Or.inl hop)] at hby
  have hll := congrArg List.length hby
  simp only [List.length_append] at hll
  have h1 := one_any c.op
  have h2 := refOne_any c.ses hf.ses
  have h3 := refOne_any c.seq hf.seq
  obtain ⟨g1, hg1⟩ : ∃ g : ByteArray, g = ⟨(Cm.one c.op).toArray⟩ := ⟨_, rfl⟩
  obtain ⟨g2, hg2⟩ : ∃ g : ByteArray, g = ⟨(Nm.grp c.ses).toArray⟩ := ⟨_, rfl⟩
  obtain ⟨g3, hg3⟩ : ∃ g : ByteArray, g = ⟨(Nm.grp c.seq).toArray⟩ := ⟨_, rfl⟩
  unfold RetS at h1 h2 h3
  rw [← hg1] at h1
  rw [← hg2] at h2
  rw [← hg3] at h3
  have z1 : g1.size = 1 := by rw [hg1]; rfl
  have z2 : g2.size ≤ 10 := by rw [hg2, Lib.size_eq]; exact grp_len _ hf.ses
  have z3 : g3.size ≤ 10 := by rw [hg3, Lib.size_eq]; exact grp_len _ hf.seq
  have h4 : ∀ W, Calls Try.prog 70 #[.string c.key] W (RetS (Cm.txt c.key) W) := fun W => text_any c.key W (by omega)
  obtain ⟨g4, hg4⟩ : ∃ g : ByteArray, g = ⟨(Cm.txt c.key).toArray⟩ := ⟨_, rfl⟩
  unfold RetS at h4
  rw [← hg4] at h4
  have z4 : g4.size ≤ 50000000 := by rw [hg4, Lib.size_eq]; simp only; omega
  have hfin : (⟨(Cm.bytes c).toArray⟩ : ByteArray) = g1 ++ g2 ++ g3 ++ g4 := by
    rw [hby, hg1, hg2, hg3, hg4]
    simp [Cm.head, ByteArray.mk_append_mk]
  have Hfin := Lib.hid hfin
  have H1 := Lib.hid h1
  have H2 := Lib.hid h2
  have H3 := Lib.hid h3
  have H4 := Lib.hid h4
  have Hpl := Lib.hid hpl
  have Hop := Lib.hid hop
  have a1 : ∀ W : World, (Op.stringOp .add g1 g2).run Try.prog W = .ok (.string (g1 ++ g2)) W := fun W => run_string_add_sum W g1 g2 (by omega)
  have a2 : ∀ W : World, (Op.stringOp .add (g1 ++ g2) g3).run Try.prog W = .ok (.string (g1 ++ g2 ++ g3)) W := fun W => run_string_add_sum W (g1 ++ g2) g3 (by rw [ByteArray.size_append]; omega)
  have b4 : ∀ W : World, (Op.stringOp .add (g1 ++ g2 ++ g3) g4).run Try.prog W = .ok (.string (g1 ++ g2 ++ g3 ++ g4)) W := fun W => run_string_add_sum W _ g4 (by simp only [ByteArray.size_append]; omega)
  have hw8 := eight c.op hf.op
  have hopI : (c.op : Int) = 3 := by omega
  clear hfin hll hby hlen hpl hop hg1 h1 hg2 h2 hg3 h3 hg4 h4
  have HopI := Lib.hid hopI
  clear hopI
  have FX := cmdF c A cap
  generalize cmdC c A cap = X at FX ⊢
  obtain ⟨hx, _, x0, x1, x2, x3, x4, x5, x6, x7, x8, x9, x10, x11⟩ := FX
  go_enter Try.func64, Try.ntmps64
  go_wp2_with fail
  refine forget (fun W => Below w.heap.size w W ∧ w.heap.size + 3 = W.heap.size ∧ W.heap[w.heap.size]? = some (.cells X 30 (0, 0)) ∧ W.heap[w.heap.size + 1]? = some (.cells (cmdC Cm.zero none 0) 30 (0, 0)) ∧ W.heap[w.heap.size + 1 + 1]? = some (.cells (cmdC ⟨c.op, c.ses, c.seq, Cm.e0, Cm.e0, Cm.e0, Cm.e0, Cm.e0, 0, 0, 0, []⟩ none 0) 30 (0, 0))) ?_ ?_
  · exact ⟨bnew (bnew (bnew (Below.refl _ _) _) _) _, by simp, three0 w _ _ _, three1 w _ _ _, three2 w _ _ _⟩
  rintro W0 ⟨hb0, hz0, hbx, hbz, hbp⟩
  have c0 := cell_of_row W0 w.heap.size 0 X _ _ hbx
  rw [Array.getElem?_eq_getElem (by omega), x0] at c0
  have k0 := fun d os => cell_regrown c0 d os
  have c1 := cell_of_row W0 w.heap.size 1 X _ _ hbx
  rw [Array.getElem?_eq_getElem (by omega), x1] at c1
  have k1 := fun d os => cell_regrown c1 d os
  have c2 := cell_of_row W0 w.heap.size 2 X _ _ hbx
  rw [Array.getElem?_eq_getElem (by omega), x2] at c2
  have k2 := fun d os => cell_regrown c2 d os
  have HB := Lib.hid (And.intro hb0 (And.intro hbx (And.intro hbz hbp)))
  clear hb0 hbx hbz hbp c0 c1 c2
  refine wp_region_quiet_below (by kernel_rfl) (by kernel_rfl) ?_
  repeat (go_big_quiet_step ((first | (go_at_call 67; exact Calls.regrown_of (H1.out _)) | (go_at_call 69; first | (with_reducible exact Calls.regrown_of (H2.out _)) | (with_reducible exact Calls.regrown_of (H3.out _))))))
  refine wpQuiet_nil ?_
  intro _ hw'
  obtain ⟨pq, hw''⟩ := hw'
  subst hw''
  have hb1 := below_regrown W0 pq.d pq.os
  clear k0 k1 k2
  generalize Go.Sort.grow (redrawn W0 pq.d) pq.os = W1 at *
  obtain ⟨hb0, hbx, hbz, hbp⟩ := HB.out
  have hs1 := hb1.size
  have hx1 := (hb1.block w.heap.size (by omega)).trans hbx
  have hz1 := (hb1.block (w.heap.size + 1) (by omega)).trans hbz
  have hp1 := (hb1.block (w.heap.size + 1 + 1) (by omega)).trans hbp
  have hbb := bnext hb0 hb1
  clear hb0 hb1 hbx hbz hbp HB
  have c0 := cell_of_row W1 w.heap.size 0 X _ _ hx1
  rw [Array.getElem?_eq_getElem (by omega), x0] at c0
  have c3 := cell_of_row W1 w.heap.size 3 X _ _ hx1
  rw [Array.getElem?_eq_getElem (by omega), x3] at c3
  have e3 : W1.cell? ⟨w.heap.size + 1 + 1, 3, none⟩ = some (.string Cm.e0) := cell_of_row W1 (w.heap.size + 1 + 1) 3 _ _ _ hp1
  have f3 := frozen_of_row W1 (w.heap.size + 1 + 1) 3 _ _ hp1
  have s0 := heap_setCell_same (W1) (w.heap.size + 1 + 1) 3 _ _ (.string c.key) hp1
  have hpf : ((W1).setCell ⟨w.heap.size + 1 + 1, 3, none⟩ (.string c.key)).heap[w.heap.size + 1 + 1]? = some (.cells (cmdC (Cm.plain c) none 0) 30 (0, 0)) := by rw [Hpl.out]; exact s0
  have hxf : ((W1).setCell ⟨w.heap.size + 1 + 1, 3, none⟩ (.string c.key)).heap[w.heap.size]? = some (.cells X 30 (0, 0)) := (Below.heap_setCell _ _ _ _ (by simp; try omega)).trans (hx1)
  have hzf : ((W1).setCell ⟨w.heap.size + 1 + 1, 3, none⟩ (.string c.key)).heap[w.heap.size + 1]? = some (.cells (cmdC Cm.zero none 0) 30 (0, 0)) := (Below.heap_setCell _ _ _ _ (by simp; try omega)).trans (hz1)
  have hbf : Below w.heap.size w ((W1).setCell ⟨w.heap.size + 1 + 1, 3, none⟩ (.string c.key)) := (hbb).setCell (p := ⟨w.heap.size + 1 + 1, 3, none⟩) (by simp; omega) _
  have hsf : w.heap.size + 1 + 1 < ((W1).setCell ⟨w.heap.size + 1 + 1, 3, none⟩ (.string c.key)).heap.size := by simp only [World.size_setCell]; omega
  have HF := Lib.hid (And.intro hbf (And.intro hsf (And.intro hxf (And.intro hzf hpf))))
  clear hbf hsf hxf hzf hpf hbb hx1 hz1 hp1 s0
  have hopI := HopI.out
  go_wp2_with (go_at_call 70; refine (H4.out _).mono ?_; rintro e W3 ⟨rfl, hb3⟩)
  obtain ⟨hb2, hs2, _, hz2, hp2⟩ := HF.out
  have hzT := (hb3.block (w.heap.size + 1) (by omega)).trans hz2
  have hpT := (hb3.block (w.heap.size + 1 + 1) hs2).trans hp2
  have hbT := bnext hb2 hb3
  have hsT : w.heap.size + 1 + 1 < W3.heap.size := Nat.lt_of_lt_of_le hs2 hb3.size
  clear hb2 hz2 hp2 hb3 hs2 HF
  obtain ⟨q0, q1, q2, q3, q4, q5, q6, q7, q8, q9, q10, q11, qz⟩ := cmdAt hpT
  obtain ⟨y0, y1, y2, y3, y4, y5, y6, y7, y8, y9, y10, y11, yz⟩ := cmdAt hzT
  have Hb := Lib.hid hbT
  have HzT := Lib.hid hzT
  have hlz : (Cm.plain c).parts = [] := by rw [Hpl.out]
  have Hlz := Lib.hid hlz
  clear hpT hzT hbT hlz a1 a2 b4
  try clear hopI
  go_region
  go_wp2
  have hres := results_tc (P := Try.prog) (fn := Try.f64) rfl
  refine bodyPost_ret (hres _ _ (w.heap.size + 1) 30 (cmdC (Cm.plain c) none 0) (0, 0) _ rfl (row_drew (cmdPut (c := Cm.plain c) (A := none) (cap := 0) HzT.out)) Try.underlying30 rfl sizeCmd) rfl ⟨none, 0, ?_, .inl (by rw [Hlz.out]; rfl), below_drew (cmdBelow Hb.out (by omega))⟩
  rw [Hfin.out]
  rfl

set_option maxRecDepth 100000 in
set_option maxHeartbeats 4000000 in
theorem bytes_8 (c : Cm.Cmd) (hf : Cm.Fits c) (A : Option Addr) (cap : Nat) (w : World) (hlen : (Cm.bytes c).length ≤ 50000000) (hop : c.op = 8) :
    Calls Try.prog 64 #[.agg (cmdC c A cap)] w (RetBy c w) := by
  have hpl := Cm.plain3 (Or.inr hop)
  have hby : Cm.bytes c = Cm.head c ++ Cm.body c := rfl
  rw [Cm.body3 (Or.inr hop)] at hby
  have hll := congrArg List.length hby
  simp only [List.length_append] at hll
  have h1 := one_any c.op
  have h2 := refOne_any c.ses hf.ses
  have h3 := refOne_any c.seq hf.seq
  obtain ⟨g1, hg1⟩ : ∃ g : ByteArray, g = ⟨(Cm.one c.op).toArray⟩ := ⟨_, rfl⟩
  obtain ⟨g2, hg2⟩ : ∃ g : ByteArray, g = ⟨(Nm.grp c.ses).toArray⟩ := ⟨_, rfl⟩
  obtain ⟨g3, hg3⟩ : ∃ g : ByteArray, g = ⟨(Nm.grp c.seq).toArray⟩ := ⟨_, rfl⟩
  unfold RetS at h1 h2 h3
  rw [← hg1] at h1
  rw [← hg2] at h2
  rw [← hg3] at h3
  have z1 : g1.size = 1 := by rw [hg1]; rfl
  have z2 : g2.size ≤ 10 := by rw [hg2, Lib.size_eq]; exact grp_len _ hf.ses
  have z3 : g3.size ≤ 10 := by rw [hg3, Lib.size_eq]; exact grp_len _ hf.seq
  have h4 : ∀ W, Calls Try.prog 70 #[.string c.key] W (RetS (Cm.txt c.key) W) := fun W => text_any c.key W (by omega)
  obtain ⟨g4, hg4⟩ : ∃ g : ByteArray, g = ⟨(Cm.txt c.key).toArray⟩ := ⟨_, rfl⟩
  unfold RetS at h4
  rw [← hg4] at h4
  have z4 : g4.size ≤ 50000000 := by rw [hg4, Lib.size_eq]; simp only; omega
  have hfin : (⟨(Cm.bytes c).toArray⟩ : ByteArray) = g1 ++ g2 ++ g3 ++ g4 := by
    rw [hby, hg1, hg2, hg3, hg4]
    simp [Cm.head, ByteArray.mk_append_mk]
  have Hfin := Lib.hid hfin
  have H1 := Lib.hid h1
  have H2 := Lib.hid h2
  have H3 := Lib.hid h3
  have H4 := Lib.hid h4
  have Hpl := Lib.hid hpl
  have Hop := Lib.hid hop
  have a1 : ∀ W : World, (Op.stringOp .add g1 g2).run Try.prog W = .ok (.string (g1 ++ g2)) W := fun W => run_string_add_sum W g1 g2 (by omega)
  have a2 : ∀ W : World, (Op.stringOp .add (g1 ++ g2) g3).run Try.prog W = .ok (.string (g1 ++ g2 ++ g3)) W := fun W => run_string_add_sum W (g1 ++ g2) g3 (by rw [ByteArray.size_append]; omega)
  have b4 : ∀ W : World, (Op.stringOp .add (g1 ++ g2 ++ g3) g4).run Try.prog W = .ok (.string (g1 ++ g2 ++ g3 ++ g4)) W := fun W => run_string_add_sum W _ g4 (by simp only [ByteArray.size_append]; omega)
  have hw8 := eight c.op hf.op
  have hopI : (c.op : Int) = 8 := by omega
  clear hfin hll hby hlen hpl hop hg1 h1 hg2 h2 hg3 h3 hg4 h4
  have HopI := Lib.hid hopI
  clear hopI
  have FX := cmdF c A cap
  generalize cmdC c A cap = X at FX ⊢
  obtain ⟨hx, _, x0, x1, x2, x3, x4, x5, x6, x7, x8, x9, x10, x11⟩ := FX
  go_enter Try.func64, Try.ntmps64
  go_wp2_with fail
  refine forget (fun W => Below w.heap.size w W ∧ w.heap.size + 3 = W.heap.size ∧ W.heap[w.heap.size]? = some (.cells X 30 (0, 0)) ∧ W.heap[w.heap.size + 1]? = some (.cells (cmdC Cm.zero none 0) 30 (0, 0)) ∧ W.heap[w.heap.size + 1 + 1]? = some (.cells (cmdC ⟨c.op, c.ses, c.seq, Cm.e0, Cm.e0, Cm.e0, Cm.e0, Cm.e0, 0, 0, 0, []⟩ none 0) 30 (0, 0))) ?_ ?_
  · exact ⟨bnew (bnew (bnew (Below.refl _ _) _) _) _, by simp, three0 w _ _ _, three1 w _ _ _, three2 w _ _ _⟩
  rintro W0 ⟨hb0, hz0, hbx, hbz, hbp⟩
  have c0 := cell_of_row W0 w.heap.size 0 X _ _ hbx
  rw [Array.getElem?_eq_getElem (by omega), x0] at c0
  have k0 := fun d os => cell_regrown c0 d os
  have c1 := cell_of_row W0 w.heap.size 1 X _ _ hbx
  rw [Array.getElem?_eq_getElem (by omega), x1] at c1
  have k1 := fun d os => cell_regrown c1 d os
  have c2 := cell_of_row W0 w.heap.size 2 X _ _ hbx
  rw [Array.getElem?_eq_getElem (by omega), x2] at c2
  have k2 := fun d os => cell_regrown c2 d os
  have HB := Lib.hid (And.intro hb0 (And.intro hbx (And.intro hbz hbp)))
  clear hb0 hbx hbz hbp c0 c1 c2
  refine wp_region_quiet_below (by kernel_rfl) (by kernel_rfl) ?_
  repeat (go_big_quiet_step ((first | (go_at_call 67; exact Calls.regrown_of (H1.out _)) | (go_at_call 69; first | (with_reducible exact Calls.regrown_of (H2.out _)) | (with_reducible exact Calls.regrown_of (H3.out _))))))
  refine wpQuiet_nil ?_
  intro _ hw'
  obtain ⟨pq, hw''⟩ := hw'
  subst hw''
  have hb1 := below_regrown W0 pq.d pq.os
  clear k0 k1 k2
  generalize Go.Sort.grow (redrawn W0 pq.d) pq.os = W1 at *
  obtain ⟨hb0, hbx, hbz, hbp⟩ := HB.out
  have hs1 := hb1.size
  have hx1 := (hb1.block w.heap.size (by omega)).trans hbx
  have hz1 := (hb1.block (w.heap.size + 1) (by omega)).trans hbz
  have hp1 := (hb1.block (w.heap.size + 1 + 1) (by omega)).trans hbp
  have hbb := bnext hb0 hb1
  clear hb0 hb1 hbx hbz hbp HB
  have c0 := cell_of_row W1 w.heap.size 0 X _ _ hx1
  rw [Array.getElem?_eq_getElem (by omega), x0] at c0
  have c3 := cell_of_row W1 w.heap.size 3 X _ _ hx1
  rw [Array.getElem?_eq_getElem (by omega), x3] at c3
  have e3 : W1.cell? ⟨w.heap.size + 1 + 1, 3, none⟩ = some (.string Cm.e0) := cell_of_row W1 (w.heap.size + 1 + 1) 3 _ _ _ hp1
  have f3 := frozen_of_row W1 (w.heap.size + 1 + 1) 3 _ _ hp1
  have s0 := heap_setCell_same (W1) (w.heap.size + 1 + 1) 3 _ _ (.string c.key) hp1
  have hpf : ((W1).setCell ⟨w.heap.size + 1 + 1, 3, none⟩ (.string c.key)).heap[w.heap.size + 1 + 1]? = some (.cells (cmdC (Cm.plain c) none 0) 30 (0, 0)) := by rw [Hpl.out]; exact s0
  have hxf : ((W1).setCell ⟨w.heap.size + 1 + 1, 3, none⟩ (.string c.key)).heap[w.heap.size]? = some (.cells X 30 (0, 0)) := (Below.heap_setCell _ _ _ _ (by simp; try omega)).trans (hx1)
  have hzf : ((W1).setCell ⟨w.heap.size + 1 + 1, 3, none⟩ (.string c.key)).heap[w.heap.size + 1]? = some (.cells (cmdC Cm.zero none 0) 30 (0, 0)) := (Below.heap_setCell _ _ _ _ (by simp; try omega)).trans (hz1)
  have hbf : Below w.heap.size w ((W1).setCell ⟨w.heap.size + 1 + 1, 3, none⟩ (.string c.key)) := (hbb).setCell (p := ⟨w.heap.size + 1 + 1, 3, none⟩) (by simp; omega) _
  have hsf : w.heap.size + 1 + 1 < ((W1).setCell ⟨w.heap.size + 1 + 1, 3, none⟩ (.string c.key)).heap.size := by simp only [World.size_setCell]; omega
  have HF := Lib.hid (And.intro hbf (And.intro hsf (And.intro hxf (And.intro hzf hpf))))
  clear hbf hsf hxf hzf hpf hbb hx1 hz1 hp1 s0
  have hopI := HopI.out
  go_wp2_with (go_at_call 70; refine (H4.out _).mono ?_; rintro e W3 ⟨rfl, hb3⟩)
  obtain ⟨hb2, hs2, _, hz2, hp2⟩ := HF.out
  have hzT := (hb3.block (w.heap.size + 1) (by omega)).trans hz2
  have hpT := (hb3.block (w.heap.size + 1 + 1) hs2).trans hp2
  have hbT := bnext hb2 hb3
  have hsT : w.heap.size + 1 + 1 < W3.heap.size := Nat.lt_of_lt_of_le hs2 hb3.size
  clear hb2 hz2 hp2 hb3 hs2 HF
  obtain ⟨q0, q1, q2, q3, q4, q5, q6, q7, q8, q9, q10, q11, qz⟩ := cmdAt hpT
  obtain ⟨y0, y1, y2, y3, y4, y5, y6, y7, y8, y9, y10, y11, yz⟩ := cmdAt hzT
  have Hb := Lib.hid hbT
  have HzT := Lib.hid hzT
  have hlz : (Cm.plain c).parts = [] := by rw [Hpl.out]
  have Hlz := Lib.hid hlz
  clear hpT hzT hbT hlz a1 a2 b4
  try clear hopI
  go_region
  go_wp2
  have hres := results_tc (P := Try.prog) (fn := Try.f64) rfl
  refine bodyPost_ret (hres _ _ (w.heap.size + 1) 30 (cmdC (Cm.plain c) none 0) (0, 0) _ rfl (row_drew (cmdPut (c := Cm.plain c) (A := none) (cap := 0) HzT.out)) Try.underlying30 rfl sizeCmd) rfl ⟨none, 0, ?_, .inl (by rw [Hlz.out]; rfl), below_drew (cmdBelow Hb.out (by omega))⟩
  rw [Hfin.out]
  rfl

set_option maxRecDepth 100000 in
set_option maxHeartbeats 4000000 in
theorem bytes_4 (c : Cm.Cmd) (hf : Cm.Fits c) (A : Option Addr) (cap : Nat) (w : World) (hlen : (Cm.bytes c).length ≤ 50000000) (hop : c.op = 4) :
    Calls Try.prog 64 #[.agg (cmdC c A cap)] w (RetBy c w) := by
  have hpl := Cm.plain4 hop
  have hby : Cm.bytes c = Cm.head c ++ Cm.body c := rfl
  rw [Cm.body4 hop] at hby
  have hll := congrArg List.length hby
  simp only [List.length_append] at hll
  have h1 := one_any c.op
  have h2 := refOne_any c.ses hf.ses
  have h3 := refOne_any c.seq hf.seq
  obtain ⟨g1, hg1⟩ : ∃ g : ByteArray, g = ⟨(Cm.one c.op).toArray⟩ := ⟨_, rfl⟩
  obtain ⟨g2, hg2⟩ : ∃ g : ByteArray, g = ⟨(Nm.grp c.ses).toArray⟩ := ⟨_, rfl⟩
  obtain ⟨g3, hg3⟩ : ∃ g : ByteArray, g = ⟨(Nm.grp c.seq).toArray⟩ := ⟨_, rfl⟩
  unfold RetS at h1 h2 h3
  rw [← hg1] at h1
  rw [← hg2] at h2
  rw [← hg3] at h3
  have z1 : g1.size = 1 := by rw [hg1]; rfl
  have z2 : g2.size ≤ 10 := by rw [hg2, Lib.size_eq]; exact grp_len _ hf.ses
  have z3 : g3.size ≤ 10 := by rw [hg3, Lib.size_eq]; exact grp_len _ hf.seq
  have h4 : ∀ W, Calls Try.prog 70 #[.string c.key] W (RetS (Cm.txt c.key) W) := fun W => text_any c.key W (by omega)
  obtain ⟨g4, hg4⟩ : ∃ g : ByteArray, g = ⟨(Cm.txt c.key).toArray⟩ := ⟨_, rfl⟩
  unfold RetS at h4
  rw [← hg4] at h4
  have z4 : g4.size ≤ 50000000 := by rw [hg4, Lib.size_eq]; simp only; omega
  have h5 : ∀ W, Calls Try.prog 70 #[.string c.exp] W (RetS (Cm.txt c.exp) W) := fun W => text_any c.exp W (by omega)
  obtain ⟨g5, hg5⟩ : ∃ g : ByteArray, g = ⟨(Cm.txt c.exp).toArray⟩ := ⟨_, rfl⟩
  unfold RetS at h5
  rw [← hg5] at h5
  have z5 : g5.size ≤ 50000000 := by rw [hg5, Lib.size_eq]; simp only; omega
  have h6 : ∀ W, Calls Try.prog 70 #[.string c.val] W (RetS (Cm.txt c.val) W) := fun W => text_any c.val W (by omega)
  obtain ⟨g6, hg6⟩ : ∃ g : ByteArray, g = ⟨(Cm.txt c.val).toArray⟩ := ⟨_, rfl⟩
  unfold RetS at h6
  rw [← hg6] at h6
  have z6 : g6.size ≤ 50000000 := by rw [hg6, Lib.size_eq]; simp only; omega
  have hfin : (⟨(Cm.bytes c).toArray⟩ : ByteArray) = g1 ++ g2 ++ g3 ++ g4 ++ g5 ++ g6 := by
    rw [hby, hg1, hg2, hg3, hg4, hg5, hg6]
    simp [Cm.head, ByteArray.mk_append_mk]
  have Hfin := Lib.hid hfin
  have H1 := Lib.hid h1
  have H2 := Lib.hid h2
  have H3 := Lib.hid h3
  have H4 := Lib.hid h4
  have H5 := Lib.hid h5
  have H6 := Lib.hid h6
  have Hpl := Lib.hid hpl
  have Hop := Lib.hid hop
  have a1 : ∀ W : World, (Op.stringOp .add g1 g2).run Try.prog W = .ok (.string (g1 ++ g2)) W := fun W => run_string_add_sum W g1 g2 (by omega)
  have a2 : ∀ W : World, (Op.stringOp .add (g1 ++ g2) g3).run Try.prog W = .ok (.string (g1 ++ g2 ++ g3)) W := fun W => run_string_add_sum W (g1 ++ g2) g3 (by rw [ByteArray.size_append]; omega)
  have b4 : ∀ W : World, (Op.stringOp .add (g1 ++ g2 ++ g3) g4).run Try.prog W = .ok (.string (g1 ++ g2 ++ g3 ++ g4)) W := fun W => run_string_add_sum W _ g4 (by simp only [ByteArray.size_append]; omega)
  have b5 : ∀ W : World, (Op.stringOp .add (g1 ++ g2 ++ g3 ++ g4) g5).run Try.prog W = .ok (.string (g1 ++ g2 ++ g3 ++ g4 ++ g5)) W := fun W => run_string_add_sum W _ g5 (by simp only [ByteArray.size_append]; omega)
  have b6 : ∀ W : World, (Op.stringOp .add (g1 ++ g2 ++ g3 ++ g4 ++ g5) g6).run Try.prog W = .ok (.string (g1 ++ g2 ++ g3 ++ g4 ++ g5 ++ g6)) W := fun W => run_string_add_sum W _ g6 (by simp only [ByteArray.size_append]; omega)
  have hw8 := eight c.op hf.op
  have hopI : (c.op : Int) = 4 := by omega
  clear hfin hll hby hlen hpl hop hg1 h1 hg2 h2 hg3 h3 hg4 h4 hg5 h5 hg6 h6
  have HopI := Lib.hid hopI
  clear hopI
  have FX := cmdF c A cap
  generalize cmdC c A cap = X at FX ⊢
  obtain ⟨hx, _, x0, x1, x2, x3, x4, x5, x6, x7, x8, x9, x10, x11⟩ := FX
  go_enter Try.func64, Try.ntmps64
  go_wp2_with fail
  refine forget (fun W => Below w.heap.size w W ∧ w.heap.size + 3 = W.heap.size ∧ W.heap[w.heap.size]? = some (.cells X 30 (0, 0)) ∧ W.heap[w.heap.size + 1]? = some (.cells (cmdC Cm.zero none 0) 30 (0, 0)) ∧ W.heap[w.heap.size + 1 + 1]? = some (.cells (cmdC ⟨c.op, c.ses, c.seq, Cm.e0, Cm.e0, Cm.e0, Cm.e0, Cm.e0, 0, 0, 0, []⟩ none 0) 30 (0, 0))) ?_ ?_
  · exact ⟨bnew (bnew (bnew (Below.refl _ _) _) _) _, by simp, three0 w _ _ _, three1 w _ _ _, three2 w _ _ _⟩
  rintro W0 ⟨hb0, hz0, hbx, hbz, hbp⟩
  have c0 := cell_of_row W0 w.heap.size 0 X _ _ hbx
  rw [Array.getElem?_eq_getElem (by omega), x0] at c0
  have k0 := fun d os => cell_regrown c0 d os
  have c1 := cell_of_row W0 w.heap.size 1 X _ _ hbx
  rw [Array.getElem?_eq_getElem (by omega), x1] at c1
  have k1 := fun d os => cell_regrown c1 d os
  have c2 := cell_of_row W0 w.heap.size 2 X _ _ hbx
  rw [Array.getElem?_eq_getElem (by omega), x2] at c2
  have k2 := fun d os => cell_regrown c2 d os
  have HB := Lib.hid (And.intro hb0 (And.intro hbx (And.intro hbz hbp)))
  clear hb0 hbx hbz hbp c0 c1 c2
  refine wp_region_quiet_below (by kernel_rfl) (by kernel_rfl) ?_
  repeat (go_big_quiet_step ((first | (go_at_call 67; exact Calls.regrown_of (H1.out _)) | (go_at_call 69; first | (with_reducible exact Calls.regrown_of (H2.out _)) | (with_reducible exact Calls.regrown_of (H3.out _))))))
  refine wpQuiet_nil ?_
  intro _ hw'
  obtain ⟨pq, hw''⟩ := hw'
  subst hw''
  have hb1 := below_regrown W0 pq.d pq.os
  clear k0 k1 k2
  generalize Go.Sort.grow (redrawn W0 pq.d) pq.os = W1 at *
  obtain ⟨hb0, hbx, hbz, hbp⟩ := HB.out
  have hs1 := hb1.size
  have hx1 := (hb1.block w.heap.size (by omega)).trans hbx
  have hz1 := (hb1.block (w.heap.size + 1) (by omega)).trans hbz
  have hp1 := (hb1.block (w.heap.size + 1 + 1) (by omega)).trans hbp
  have hbb := bnext hb0 hb1
  clear hb0 hb1 hbx hbz hbp HB
  have c0 := cell_of_row W1 w.heap.size 0 X _ _ hx1
  rw [Array.getElem?_eq_getElem (by omega), x0] at c0
  have c3 := cell_of_row W1 w.heap.size 3 X _ _ hx1
  rw [Array.getElem?_eq_getElem (by omega), x3] at c3
  have c5 := cell_of_row W1 w.heap.size 5 X _ _ hx1
  rw [Array.getElem?_eq_getElem (by omega), x5] at c5
  have c4 := cell_of_row W1 w.heap.size 4 X _ _ hx1
  rw [Array.getElem?_eq_getElem (by omega), x4] at c4
  have e3 : W1.cell? ⟨w.heap.size + 1 + 1, 3, none⟩ = some (.string Cm.e0) := cell_of_row W1 (w.heap.size + 1 + 1) 3 _ _ _ hp1
  have f3 := frozen_of_row W1 (w.heap.size + 1 + 1) 3 _ _ hp1
  have e5 : W1.cell? ⟨w.heap.size + 1 + 1, 5, none⟩ = some (.string Cm.e0) := cell_of_row W1 (w.heap.size + 1 + 1) 5 _ _ _ hp1
  have f5 := frozen_of_row W1 (w.heap.size + 1 + 1) 5 _ _ hp1
  have e4 : W1.cell? ⟨w.heap.size + 1 + 1, 4, none⟩ = some (.string Cm.e0) := cell_of_row W1 (w.heap.size + 1 + 1) 4 _ _ _ hp1
  have f4 := frozen_of_row W1 (w.heap.size + 1 + 1) 4 _ _ hp1
  have s0 := heap_setCell_same (W1) (w.heap.size + 1 + 1) 3 _ _ (.string c.key) hp1
  have s1 := heap_setCell_same ((W1).setCell ⟨w.heap.size + 1 + 1, 3, none⟩ (.string c.key)) (w.heap.size + 1 + 1) 5 _ _ (.string c.exp) s0
  have s2 := heap_setCell_same (((W1).setCell ⟨w.heap.size + 1 + 1, 3, none⟩ (.string c.key)).setCell ⟨w.heap.size + 1 + 1, 5, none⟩ (.string c.exp)) (w.heap.size + 1 + 1) 4 _ _ (.string c.val) s1
  have hpf : ((((W1).setCell ⟨w.heap.size + 1 + 1, 3, none⟩ (.string c.key)).setCell ⟨w.heap.size + 1 + 1, 5, none⟩ (.string c.exp)).setCell ⟨w.heap.size + 1 + 1, 4, none⟩ (.string c.val)).heap[w.heap.size + 1 + 1]? = some (.cells (cmdC (Cm.plain c) none 0) 30 (0, 0)) := by rw [Hpl.out]; exact s2
  have hxf : ((((W1).setCell ⟨w.heap.size + 1 + 1, 3, none⟩ (.string c.key)).setCell ⟨w.heap.size + 1 + 1, 5, none⟩ (.string c.exp)).setCell ⟨w.heap.size + 1 + 1, 4, none⟩ (.string c.val)).heap[w.heap.size]? = some (.cells X 30 (0, 0)) := (Below.heap_setCell _ _ _ _ (by simp; try omega)).trans ((Below.heap_setCell _ _ _ _ (by simp; try omega)).trans ((Below.heap_setCell _ _ _ _ (by simp; try omega)).trans (hx1)))
  have hzf : ((((W1).setCell ⟨w.heap.size + 1 + 1, 3, none⟩ (.string c.key)).setCell ⟨w.heap.size + 1 + 1, 5, none⟩ (.string c.exp)).setCell ⟨w.heap.size + 1 + 1, 4, none⟩ (.string c.val)).heap[w.heap.size + 1]? = some (.cells (cmdC Cm.zero none 0) 30 (0, 0)) := (Below.heap_setCell _ _ _ _ (by simp; try omega)).trans ((Below.heap_setCell _ _ _ _ (by simp; try omega)).trans ((Below.heap_setCell _ _ _ _ (by simp; try omega)).trans (hz1)))
  have hbf : Below w.heap.size w ((((W1).setCell ⟨w.heap.size + 1 + 1, 3, none⟩ (.string c.key)).setCell ⟨w.heap.size + 1 + 1, 5, none⟩ (.string c.exp)).setCell ⟨w.heap.size + 1 + 1, 4, none⟩ (.string c.val)) := (((hbb).setCell (p := ⟨w.heap.size + 1 + 1, 3, none⟩) (by simp; omega) _).setCell (p := ⟨w.heap.size + 1 + 1, 5, none⟩) (by simp; omega) _).setCell (p := ⟨w.heap.size + 1 + 1, 4, none⟩) (by simp; omega) _
  have hsf : w.heap.size + 1 + 1 < ((((W1).setCell ⟨w.heap.size + 1 + 1, 3, none⟩ (.string c.key)).setCell ⟨w.heap.size + 1 + 1, 5, none⟩ (.string c.exp)).setCell ⟨w.heap.size + 1 + 1, 4, none⟩ (.string c.val)).heap.size := by simp only [World.size_setCell]; omega
  have HF := Lib.hid (And.intro hbf (And.intro hsf (And.intro hxf (And.intro hzf hpf))))
  clear hbf hsf hxf hzf hpf hbb hx1 hz1 hp1 s0 s1 s2
  have hopI := HopI.out
  go_wp2_with fail
  refine forget (fun W => Below w.heap.size w W ∧ w.heap.size + 1 + 1 < W.heap.size ∧ W.heap[w.heap.size]? = some (.cells X 30 (0, 0)) ∧ W.heap[w.heap.size + 1]? = some (.cells (cmdC Cm.zero none 0) 30 (0, 0)) ∧ W.heap[w.heap.size + 1 + 1]? = some (.cells (cmdC (Cm.plain c) none 0) 30 (0, 0))) HF.out ?_
  clear hopI HF c0 c3 c5 c4 e3 f3 e5 f5 e4 f4
  rintro W2 ⟨hb2, hs2, hx2, hz2, hp2⟩
  have c3 := cell_of_row W2 w.heap.size 3 X _ _ hx2
  rw [Array.getElem?_eq_getElem (by omega), x3] at c3
  have k3 := fun d os => cell_regrown c3 d os
  have c5 := cell_of_row W2 w.heap.size 5 X _ _ hx2
  rw [Array.getElem?_eq_getElem (by omega), x5] at c5
  have k5 := fun d os => cell_regrown c5 d os
  have c4 := cell_of_row W2 w.heap.size 4 X _ _ hx2
  rw [Array.getElem?_eq_getElem (by omega), x4] at c4
  have k4 := fun d os => cell_regrown c4 d os
  clear c3 c5 c4 hx2 x0 x1 x2 x3 x4 x5 x6 x7 x8 x9 x10 x11
  have HF := Lib.hid (And.intro hb2 (And.intro hz2 hp2))
  clear hb2 hz2 hp2
  refine wp_region_quiet_below (by kernel_rfl) (by kernel_rfl) ?_
  repeat (go_big_quiet_step ((first | (go_at_call 70; first | (with_reducible exact Calls.regrown_of (H4.out _)) | (with_reducible exact Calls.regrown_of (H5.out _)) | (with_reducible exact Calls.regrown_of (H6.out _))))))
  refine wpQuiet_nil ?_
  intro _ hw'
  obtain ⟨pq2, hw''⟩ := hw'
  subst hw''
  have hb3 := below_regrown W2 pq2.d pq2.os
  clear k3 k5 k4
  generalize Go.Sort.grow (redrawn W2 pq2.d) pq2.os = W3 at *
  obtain ⟨hb2, hz2, hp2⟩ := HF.out
  have hzT := (hb3.block (w.heap.size + 1) (by omega)).trans hz2
  have hpT := (hb3.block (w.heap.size + 1 + 1) (by omega)).trans hp2
  have hbT := bnext hb2 hb3
  have hsT : w.heap.size + 1 + 1 < W3.heap.size := Nat.lt_of_lt_of_le hs2 hb3.size
  clear hb2 hz2 hp2 hb3 hs2 HF
  go_wp2_with fail
  obtain ⟨q0, q1, q2, q3, q4, q5, q6, q7, q8, q9, q10, q11, qz⟩ := cmdAt hpT
  obtain ⟨y0, y1, y2, y3, y4, y5, y6, y7, y8, y9, y10, y11, yz⟩ := cmdAt hzT
  have Hb := Lib.hid hbT
  have HzT := Lib.hid hzT
  have hlz : (Cm.plain c).parts = [] := by rw [Hpl.out]
  have Hlz := Lib.hid hlz
  clear hpT hzT hbT hlz a1 a2 b4 b5 b6
  try clear hopI
  go_region
  go_wp2
  have hres := results_tc (P := Try.prog) (fn := Try.f64) rfl
  refine bodyPost_ret (hres _ _ (w.heap.size + 1) 30 (cmdC (Cm.plain c) none 0) (0, 0) _ rfl (row_drew (cmdPut (c := Cm.plain c) (A := none) (cap := 0) HzT.out)) Try.underlying30 rfl sizeCmd) rfl ⟨none, 0, ?_, .inl (by rw [Hlz.out]; rfl), below_drew (cmdBelow Hb.out (by omega))⟩
  rw [Hfin.out]
  rfl

set_option maxRecDepth 100000 in
set_option maxHeartbeats 4000000 in
theorem bytes_7 (c : Cm.Cmd) (hf : Cm.Fits c) (A : Option Addr) (cap : Nat) (w : World) (hlen : (Cm.bytes c).length ≤ 50000000) (hop : c.op = 7) :
    Calls Try.prog 64 #[.agg (cmdC c A cap)] w (RetBy c w) := by
  have hpl := Cm.plain7 hop
  have hby : Cm.bytes c = Cm.head c ++ Cm.body c := rfl
  rw [Cm.body7 hop] at hby
  have hll := congrArg List.length hby
  simp only [List.length_append] at hll
  have h1 := one_any c.op
  have h2 := refOne_any c.ses hf.ses
  have h3 := refOne_any c.seq hf.seq
  obtain ⟨g1, hg1⟩ : ∃ g : ByteArray, g = ⟨(Cm.one c.op).toArray⟩ := ⟨_, rfl⟩
  obtain ⟨g2, hg2⟩ : ∃ g : ByteArray, g = ⟨(Nm.grp c.ses).toArray⟩ := ⟨_, rfl⟩
  obtain ⟨g3, hg3⟩ : ∃ g : ByteArray, g = ⟨(Nm.grp c.seq).toArray⟩ := ⟨_, rfl⟩
  unfold RetS at h1 h2 h3
  rw [← hg1] at h1
  rw [← hg2] at h2
  rw [← hg3] at h3
  have z1 : g1.size = 1 := by rw [hg1]; rfl
  have z2 : g2.size ≤ 10 := by rw [hg2, Lib.size_eq]; exact grp_len _ hf.ses
  have z3 : g3.size ≤ 10 := by rw [hg3, Lib.size_eq]; exact grp_len _ hf.seq
  have h4 := refOne_any c.lease hf.lease
  obtain ⟨g4, hg4⟩ : ∃ g : ByteArray, g = ⟨(Nm.grp c.lease).toArray⟩ := ⟨_, rfl⟩
  unfold RetS at h4
  rw [← hg4] at h4
  have z4 : g4.size ≤ 10 := by rw [hg4, Lib.size_eq]; exact grp_len _ hf.lease
  have hfin : (⟨(Cm.bytes c).toArray⟩ : ByteArray) = g1 ++ g2 ++ g3 ++ g4 := by
    rw [hby, hg1, hg2, hg3, hg4]
    simp [Cm.head, ByteArray.mk_append_mk]
  have Hfin := Lib.hid hfin
  have H1 := Lib.hid h1
  have H2 := Lib.hid h2
  have H3 := Lib.hid h3
  have H4 := Lib.hid h4
  have Hpl := Lib.hid hpl
  have Hop := Lib.hid hop
  have a1 : ∀ W : World, (Op.stringOp .add g1 g2).run Try.prog W = .ok (.string (g1 ++ g2)) W := fun W => run_string_add_sum W g1 g2 (by omega)
  have a2 : ∀ W : World, (Op.stringOp .add (g1 ++ g2) g3).run Try.prog W = .ok (.string (g1 ++ g2 ++ g3)) W := fun W => run_string_add_sum W (g1 ++ g2) g3 (by rw [ByteArray.size_append]; omega)
  have b4 : ∀ W : World, (Op.stringOp .add (g1 ++ g2 ++ g3) g4).run Try.prog W = .ok (.string (g1 ++ g2 ++ g3 ++ g4)) W := fun W => run_string_add_sum W _ g4 (by simp only [ByteArray.size_append]; omega)
  have hw8 := eight c.op hf.op
  have hopI : (c.op : Int) = 7 := by omega
  clear hfin hll hby hlen hpl hop hg1 h1 hg2 h2 hg3 h3 hg4 h4
  have HopI := Lib.hid hopI
  clear hopI
  have FX := cmdF c A cap
  generalize cmdC c A cap = X at FX ⊢
  obtain ⟨hx, _, x0, x1, x2, x3, x4, x5, x6, x7, x8, x9, x10, x11⟩ := FX
  go_enter Try.func64, Try.ntmps64
  go_wp2_with fail
  refine forget (fun W => Below w.heap.size w W ∧ w.heap.size + 3 = W.heap.size ∧ W.heap[w.heap.size]? = some (.cells X 30 (0, 0)) ∧ W.heap[w.heap.size + 1]? = some (.cells (cmdC Cm.zero none 0) 30 (0, 0)) ∧ W.heap[w.heap.size + 1 + 1]? = some (.cells (cmdC ⟨c.op, c.ses, c.seq, Cm.e0, Cm.e0, Cm.e0, Cm.e0, Cm.e0, 0, 0, 0, []⟩ none 0) 30 (0, 0))) ?_ ?_
  · exact ⟨bnew (bnew (bnew (Below.refl _ _) _) _) _, by simp, three0 w _ _ _, three1 w _ _ _, three2 w _ _ _⟩
  rintro W0 ⟨hb0, hz0, hbx, hbz, hbp⟩
  have c0 := cell_of_row W0 w.heap.size 0 X _ _ hbx
  rw [Array.getElem?_eq_getElem (by omega), x0] at c0
  have k0 := fun d os => cell_regrown c0 d os
  have c1 := cell_of_row W0 w.heap.size 1 X _ _ hbx
  rw [Array.getElem?_eq_getElem (by omega), x1] at c1
  have k1 := fun d os => cell_regrown c1 d os
  have c2 := cell_of_row W0 w.heap.size 2 X _ _ hbx
  rw [Array.getElem?_eq_getElem (by omega), x2] at c2
  have k2 := fun d os => cell_regrown c2 d os
  have HB := Lib.hid (And.intro hb0 (And.intro hbx (And.intro hbz hbp)))
  clear hb0 hbx hbz hbp c0 c1 c2
  refine wp_region_quiet_below (by kernel_rfl) (by kernel_rfl) ?_
  repeat (go_big_quiet_step ((first | (go_at_call 67; exact Calls.regrown_of (H1.out _)) | (go_at_call 69; first | (with_reducible exact Calls.regrown_of (H2.out _)) | (with_reducible exact Calls.regrown_of (H3.out _))))))
  refine wpQuiet_nil ?_
  intro _ hw'
  obtain ⟨pq, hw''⟩ := hw'
  subst hw''
  have hb1 := below_regrown W0 pq.d pq.os
  clear k0 k1 k2
  generalize Go.Sort.grow (redrawn W0 pq.d) pq.os = W1 at *
  obtain ⟨hb0, hbx, hbz, hbp⟩ := HB.out
  have hs1 := hb1.size
  have hx1 := (hb1.block w.heap.size (by omega)).trans hbx
  have hz1 := (hb1.block (w.heap.size + 1) (by omega)).trans hbz
  have hp1 := (hb1.block (w.heap.size + 1 + 1) (by omega)).trans hbp
  have hbb := bnext hb0 hb1
  clear hb0 hb1 hbx hbz hbp HB
  have c0 := cell_of_row W1 w.heap.size 0 X _ _ hx1
  rw [Array.getElem?_eq_getElem (by omega), x0] at c0
  have c9 := cell_of_row W1 w.heap.size 9 X _ _ hx1
  rw [Array.getElem?_eq_getElem (by omega), x9] at c9
  have e9 : W1.cell? ⟨w.heap.size + 1 + 1, 9, none⟩ = some (.int .u64 0) := cell_of_row W1 (w.heap.size + 1 + 1) 9 _ _ _ hp1
  have f9 := frozen_of_row W1 (w.heap.size + 1 + 1) 9 _ _ hp1
  have s0 := heap_setCell_same (W1) (w.heap.size + 1 + 1) 9 _ _ (.int .u64 (c.lease : Int)) hp1
  have hpf : ((W1).setCell ⟨w.heap.size + 1 + 1, 9, none⟩ (.int .u64 (c.lease : Int))).heap[w.heap.size + 1 + 1]? = some (.cells (cmdC (Cm.plain c) none 0) 30 (0, 0)) := by rw [Hpl.out]; exact s0
  have hxf : ((W1).setCell ⟨w.heap.size + 1 + 1, 9, none⟩ (.int .u64 (c.lease : Int))).heap[w.heap.size]? = some (.cells X 30 (0, 0)) := (Below.heap_setCell _ _ _ _ (by simp; try omega)).trans (hx1)
  have hzf : ((W1).setCell ⟨w.heap.size + 1 + 1, 9, none⟩ (.int .u64 (c.lease : Int))).heap[w.heap.size + 1]? = some (.cells (cmdC Cm.zero none 0) 30 (0, 0)) := (Below.heap_setCell _ _ _ _ (by simp; try omega)).trans (hz1)
  have hbf : Below w.heap.size w ((W1).setCell ⟨w.heap.size + 1 + 1, 9, none⟩ (.int .u64 (c.lease : Int))) := (hbb).setCell (p := ⟨w.heap.size + 1 + 1, 9, none⟩) (by simp; omega) _
  have hsf : w.heap.size + 1 + 1 < ((W1).setCell ⟨w.heap.size + 1 + 1, 9, none⟩ (.int .u64 (c.lease : Int))).heap.size := by simp only [World.size_setCell]; omega
  have HF := Lib.hid (And.intro hbf (And.intro hsf (And.intro hxf (And.intro hzf hpf))))
  clear hbf hsf hxf hzf hpf hbb hx1 hz1 hp1 s0
  have hopI := HopI.out
  go_wp2_with (go_at_call 69; refine (H4.out _).mono ?_; rintro e W3 ⟨rfl, hb3⟩)
  obtain ⟨hb2, hs2, _, hz2, hp2⟩ := HF.out
  have hzT := (hb3.block (w.heap.size + 1) (by omega)).trans hz2
  have hpT := (hb3.block (w.heap.size + 1 + 1) hs2).trans hp2
  have hbT := bnext hb2 hb3
  have hsT : w.heap.size + 1 + 1 < W3.heap.size := Nat.lt_of_lt_of_le hs2 hb3.size
  clear hb2 hz2 hp2 hb3 hs2 HF
  obtain ⟨q0, q1, q2, q3, q4, q5, q6, q7, q8, q9, q10, q11, qz⟩ := cmdAt hpT
  obtain ⟨y0, y1, y2, y3, y4, y5, y6, y7, y8, y9, y10, y11, yz⟩ := cmdAt hzT
  have Hb := Lib.hid hbT
  have HzT := Lib.hid hzT
  have hlz : (Cm.plain c).parts = [] := by rw [Hpl.out]
  have Hlz := Lib.hid hlz
  clear hpT hzT hbT hlz a1 a2 b4
  try clear hopI
  go_region
  go_wp2
  have hres := results_tc (P := Try.prog) (fn := Try.f64) rfl
  refine bodyPost_ret (hres _ _ (w.heap.size + 1) 30 (cmdC (Cm.plain c) none 0) (0, 0) _ rfl (row_drew (cmdPut (c := Cm.plain c) (A := none) (cap := 0) HzT.out)) Try.underlying30 rfl sizeCmd) rfl ⟨none, 0, ?_, .inl (by rw [Hlz.out]; rfl), below_drew (cmdBelow Hb.out (by omega))⟩
  rw [Hfin.out]
  rfl

set_option maxRecDepth 100000 in
set_option maxHeartbeats 4000000 in
theorem bytes_9 (c : Cm.Cmd) (hf : Cm.Fits c) (A : Option Addr) (cap : Nat) (w : World) (hlen : (Cm.bytes c).length ≤ 50000000) (hop : c.op = 9) :
    Calls Try.prog 64 #[.agg (cmdC c A cap)] w (RetBy c w) := by
  have hpl := Cm.plain9 hop
  have hby : Cm.bytes c = Cm.head c ++ Cm.body c := rfl
  rw [Cm.body9 hop] at hby
  have hll := congrArg List.length hby
  simp only [List.length_append] at hll
  have h1 := one_any c.op
  have h2 := refOne_any c.ses hf.ses
  have h3 := refOne_any c.seq hf.seq
  obtain ⟨g1, hg1⟩ : ∃ g : ByteArray, g = ⟨(Cm.one c.op).toArray⟩ := ⟨_, rfl⟩
  obtain ⟨g2, hg2⟩ : ∃ g : ByteArray, g = ⟨(Nm.grp c.ses).toArray⟩ := ⟨_, rfl⟩
  obtain ⟨g3, hg3⟩ : ∃ g : ByteArray, g = ⟨(Nm.grp c.seq).toArray⟩ := ⟨_, rfl⟩
  unfold RetS at h1 h2 h3
  rw [← hg1] at h1
  rw [← hg2] at h2
  rw [← hg3] at h3
  have z1 : g1.size = 1 := by rw [hg1]; rfl
  have z2 : g2.size ≤ 10 := by rw [hg2, Lib.size_eq]; exact grp_len _ hf.ses
  have z3 : g3.size ≤ 10 := by rw [hg3, Lib.size_eq]; exact grp_len _ hf.seq
  have h4 : ∀ W, Calls Try.prog 70 #[.string c.frm] W (RetS (Cm.txt c.frm) W) := fun W => text_any c.frm W (by omega)
  obtain ⟨g4, hg4⟩ : ∃ g : ByteArray, g = ⟨(Cm.txt c.frm).toArray⟩ := ⟨_, rfl⟩
  unfold RetS at h4
  rw [← hg4] at h4
  have z4 : g4.size ≤ 50000000 := by rw [hg4, Lib.size_eq]; simp only; omega
  have h5 : ∀ W, Calls Try.prog 70 #[.string c.tto] W (RetS (Cm.txt c.tto) W) := fun W => text_any c.tto W (by omega)
  obtain ⟨g5, hg5⟩ : ∃ g : ByteArray, g = ⟨(Cm.txt c.tto).toArray⟩ := ⟨_, rfl⟩
  unfold RetS at h5
  rw [← hg5] at h5
  have z5 : g5.size ≤ 50000000 := by rw [hg5, Lib.size_eq]; simp only; omega
  have h6 := one_any c.lim
  obtain ⟨g6, hg6⟩ : ∃ g : ByteArray, g = ⟨(Cm.one c.lim).toArray⟩ := ⟨_, rfl⟩
  unfold RetS at h6
  rw [← hg6] at h6
  have z6 : g6.size = 1 := by rw [hg6]; rfl
  have hfin : (⟨(Cm.bytes c).toArray⟩ : ByteArray) = g1 ++ g2 ++ g3 ++ g4 ++ g5 ++ g6 := by
    rw [hby, hg1, hg2, hg3, hg4, hg5, hg6]
    simp [Cm.head, ByteArray.mk_append_mk]
  have Hfin := Lib.hid hfin
  have H1 := Lib.hid h1
  have H2 := Lib.hid h2
  have H3 := Lib.hid h3
  have H4 := Lib.hid h4
  have H5 := Lib.hid h5
  have H6 := Lib.hid h6
  have Hpl := Lib.hid hpl
  have Hop := Lib.hid hop
  have a1 : ∀ W : World, (Op.stringOp .add g1 g2).run Try.prog W = .ok (.string (g1 ++ g2)) W := fun W => run_string_add_sum W g1 g2 (by omega)
  have a2 : ∀ W : World, (Op.stringOp .add (g1 ++ g2) g3).run Try.prog W = .ok (.string (g1 ++ g2 ++ g3)) W := fun W => run_string_add_sum W (g1 ++ g2) g3 (by rw [ByteArray.size_append]; omega)
  have b4 : ∀ W : World, (Op.stringOp .add (g1 ++ g2 ++ g3) g4).run Try.prog W = .ok (.string (g1 ++ g2 ++ g3 ++ g4)) W := fun W => run_string_add_sum W _ g4 (by simp only [ByteArray.size_append]; omega)
  have b5 : ∀ W : World, (Op.stringOp .add (g1 ++ g2 ++ g3 ++ g4) g5).run Try.prog W = .ok (.string (g1 ++ g2 ++ g3 ++ g4 ++ g5)) W := fun W => run_string_add_sum W _ g5 (by simp only [ByteArray.size_append]; omega)
  have b6 : ∀ W : World, (Op.stringOp .add (g1 ++ g2 ++ g3 ++ g4 ++ g5) g6).run Try.prog W = .ok (.string (g1 ++ g2 ++ g3 ++ g4 ++ g5 ++ g6)) W := fun W => run_string_add_sum W _ g6 (by simp only [ByteArray.size_append]; omega)
  have hw8 := eight c.op hf.op
  have hw9 := eight c.lim hf.lim
  have hopI : (c.op : Int) = 9 := by omega
  clear hfin hll hby hlen hpl hop hg1 h1 hg2 h2 hg3 h3 hg4 h4 hg5 h5 hg6 h6
  have HopI := Lib.hid hopI
  clear hopI
  have FX := cmdF c A cap
  generalize cmdC c A cap = X at FX ⊢
  obtain ⟨hx, _, x0, x1, x2, x3, x4, x5, x6, x7, x8, x9, x10, x11⟩ := FX
  go_enter Try.func64, Try.ntmps64
  go_wp2_with fail
  refine forget (fun W => Below w.heap.size w W ∧ w.heap.size + 3 = W.heap.size ∧ W.heap[w.heap.size]? = some (.cells X 30 (0, 0)) ∧ W.heap[w.heap.size + 1]? = some (.cells (cmdC Cm.zero none 0) 30 (0, 0)) ∧ W.heap[w.heap.size + 1 + 1]? = some (.cells (cmdC ⟨c.op, c.ses, c.seq, Cm.e0, Cm.e0, Cm.e0, Cm.e0, Cm.e0, 0, 0, 0, []⟩ none 0) 30 (0, 0))) ?_ ?_
  · exact ⟨bnew (bnew (bnew (Below.refl _ _) _) _) _, by simp, three0 w _ _ _, three1 w _ _ _, three2 w _ _ _⟩
  rintro W0 ⟨hb0, hz0, hbx, hbz, hbp⟩
  have c0 := cell_of_row W0 w.heap.size 0 X _ _ hbx
  rw [Array.getElem?_eq_getElem (by omega), x0] at c0
  have k0 := fun d os => cell_regrown c0 d os
  have c1 := cell_of_row W0 w.heap.size 1 X _ _ hbx
  rw [Array.getElem?_eq_getElem (by omega), x1] at c1
  have k1 := fun d os => cell_regrown c1 d os
  have c2 := cell_of_row W0 w.heap.size 2 X _ _ hbx
  rw [Array.getElem?_eq_getElem (by omega), x2] at c2
  have k2 := fun d os => cell_regrown c2 d os
  have HB := Lib.hid (And.intro hb0 (And.intro hbx (And.intro hbz hbp)))
  clear hb0 hbx hbz hbp c0 c1 c2
  refine wp_region_quiet_below (by kernel_rfl) (by kernel_rfl) ?_
  repeat (go_big_quiet_step ((first | (go_at_call 67; exact Calls.regrown_of (H1.out _)) | (go_at_call 69; first | (with_reducible exact Calls.regrown_of (H2.out _)) | (with_reducible exact Calls.regrown_of (H3.out _))))))
  refine wpQuiet_nil ?_
  intro _ hw'
  obtain ⟨pq, hw''⟩ := hw'
  subst hw''
  have hb1 := below_regrown W0 pq.d pq.os
  clear k0 k1 k2
  generalize Go.Sort.grow (redrawn W0 pq.d) pq.os = W1 at *
  obtain ⟨hb0, hbx, hbz, hbp⟩ := HB.out
  have hs1 := hb1.size
  have hx1 := (hb1.block w.heap.size (by omega)).trans hbx
  have hz1 := (hb1.block (w.heap.size + 1) (by omega)).trans hbz
  have hp1 := (hb1.block (w.heap.size + 1 + 1) (by omega)).trans hbp
  have hbb := bnext hb0 hb1
  clear hb0 hb1 hbx hbz hbp HB
  have c0 := cell_of_row W1 w.heap.size 0 X _ _ hx1
  rw [Array.getElem?_eq_getElem (by omega), x0] at c0
  have c6 := cell_of_row W1 w.heap.size 6 X _ _ hx1
  rw [Array.getElem?_eq_getElem (by omega), x6] at c6
  have c7 := cell_of_row W1 w.heap.size 7 X _ _ hx1
  rw [Array.getElem?_eq_getElem (by omega), x7] at c7
  have c8 := cell_of_row W1 w.heap.size 8 X _ _ hx1
  rw [Array.getElem?_eq_getElem (by omega), x8] at c8
  have e6 : W1.cell? ⟨w.heap.size + 1 + 1, 6, none⟩ = some (.string Cm.e0) := cell_of_row W1 (w.heap.size + 1 + 1) 6 _ _ _ hp1
  have f6 := frozen_of_row W1 (w.heap.size + 1 + 1) 6 _ _ hp1
  have e7 : W1.cell? ⟨w.heap.size + 1 + 1, 7, none⟩ = some (.string Cm.e0) := cell_of_row W1 (w.heap.size + 1 + 1) 7 _ _ _ hp1
  have f7 := frozen_of_row W1 (w.heap.size + 1 + 1) 7 _ _ hp1
  have e8 : W1.cell? ⟨w.heap.size + 1 + 1, 8, none⟩ = some (.int .u8 0) := cell_of_row W1 (w.heap.size + 1 + 1) 8 _ _ _ hp1
  have f8 := frozen_of_row W1 (w.heap.size + 1 + 1) 8 _ _ hp1
  have s0 := heap_setCell_same (W1) (w.heap.size + 1 + 1) 6 _ _ (.string c.frm) hp1
  have s1 := heap_setCell_same ((W1).setCell ⟨w.heap.size + 1 + 1, 6, none⟩ (.string c.frm)) (w.heap.size + 1 + 1) 7 _ _ (.string c.tto) s0
  have s2 := heap_setCell_same (((W1).setCell ⟨w.heap.size + 1 + 1, 6, none⟩ (.string c.frm)).setCell ⟨w.heap.size + 1 + 1, 7, none⟩ (.string c.tto)) (w.heap.size + 1 + 1) 8 _ _ (.int .u8 (c.lim : Int)) s1
  have hpf : ((((W1).setCell ⟨w.heap.size + 1 + 1, 6, none⟩ (.string c.frm)).setCell ⟨w.heap.size + 1 + 1, 7, none⟩ (.string c.tto)).setCell ⟨w.heap.size + 1 + 1, 8, none⟩ (.int .u8 (c.lim : Int))).heap[w.heap.size + 1 + 1]? = some (.cells (cmdC (Cm.plain c) none 0) 30 (0, 0)) := by rw [Hpl.out]; exact s2
  have hxf : ((((W1).setCell ⟨w.heap.size + 1 + 1, 6, none⟩ (.string c.frm)).setCell ⟨w.heap.size + 1 + 1, 7, none⟩ (.string c.tto)).setCell ⟨w.heap.size + 1 + 1, 8, none⟩ (.int .u8 (c.lim : Int))).heap[w.heap.size]? = some (.cells X 30 (0, 0)) := (Below.heap_setCell _ _ _ _ (by simp; try omega)).trans ((Below.heap_setCell _ _ _ _ (by simp; try omega)).trans ((Below.heap_setCell _ _ _ _ (by simp; try omega)).trans (hx1)))
  have hzf : ((((W1).setCell ⟨w.heap.size + 1 + 1, 6, none⟩ (.string c.frm)).setCell ⟨w.heap.size + 1 + 1, 7, none⟩ (.string c.tto)).setCell ⟨w.heap.size + 1 + 1, 8, none⟩ (.int .u8 (c.lim : Int))).heap[w.heap.size + 1]? = some (.cells (cmdC Cm.zero none 0) 30 (0, 0)) := (Below.heap_setCell _ _ _ _ (by simp; try omega)).trans ((Below.heap_setCell _ _ _ _ (by simp; try omega)).trans ((Below.heap_setCell _ _ _ _ (by simp; try omega)).trans (hz1)))
  have hbf : Below w.heap.size w ((((W1).setCell ⟨w.heap.size + 1 + 1, 6, none⟩ (.string c.frm)).setCell ⟨w.heap.size + 1 + 1, 7, none⟩ (.string c.tto)).setCell ⟨w.heap.size + 1 + 1, 8, none⟩ (.int .u8 (c.lim : Int))) := (((hbb).setCell (p := ⟨w.heap.size + 1 + 1, 6, none⟩) (by simp; omega) _).setCell (p := ⟨w.heap.size + 1 + 1, 7, none⟩) (by simp; omega) _).setCell (p := ⟨w.heap.size + 1 + 1, 8, none⟩) (by simp; omega) _
  have hsf : w.heap.size + 1 + 1 < ((((W1).setCell ⟨w.heap.size + 1 + 1, 6, none⟩ (.string c.frm)).setCell ⟨w.heap.size + 1 + 1, 7, none⟩ (.string c.tto)).setCell ⟨w.heap.size + 1 + 1, 8, none⟩ (.int .u8 (c.lim : Int))).heap.size := by simp only [World.size_setCell]; omega
  have HF := Lib.hid (And.intro hbf (And.intro hsf (And.intro hxf (And.intro hzf hpf))))
  clear hbf hsf hxf hzf hpf hbb hx1 hz1 hp1 s0 s1 s2
  have hopI := HopI.out
  go_wp2_with fail
  refine forget (fun W => Below w.heap.size w W ∧ w.heap.size + 1 + 1 < W.heap.size ∧ W.heap[w.heap.size]? = some (.cells X 30 (0, 0)) ∧ W.heap[w.heap.size + 1]? = some (.cells (cmdC Cm.zero none 0) 30 (0, 0)) ∧ W.heap[w.heap.size + 1 + 1]? = some (.cells (cmdC (Cm.plain c) none 0) 30 (0, 0))) HF.out ?_
  clear hopI HF c0 c6 c7 c8 e6 f6 e7 f7 e8 f8
  rintro W2 ⟨hb2, hs2, hx2, hz2, hp2⟩
  have c6 := cell_of_row W2 w.heap.size 6 X _ _ hx2
  rw [Array.getElem?_eq_getElem (by omega), x6] at c6
  have k6 := fun d os => cell_regrown c6 d os
  have c7 := cell_of_row W2 w.heap.size 7 X _ _ hx2
  rw [Array.getElem?_eq_getElem (by omega), x7] at c7
  have k7 := fun d os => cell_regrown c7 d os
  have c8 := cell_of_row W2 w.heap.size 8 X _ _ hx2
  rw [Array.getElem?_eq_getElem (by omega), x8] at c8
  have k8 := fun d os => cell_regrown c8 d os
  clear c6 c7 c8 hx2 x0 x1 x2 x3 x4 x5 x6 x7 x8 x9 x10 x11
  have HF := Lib.hid (And.intro hb2 (And.intro hz2 hp2))
  clear hb2 hz2 hp2
  refine wp_region_quiet_below (by kernel_rfl) (by kernel_rfl) ?_
  repeat (go_big_quiet_step ((first | (go_at_call 70; first | (with_reducible exact Calls.regrown_of (H4.out _)) | (with_reducible exact Calls.regrown_of (H5.out _))) | (go_at_call 67; first | (with_reducible exact Calls.regrown_of (H6.out _))))))
  refine wpQuiet_nil ?_
  intro _ hw'
  obtain ⟨pq2, hw''⟩ := hw'
  subst hw''
  have hb3 := below_regrown W2 pq2.d pq2.os
  clear k6 k7 k8
  generalize Go.Sort.grow (redrawn W2 pq2.d) pq2.os = W3 at *
  obtain ⟨hb2, hz2, hp2⟩ := HF.out
  have hzT := (hb3.block (w.heap.size + 1) (by omega)).trans hz2
  have hpT := (hb3.block (w.heap.size + 1 + 1) (by omega)).trans hp2
  have hbT := bnext hb2 hb3
  have hsT : w.heap.size + 1 + 1 < W3.heap.size := Nat.lt_of_lt_of_le hs2 hb3.size
  clear hb2 hz2 hp2 hb3 hs2 HF
  go_wp2_with fail
  obtain ⟨q0, q1, q2, q3, q4, q5, q6, q7, q8, q9, q10, q11, qz⟩ := cmdAt hpT
  obtain ⟨y0, y1, y2, y3, y4, y5, y6, y7, y8, y9, y10, y11, yz⟩ := cmdAt hzT
  have Hb := Lib.hid hbT
  have HzT := Lib.hid hzT
  have hlz : (Cm.plain c).parts = [] := by rw [Hpl.out]
  have Hlz := Lib.hid hlz
  clear hpT hzT hbT hlz a1 a2 b4 b5 b6
  try clear hopI
  go_region
  go_wp2
  have hres := results_tc (P := Try.prog) (fn := Try.f64) rfl
  refine bodyPost_ret (hres _ _ (w.heap.size + 1) 30 (cmdC (Cm.plain c) none 0) (0, 0) _ rfl (row_drew (cmdPut (c := Cm.plain c) (A := none) (cap := 0) HzT.out)) Try.underlying30 rfl sizeCmd) rfl ⟨none, 0, ?_, .inl (by rw [Hlz.out]; rfl), below_drew (cmdBelow Hb.out (by omega))⟩
  rw [Hfin.out]
  rfl

set_option maxRecDepth 100000 in
set_option maxHeartbeats 4000000 in
theorem bytes_0 (c : Cm.Cmd) (hf : Cm.Fits c) (A : Option Addr) (cap : Nat) (w : World) (hlen : (Cm.bytes c).length ≤ 50000000) (hop : c.op = 0 ∨ 9 < c.op) :
    Calls Try.prog 64 #[.agg (cmdC c A cap)] w (RetBy c w) := by
  have hpl := Cm.plain0 hop
  have hby : Cm.bytes c = Cm.head c ++ Cm.body c := rfl
  rw [Cm.body0 hop] at hby
  have hll := congrArg List.length hby
  simp only [List.length_append] at hll
  have h1 := one_any c.op
  have h2 := refOne_any c.ses hf.ses
  have h3 := refOne_any c.seq hf.seq
  obtain ⟨g1, hg1⟩ : ∃ g : ByteArray, g = ⟨(Cm.one c.op).toArray⟩ := ⟨_, rfl⟩
  obtain ⟨g2, hg2⟩ : ∃ g : ByteArray, g = ⟨(Nm.grp c.ses).toArray⟩ := ⟨_, rfl⟩
  obtain ⟨g3, hg3⟩ : ∃ g : ByteArray, g = ⟨(Nm.grp c.seq).toArray⟩ := ⟨_, rfl⟩
  unfold RetS at h1 h2 h3
  rw [← hg1] at h1
  rw [← hg2] at h2
  rw [← hg3] at h3
  have z1 : g1.size = 1 := by rw [hg1]; rfl
  have z2 : g2.size ≤ 10 := by rw [hg2, Lib.size_eq]; exact grp_len _ hf.ses
  have z3 : g3.size ≤ 10 := by rw [hg3, Lib.size_eq]; exact grp_len _ hf.seq
  have hfin : (⟨(Cm.bytes c).toArray⟩ : ByteArray) = g1 ++ g2 ++ g3 := by
    rw [hby, hg1, hg2, hg3]
    simp [Cm.head, ByteArray.mk_append_mk]
  have Hfin := Lib.hid hfin
  have H1 := Lib.hid h1
  have H2 := Lib.hid h2
  have H3 := Lib.hid h3
  have Hpl := Lib.hid hpl
  have Hop := Lib.hid hop
  have a1 : ∀ W : World, (Op.stringOp .add g1 g2).run Try.prog W = .ok (.string (g1 ++ g2)) W := fun W => run_string_add_sum W g1 g2 (by omega)
  have a2 : ∀ W : World, (Op.stringOp .add (g1 ++ g2) g3).run Try.prog W = .ok (.string (g1 ++ g2 ++ g3)) W := fun W => run_string_add_sum W (g1 ++ g2) g3 (by rw [ByteArray.size_append]; omega)
  have hw8 := eight c.op hf.op
  have n1 : ((c.op : Int) == 1) = false := by rw [beq_eq_false_iff_ne]; omega
  have n2 : ((c.op : Int) == 2) = false := by rw [beq_eq_false_iff_ne]; omega
  have n3 : ((c.op : Int) == 3) = false := by rw [beq_eq_false_iff_ne]; omega
  have n4 : ((c.op : Int) == 4) = false := by rw [beq_eq_false_iff_ne]; omega
  have n5 : ((c.op : Int) == 5) = false := by rw [beq_eq_false_iff_ne]; omega
  have n6 : ((c.op : Int) == 6) = false := by rw [beq_eq_false_iff_ne]; omega
  have n7 : ((c.op : Int) == 7) = false := by rw [beq_eq_false_iff_ne]; omega
  have n8 : ((c.op : Int) == 8) = false := by rw [beq_eq_false_iff_ne]; omega
  have n9 : ((c.op : Int) == 9) = false := by rw [beq_eq_false_iff_ne]; omega
  clear hfin hll hby hlen hpl hop hg1 h1 hg2 h2 hg3 h3
  have FX := cmdF c A cap
  generalize cmdC c A cap = X at FX ⊢
  obtain ⟨hx, _, x0, x1, x2, x3, x4, x5, x6, x7, x8, x9, x10, x11⟩ := FX
  go_enter Try.func64, Try.ntmps64
  go_wp2_with fail
  refine forget (fun W => Below w.heap.size w W ∧ w.heap.size + 3 = W.heap.size ∧ W.heap[w.heap.size]? = some (.cells X 30 (0, 0)) ∧ W.heap[w.heap.size + 1]? = some (.cells (cmdC Cm.zero none 0) 30 (0, 0)) ∧ W.heap[w.heap.size + 1 + 1]? = some (.cells (cmdC ⟨c.op, c.ses, c.seq, Cm.e0, Cm.e0, Cm.e0, Cm.e0, Cm.e0, 0, 0, 0, []⟩ none 0) 30 (0, 0))) ?_ ?_
  · exact ⟨bnew (bnew (bnew (Below.refl _ _) _) _) _, by simp, three0 w _ _ _, three1 w _ _ _, three2 w _ _ _⟩
  rintro W0 ⟨hb0, hz0, hbx, hbz, hbp⟩
  have c0 := cell_of_row W0 w.heap.size 0 X _ _ hbx
  rw [Array.getElem?_eq_getElem (by omega), x0] at c0
  have k0 := fun d os => cell_regrown c0 d os
  have c1 := cell_of_row W0 w.heap.size 1 X _ _ hbx
  rw [Array.getElem?_eq_getElem (by omega), x1] at c1
  have k1 := fun d os => cell_regrown c1 d os
  have c2 := cell_of_row W0 w.heap.size 2 X _ _ hbx
  rw [Array.getElem?_eq_getElem (by omega), x2] at c2
  have k2 := fun d os => cell_regrown c2 d os
  have HB := Lib.hid (And.intro hb0 (And.intro hbx (And.intro hbz hbp)))
  clear hb0 hbx hbz hbp c0 c1 c2
  refine wp_region_quiet_below (by kernel_rfl) (by kernel_rfl) ?_
  repeat (go_big_quiet_step ((first | (go_at_call 67; exact Calls.regrown_of (H1.out _)) | (go_at_call 69; first | (with_reducible exact Calls.regrown_of (H2.out _)) | (with_reducible exact Calls.regrown_of (H3.out _))))))
  refine wpQuiet_nil ?_
  intro _ hw'
  obtain ⟨pq, hw''⟩ := hw'
  subst hw''
  have hb1 := below_regrown W0 pq.d pq.os
  clear k0 k1 k2
  generalize Go.Sort.grow (redrawn W0 pq.d) pq.os = W1 at *
  obtain ⟨hb0, hbx, hbz, hbp⟩ := HB.out
  have hs1 := hb1.size
  have hx1 := (hb1.block w.heap.size (by omega)).trans hbx
  have hz1 := (hb1.block (w.heap.size + 1) (by omega)).trans hbz
  have hp1 := (hb1.block (w.heap.size + 1 + 1) (by omega)).trans hbp
  have hbb := bnext hb0 hb1
  clear hb0 hb1 hbx hbz hbp HB
  have c0 := cell_of_row W1 w.heap.size 0 X _ _ hx1
  rw [Array.getElem?_eq_getElem (by omega), x0] at c0
  have hpf : (W1).heap[w.heap.size + 1 + 1]? = some (.cells (cmdC (Cm.plain c) none 0) 30 (0, 0)) := by rw [Hpl.out]; exact hp1
  have hxf : (W1).heap[w.heap.size]? = some (.cells X 30 (0, 0)) := hx1
  have hzf : (W1).heap[w.heap.size + 1]? = some (.cells (cmdC Cm.zero none 0) 30 (0, 0)) := hz1
  have hbf : Below w.heap.size w (W1) := hbb
  have hsf : w.heap.size + 1 + 1 < W1.heap.size := by omega
  have HF := Lib.hid (And.intro hbf (And.intro hsf (And.intro hxf (And.intro hzf hpf))))
  clear hbf hsf hxf hzf hpf hbb hx1 hz1 hp1 
  go_wp2_with fail
  obtain ⟨hbT, hsT, _, hzT, hpT⟩ := HF.out
  obtain ⟨q0, q1, q2, q3, q4, q5, q6, q7, q8, q9, q10, q11, qz⟩ := cmdAt hpT
  obtain ⟨y0, y1, y2, y3, y4, y5, y6, y7, y8, y9, y10, y11, yz⟩ := cmdAt hzT
  have Hb := Lib.hid hbT
  have HzT := Lib.hid hzT
  have hlz : (Cm.plain c).parts = [] := by rw [Hpl.out]
  have Hlz := Lib.hid hlz
  clear hpT hzT hbT hlz a1 a2 
  try clear hopI
  go_region
  go_wp2
  have hres := results_tc (P := Try.prog) (fn := Try.f64) rfl
  refine bodyPost_ret (hres _ _ (w.heap.size + 1) 30 (cmdC (Cm.plain c) none 0) (0, 0) _ rfl (row_drew (cmdPut (c := Cm.plain c) (A := none) (cap := 0) HzT.out)) Try.underlying30 rfl sizeCmd) rfl ⟨none, 0, ?_, .inl (by rw [Hlz.out]; rfl), below_drew (cmdBelow Hb.out (by omega))⟩
  rw [Hfin.out]
  rfl

end Go.Proofs.Ytlcgjlganmblpaa
