/-
  wapentakeref03.Bytes walked: a batch; all of it.
-/
import Derived.Test.YtlcgjlganmblpaaRCmdBytes
set_option linter.unusedSimpArgs false
set_option linter.unusedVariables false
namespace Go.Proofs.Ytlcgjlganmblpaa
open Go.RowKit

theorem partsB_take (ps : List Cm.Part) (k : Nat) (hk : k < ps.length) : Cm.partsB (ps.take (k + 1)) = Cm.partsB (ps.take k) ++ Cm.partB ps[k] := by
  unfold Cm.partsB
  rw [List.take_succ_eq_append_getElem hk, List.map_append, List.flatten_append, List.map_singleton, List.flatten_singleton]
theorem partsB_take_le (ps : List Cm.Part) (k : Nat) : (Cm.partsB (ps.take k)).length ≤ (Cm.partsB ps).length := by
  have e : Cm.partsB ps = Cm.partsB (ps.take k) ++ Cm.partsB (ps.drop k) := by
    unfold Cm.partsB
    rw [← List.flatten_append, ← List.map_append, List.take_append_drop]
  rw [e, List.length_append]; omega

set_option maxRecDepth 100000 in
set_option maxHeartbeats 4000000 in
theorem bytes_5 (c : Cm.Cmd) (hf : Cm.Fits c) (A : Option Addr) (cap : Nat) (w : World) (hlen : (Cm.bytes c).length ≤ 50000000) (hop : c.op = 5) (hA : Lies w A (pc c.parts)) (hn : c.parts.length ≤ 1000000) :
    Calls Try.prog 64 #[.agg (cmdC c A cap)] w (RetBy c w) := by
  have hpl := Cm.plain5 hop
  have hby : Cm.bytes c = Cm.head c ++ Cm.body c := rfl
  rw [Cm.body5 hop] at hby
  have hll := congrArg List.length hby
  simp only [List.length_append] at hll
  have h1 := one_any c.op
  have h2 := refOne_any c.ses hf.ses
  have h3 := refOne_any c.seq hf.seq
  obtain ⟨g1, hg1⟩ : ∃ g : ByteArray, g = ⟨(Cm.one c.op).toArray⟩ := ⟨_, rfl⟩
  obtain ⟨g2, hg2⟩ : ∃ g : ByteArray, g = ⟨(Nm.grp c.ses).toArray⟩ := ⟨_, rfl⟩
  obtain ⟨g3, hg3⟩ : ∃ g : ByteArray, g = ⟨(Nm.grp c.seq).toArray⟩ := ⟨_, rfl⟩
  unfold RetS at h1 h2 h3
  rw [← hg1] at h1
  rw [← hg2] at h2
  rw [← hg3] at h3
  have z1 : g1.size = 1 := by rw [hg1]; rfl
  have z2 : g2.size ≤ 10 := by rw [hg2, Lib.size_eq]; exact grp_len _ hf.ses
  have z3 : g3.size ≤ 10 := by rw [hg3, Lib.size_eq]; exact grp_len _ hf.seq
  have h4 := one_any c.parts.length
  obtain ⟨g4, hg4⟩ : ∃ g : ByteArray, g = ⟨(Cm.one c.parts.length).toArray⟩ := ⟨_, rfl⟩
  unfold RetS at h4
  rw [← hg4] at h4
  have z4 : g4.size = 1 := by rw [hg4]; rfl
  have hfin : (⟨(Cm.bytes c).toArray⟩ : ByteArray) = g1 ++ g2 ++ g3 ++ g4 ++ ⟨(Cm.partsB c.parts).toArray⟩ := by
    rw [hby, hg1, hg2, hg3, hg4]
    simp [Cm.head, ByteArray.mk_append_mk]
  have hpl2 : (Cm.partsB c.parts).length ≤ 50000000 := by omega
  have Hfin := Lib.hid hfin
  have H1 := Lib.hid h1
  have H2 := Lib.hid h2
  have H3 := Lib.hid h3
  have H4 := Lib.hid h4
  have Hpl := Lib.hid hpl
  have HA := Lib.hid hA
  have Hop := Lib.hid hop
  have a1 : ∀ W : World, (Op.stringOp .add g1 g2).run Try.prog W = .ok (.string (g1 ++ g2)) W := fun W => run_string_add_sum W g1 g2 (by omega)
  have a2 : ∀ W : World, (Op.stringOp .add (g1 ++ g2) g3).run Try.prog W = .ok (.string (g1 ++ g2 ++ g3)) W := fun W => run_string_add_sum W (g1 ++ g2) g3 (by rw [ByteArray.size_append]; omega)
  have b4 : ∀ W : World, (Op.stringOp .add (g1 ++ g2 ++ g3) g4).run Try.prog W = .ok (.string (g1 ++ g2 ++ g3 ++ g4)) W := fun W => run_string_add_sum W _ g4 (by simp only [ByteArray.size_append]; omega)
  have hw8 := eight c.op hf.op
  have hopI : (c.op : Int) = 5 := by omega
  clear hA hfin hll hby hlen hpl hop hg1 h1 hg2 h2 hg3 h3 hg4 h4
  have HopI := Lib.hid hopI
  clear hopI
  have FX := cmdF c A cap
  generalize cmdC c A cap = X at FX ⊢
  obtain ⟨hx, _, x0, x1, x2, x3, x4, x5, x6, x7, x8, x9, x10, x11⟩ := FX
  go_enter Try.func64, Try.ntmps64
  go_wp2_with fail
  refine forget (fun W => Below w.heap.size w W ∧ w.heap.size + 3 = W.heap.size ∧ W.heap[w.heap.size]? = some (.cells X 30 (0, 0)) ∧ W.heap[w.heap.size + 1]? = some (.cells (cmdC Cm.zero none 0) 30 (0, 0)) ∧ W.heap[w.heap.size + 1 + 1]? = some (.cells (cmdC ⟨c.op, c.ses, c.seq, Cm.e0, Cm.e0, Cm.e0, Cm.e0, Cm.e0, 0, 0, 0, []⟩ none 0) 30 (0, 0))) ?_ ?_
  · exact ⟨bnew (bnew (bnew (Below.refl _ _) _) _) _, by simp, three0 w _ _ _, three1 w _ _ _, three2 w _ _ _⟩
  rintro W0 ⟨hb0, hz0, hbx, hbz, hbp⟩
  have c0 := cell_of_row W0 w.heap.size 0 X _ _ hbx
  rw [Array.getElem?_eq_getElem (by omega), x0] at c0
  have k0 := fun d os => cell_regrown c0 d os
  have c1 := cell_of_row W0 w.heap.size 1 X _ _ hbx
  rw [Array.getElem?_eq_getElem (by omega), x1] at c1
  have k1 := fun d os => cell_regrown c1 d os
  have c2 := cell_of_row W0 w.heap.size 2 X _ _ hbx
  rw [Array.getElem?_eq_getElem (by omega), x2] at c2
  have k2 := fun d os => cell_regrown c2 d os
  have HB := Lib.hid (And.intro hb0 (And.intro hbx (And.intro hbz hbp)))
  clear hb0 hbx hbz hbp c0 c1 c2
  refine wp_region_quiet_below (by kernel_rfl) (by kernel_rfl) ?_
  repeat (go_big_quiet_step ((first | (go_at_call 67; exact Calls.regrown_of (H1.out _)) | (go_at_call 69; first | (with_reducible exact Calls.regrown_of (H2.out _)) | (with_reducible exact Calls.regrown_of (H3.out _))))))
  refine wpQuiet_nil ?_
  intro _ hw'
  obtain ⟨pq, hw''⟩ := hw'
  subst hw''
  have hb1 := below_regrown W0 pq.d pq.os
  clear k0 k1 k2
  generalize Go.Sort.grow (redrawn W0 pq.d) pq.os = W1 at *
  obtain ⟨hb0, hbx, hbz, hbp⟩ := HB.out
  have hs1 := hb1.size
  have hx1 := (hb1.block w.heap.size (by omega)).trans hbx
  have hz1 := (hb1.block (w.heap.size + 1) (by omega)).trans hbz
  have hp1 := (hb1.block (w.heap.size + 1 + 1) (by omega)).trans hbp
  have hbb := bnext hb0 hb1
  clear hb0 hb1 hbx hbz hbp HB
  have c0 := cell_of_row W1 w.heap.size 0 X _ _ hx1
  rw [Array.getElem?_eq_getElem (by omega), x0] at c0
  have c11 := cell_of_row W1 w.heap.size 11 X _ _ hx1
  rw [Array.getElem?_eq_getElem (by omega), x11] at c11
  have e11 : W1.cell? ⟨w.heap.size + 1 + 1, 11, none⟩ = some (.slice none 0 0) := cell_of_row W1 (w.heap.size + 1 + 1) 11 _ _ _ hp1
  have f11 := frozen_of_row W1 (w.heap.size + 1 + 1) 11 _ _ hp1
  have s0 := heap_setCell_same W1 (w.heap.size + 1 + 1) 11 _ _ (.slice A c.parts.length cap) hp1
  have hpf : (W1.setCell ⟨w.heap.size + 1 + 1, 11, none⟩ (.slice A c.parts.length cap)).heap[w.heap.size + 1 + 1]? = some (.cells (cmdC (Cm.plain c) A cap) 30 (0, 0)) := by rw [Hpl.out]; exact s0
  have hxf : (W1.setCell ⟨w.heap.size + 1 + 1, 11, none⟩ (.slice A c.parts.length cap)).heap[w.heap.size]? = some (.cells X 30 (0, 0)) := (Below.heap_setCell _ _ _ _ (by simp; try omega)).trans hx1
  have hzf : (W1.setCell ⟨w.heap.size + 1 + 1, 11, none⟩ (.slice A c.parts.length cap)).heap[w.heap.size + 1]? = some (.cells (cmdC Cm.zero none 0) 30 (0, 0)) := (Below.heap_setCell _ _ _ _ (by simp; try omega)).trans hz1
  have hbf : Below w.heap.size w (W1.setCell ⟨w.heap.size + 1 + 1, 11, none⟩ (.slice A c.parts.length cap)) := hbb.setCell (p := ⟨w.heap.size + 1 + 1, 11, none⟩) (by simp; omega) _
  have hsf : w.heap.size + 1 + 1 < (W1.setCell ⟨w.heap.size + 1 + 1, 11, none⟩ (.slice A c.parts.length cap)).heap.size := by simp only [World.size_setCell]; omega
  have HF := Lib.hid (And.intro hbf (And.intro hsf (And.intro hxf (And.intro hzf hpf))))
  clear hbf hsf hxf hzf hpf hbb hx1 hz1 hp1 s0
  have hopI := HopI.out
  go_wp2_with (go_at_call 67; refine (H4.out _).mono ?_; rintro e W3 ⟨rfl, hb3⟩)
  obtain ⟨hb2, hs2, hx2, hz2, hp2⟩ := HF.out
  have hxT := (hb3.block w.heap.size (by omega)).trans hx2
  have hzT := (hb3.block (w.heap.size + 1) (by omega)).trans hz2
  have hpT := (hb3.block (w.heap.size + 1 + 1) hs2).trans hp2
  have hbT := bnext hb2 hb3
  have hsT : w.heap.size + 1 + 1 < W3.heap.size := Nat.lt_of_lt_of_le hs2 hb3.size
  have HT := Lib.hid (And.intro hbT (And.intro hsT (And.intro hxT (And.intro hzT hpT))))
  clear hb2 hz2 hp2 hb3 hs2 HF hxT hzT hpT hbT hsT hx2 a1 a2 b4 c0 c11 e11 f11 hopI hw8 x0 x1 x2 x3 x4 x5 x6 x7 x8 x9 x10
  obtain ⟨G, hG⟩ : ∃ G : ByteArray, G = g1 ++ g2 ++ g3 ++ g4 := ⟨_, rfl⟩
  have hGz : G.size ≤ 32 := by rw [hG]; simp only [ByteArray.size_append]; omega
  rw [← hG] at Hfin ⊢
  clear hG
  go_loopw [5, 6, 7] (fun v i _ wr => ∃ (k : Nat) (s : ByteArray), k ≤ c.parts.length ∧ i = .int .i64 (k : Int) ∧ v = .string s ∧ s = G ++ ⟨(Cm.partsB (c.parts.take k)).toArray⟩ ∧ Below w.heap.size w wr ∧ w.heap.size + 1 + 1 < wr.heap.size ∧ wr.heap[w.heap.size]? = some (.cells X 30 (0, 0)) ∧ wr.heap[w.heap.size + 1]? = some (.cells (cmdC Cm.zero none 0) 30 (0, 0)) ∧ wr.heap[w.heap.size + 1 + 1]? = some (.cells (cmdC (Cm.plain c) A cap) 30 (0, 0))) (fun _ i _ _ => c.parts.length - (intOf i).toNat)
  case atStart => exact ⟨0, G, Nat.zero_le _, rfl, rfl, by apply ByteArray.ext; simp [Cm.partsB, ByteArray.data_append], HT.out⟩
  case round =>
    obtain ⟨k, s, hk, rfl, rfl, hs, hb, hsz, hbx, hbz, hbp⟩ := hrel
    have c11 := cell_of_row wr w.heap.size 11 X _ _ hbx
    rw [Array.getElem?_eq_getElem (by omega), x11] at c11
    by_cases hlt : k < c.parts.length
    · obtain ⟨ba, oa, rfl, hba, p0, p1, p2⟩ := HA.out.part k hlt
      have hts := partsB_take c.parts k hlt
      have htl := partsB_take_le c.parts (k + 1)
      have hsl : s.size = G.size + (Cm.partsB (c.parts.take k)).length := by rw [hs, ByteArray.size_append]; congr 1
      have hop8 := hf.parts _ (List.getElem_mem hlt)
      obtain ⟨p, hp⟩ : ∃ p, p = c.parts[k] := ⟨_, rfl⟩
      rw [← hp] at p0 p1 p2 hts hop8
      have hpb : (Cm.partB p).length + (Cm.partsB (c.parts.take k)).length ≤ 50000000 := by
        rw [hts, List.length_append] at htl; omega
      have r0 : wr.cell? ⟨ba, oa + k * 3, none⟩ = _ := (hb.cell (p := ⟨ba, oa + k * 3, none⟩) hba).trans p0
      have r1 : wr.cell? ⟨ba, oa + k * 3 + 1, none⟩ = _ := (hb.cell (p := ⟨ba, oa + k * 3 + 1, none⟩) hba).trans p1
      have r2 : wr.cell? ⟨ba, oa + k * 3 + 2, none⟩ = _ := (hb.cell (p := ⟨ba, oa + k * 3 + 2, none⟩) hba).trans p2
      have hpl3 : (Cm.partB p).length = 1 + (Cm.txt p.key).length + (if p.op = 2 then Cm.txt p.val else []).length := by
        unfold Cm.partB; simp only [List.length_append]; rfl
      have i1 := one_any p.op
      have i2 : ∀ W, Calls Try.prog 70 #[.string p.key] W (RetS (Cm.txt p.key) W) := fun W => text_any p.key W (by omega)
      obtain ⟨u1, hu1⟩ : ∃ g : ByteArray, g = ⟨(Cm.one p.op).toArray⟩ := ⟨_, rfl⟩
      obtain ⟨u2, hu2⟩ : ∃ g : ByteArray, g = ⟨(Cm.txt p.key).toArray⟩ := ⟨_, rfl⟩
      unfold RetS at i1 i2
      rw [← hu1] at i1
      rw [← hu2] at i2
      have zu1 : u1.size = 1 := by rw [hu1]; rfl
      have zu2 : u2.size = (Cm.txt p.key).length := by rw [hu2, Lib.size_eq]
      have I1 := Lib.hid i1
      have I2 := Lib.hid i2
      have a1 : ∀ W : World, (Op.stringOp .add s u1).run Try.prog W = .ok (.string (s ++ u1)) W := fun W => run_string_add_sum W s u1 (by omega)
      have a2 : ∀ W : World, (Op.stringOp .add (s ++ u1) u2).run Try.prog W = .ok (.string (s ++ u1 ++ u2)) W := fun W => run_string_add_sum W (s ++ u1) u2 (by rw [ByteArray.size_append]; omega)
      have hw8 := eight p.op hop8
      have Hs := Lib.hid hs
      have Hts := Lib.hid hts
      have Hu := Lib.hid (And.intro hu1 hu2)
      have Hz := Lib.hid (And.intro zu2 (And.intro hsl hpl3))
      have HB := Lib.hid (And.intro hb (And.intro hsz (And.intro hbx (And.intro hbz hbp))))
      clear hs hts hu1 hu2 hb hbx hbz hbp i1 i2 p0 p1 p2 hp hop8 hsl htl zu2 hpl3
      go_wp2_with fail
      refine forget (fun W => Below wr.heap.size wr W ∧ wr.heap.size < W.heap.size ∧ W.heap[wr.heap.size]? = some (.cells #[.int .u8 (p.op : Int), .string p.key, .string p.val] 91 (0, 0))) ?_ ?_
      · exact ⟨bnew (Below.refl _ _) _, by simp, heap_alloc_new wr _⟩
      rintro W4 ⟨hb4, hs4, hn4⟩
      have d0 : W4.cell? ⟨wr.heap.size, 0, none⟩ = some (.int .u8 (p.op : Int)) := cell_of_row W4 wr.heap.size 0 _ _ _ hn4
      have d1 : W4.cell? ⟨wr.heap.size, 1, none⟩ = some (.string p.key) := cell_of_row W4 wr.heap.size 1 _ _ _ hn4
      have k0 := fun d os => cell_regrown d0 d os
      have k1 := fun d os => cell_regrown d1 d os
      have H4' := Lib.hid (And.intro hb4 hn4)
      clear d0 d1 hb4 hn4
      refine wp_region_quiet_below (by kernel_rfl) (by kernel_rfl) ?_
      repeat (go_big_quiet_step ((first | (go_at_call 67; exact Calls.regrown_of (I1.out _)) | (go_at_call 70; exact Calls.regrown_of (I2.out _)))))
      refine wpQuiet_nil ?_
      intro _ hw'
      obtain ⟨pq2, hw''⟩ := hw'
      subst hw''
      have hb5 := below_regrown W4 pq2.d pq2.os
      clear k0 k1
      generalize Go.Sort.grow (redrawn W4 pq2.d) pq2.os = W5 at *
      obtain ⟨hb4, hn4⟩ := H4'.out
      have hn5 := (hb5.block wr.heap.size hs4).trans hn4
      have hb45 := bnext hb4 hb5
      have d0 : W5.cell? ⟨wr.heap.size, 0, none⟩ = some (.int .u8 (p.op : Int)) := cell_of_row W5 wr.heap.size 0 _ _ _ hn5
      have d2 : W5.cell? ⟨wr.heap.size, 2, none⟩ = some (.string p.val) := cell_of_row W5 wr.heap.size 2 _ _ _ hn5
      have H45 := Lib.hid hb45
      clear hb4 hn4 hb5 hn5 hb45 H4' r0 r1 r2
      have fin : ∀ W6, Below wr.heap.size wr W6 → Below w.heap.size w W6 ∧ w.heap.size + 1 + 1 < W6.heap.size ∧ W6.heap[w.heap.size]? = some (.cells X 30 (0, 0)) ∧ W6.heap[w.heap.size + 1]? = some (.cells (cmdC Cm.zero none 0) 30 (0, 0)) ∧ W6.heap[w.heap.size + 1 + 1]? = some (.cells (cmdC (Cm.plain c) (some ⟨ba, oa, none⟩) cap) 30 (0, 0)) := fun W6 h6 => by
        obtain ⟨hb, hsz, hbx, hbz, hbp⟩ := HB.out
        exact ⟨bnext hb h6, Nat.lt_of_lt_of_le hsz h6.size, (h6.block _ (by omega)).trans hbx, (h6.block _ (by omega)).trans hbz, (h6.block _ hsz).trans hbp⟩
      have Fin := Lib.hid fin
      clear fin
      by_cases h2 : p.op = 2
      · have i3 : ∀ W, Calls Try.prog 70 #[.string p.val] W (RetS (Cm.txt p.val) W) := fun W => text_any p.val W (by
          have := Hz.out.2.2; rw [if_pos h2] at this; omega)
        obtain ⟨u3, hu3⟩ : ∃ g : ByteArray, g = ⟨(Cm.txt p.val).toArray⟩ := ⟨_, rfl⟩
        unfold RetS at i3
        rw [← hu3] at i3
        have I3 := Lib.hid i3
        have a3 : ∀ W : World, (Op.stringOp .add (s ++ u1 ++ u2) u3).run Try.prog W = .ok (.string (s ++ u1 ++ u2 ++ u3)) W := fun W => run_string_add_sum W _ u3 (by
          have e1 := Hz.out.1; have e2 := Hz.out.2.1; have e3 := Hz.out.2.2
          rw [if_pos h2] at e3
          have e4 : u3.size = (Cm.txt p.val).length := by rw [hu3, Lib.size_eq]
          simp only [ByteArray.size_append]; omega)
        have ht : (p.op : Int) = 2 := by omega
        have Hu3 := Lib.hid hu3
        have H2 := Lib.hid h2
        clear h2 i3 hu3
        go_wp2_with (go_at_call 70; refine (I3.out _).mono ?_; rintro e W6 ⟨rfl, hb6⟩)
        go_roundw
        case rel => exact ⟨k + 1, s ++ u1 ++ u2 ++ u3, by omega, by go_num, rfl, by rw [Hts.out, Hs.out, Hu.out.1, Hu.out.2, Hu3.out, Cm.partB, if_pos H2.out]; simp [ByteArray.append_assoc, ByteArray.mk_append_mk], Fin.out _ (bnext H45.out hb6)⟩
        case measure => simp [intOf]; omega
      · have ht : ((p.op : Int) == 2) = false := by rw [beq_eq_false_iff_ne]; omega
        have H2 := Lib.hid h2
        clear h2
        go_wp2_with fail
        go_roundw
        case rel => exact ⟨k + 1, s ++ u1 ++ u2, by omega, by go_num, rfl, by rw [Hts.out, Hs.out, Hu.out.1, Hu.out.2, Cm.partB, if_neg H2.out]; simp [ByteArray.append_assoc, ByteArray.mk_append_mk], Fin.out _ H45.out⟩
        case measure => simp [intOf]; omega
    · obtain rfl : k = c.parts.length := by omega
      have hse : s = ⟨(Cm.bytes c).toArray⟩ := by rw [Hfin.out, hs, List.take_length]
      have Hse := Lib.hid hse
      clear hs hse
      obtain ⟨q0, q1, q2, q3, q4, q5, q6, q7, q8, q9, q10, q11, qz⟩ := cmdAt hbp
      obtain ⟨y0, y1, y2, y3, y4, y5, y6, y7, y8, y9, y10, y11, yz⟩ := cmdAt hbz
      have Hb := Lib.hid hb
      have HzT := Lib.hid hbz
      clear hbp hbz hb hbx
      go_wp2_with fail
      go_region
      go_wp2
      have hres := results_tc (P := Try.prog) (fn := Try.f64) rfl
      refine bodyPost_ret (hres _ _ (w.heap.size + 1) 30 (cmdC (Cm.plain c) A cap) (0, 0) _ rfl (row_drew (cmdPut (c := Cm.plain c) (A := A) (cap := cap) HzT.out)) Try.underlying30 rfl sizeCmd) rfl ⟨A, cap, ?_, ?_, below_drew (cmdBelow Hb.out (by omega))⟩
      · rw [← Hse.out]
        rfl
      · rw [Hpl.out]
        exact HA.out.below (below_drew (cmdBelow Hb.out (by omega)))

theorem bytes_any (c : Cm.Cmd) (hf : Cm.Fits c) (A : Option Addr) (cap : Nat) (w : World) (hA : Lies w A (pc c.parts)) (hn : c.parts.length ≤ 1000000) (hlen : (Cm.bytes c).length ≤ 50000000) :
    Calls Try.prog 64 #[.agg (cmdC c A cap)] w (RetBy c w) := by
  by_cases h1 : c.op = 1
  · exact bytes_1 c hf A cap w hlen h1
  by_cases h2 : c.op = 2
  · exact bytes_2 c hf A cap w hlen h2
  by_cases h3 : c.op = 3
  · exact bytes_3 c hf A cap w hlen h3
  by_cases h4 : c.op = 4
  · exact bytes_4 c hf A cap w hlen h4
  by_cases h5 : c.op = 5
  · exact bytes_5 c hf A cap w hlen h5 hA hn
  by_cases h6 : c.op = 6
  · exact bytes_6 c hf A cap w hlen h6
  by_cases h7 : c.op = 7
  · exact bytes_7 c hf A cap w hlen h7
  by_cases h8 : c.op = 8
  · exact bytes_8 c hf A cap w hlen h8
  by_cases h9 : c.op = 9
  · exact bytes_9 c hf A cap w hlen h9
  exact bytes_0 c hf A cap w hlen (by omega)
end Go.Proofs.Ytlcgjlganmblpaa
