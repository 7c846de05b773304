/-
  CmdWrites walked.
-/
import Derived.Test.YtaebbmhjnhhemaaQLaw
import Derived.Test.YtaebbmhjnhhemaaQOpen
set_option linter.unusedSimpArgs false
set_option linter.unusedVariables false
namespace Go.Proofs.Ytaebbmhjnhhemaa
open Go.RowKit
theorem bytes_small {c : Cm.Cmd} (hf : Cm.Fits c) (h : Cm.Small c) : (Cm.bytes c).length ≤ 10000000 := by
  have g1 := grp_len c.ses hf.ses
  have g2 := grp_len c.seq hf.seq
  have tx : ∀ s : ByteArray, s.size ≤ 3000 → (Cm.txt s).length ≤ 3010 := fun s hs => by
    have := grp_len s.size (by unfold Nm.top; omega)
    have e : s.data.toList.length = s.size := (Lib.size_eq s).symm
    unfold Cm.txt row
    rw [List.length_append, e]; omega
  have hb : (Cm.body c).length ≤ 1000000 := by
    have t1 := tx c.key h.key
    have t2 := tx c.val h.val
    have t3 := tx c.exp h.exp
    have t4 := tx c.frm h.frm
    have t5 := tx c.tto h.tto
    have g3 := grp_len c.ttl hf.ttl
    have g4 := grp_len c.lease hf.lease
    have hp : ∀ ps : List Cm.Part, (∀ p ∈ ps, p.key.size ≤ 3000 ∧ p.val.size ≤ 3000) → (Cm.partsB ps).length ≤ ps.length * 7000 := by
      intro ps
      induction ps with
      | nil => intro _; simp [Cm.partsB]
      | cons p ps ih =>
        intro hh
        have := ih (fun q hq => hh q (by simp [hq]))
        have k1 := tx p.key (hh p (by simp)).1
        have k2 := tx p.val (hh p (by simp)).2
        have e : (Cm.partsB (p :: ps)).length = (Cm.partB p).length + (Cm.partsB ps).length := by simp [Cm.partsB]
        have e2 : (Cm.partB p).length ≤ 7000 := by
          unfold Cm.partB
          split <;> simp only [List.length_append, Cm.one, List.length_singleton, List.length_nil] <;> omega
        rw [e, List.length_cons, Nat.add_mul]; omega
    have h5 := hp c.parts h.parts
    have h6 : c.parts.length * 7000 ≤ 40 * 7000 := Nat.mul_le_mul_right _ h.len
    unfold Cm.body
    repeat' split
    all_goals try simp only [List.length_append, Cm.one, List.length_singleton, List.length_nil]
    all_goals omega
  unfold Cm.bytes Cm.head
  simp only [List.length_append, Cm.one, List.length_singleton]
  omega
set_option maxRecDepth 100000 in
set_option maxHeartbeats 8000000 in
theorem cmdWrites_go (c : Cm.Cmd) (A : Option Addr) (cap : Nat) (w : World) (hA : Lies w A (pc c.parts)) (hf : Cm.Fits c) :
    Calls Try.prog 4 #[.agg (cmdC c A cap)] w fun e w' => e = .returned (.bool true) ∧ Below w.heap.size w w' := by
  have HG : Hid (∀ W, Below w.heap.size w W → _) := Lib.hid fun W hb => great_any c A cap W (hA.below hb)
  have HAw := Lib.hid cmdAwake_any
  have FX := cmdF c A cap
  obtain ⟨X, hX⟩ : ∃ X, X = cmdC c A cap := ⟨_, rfl⟩
  rw [← hX] at FX HG ⊢
  have HX := Lib.hid hX
  have hx := FX.size
  have Hsz : Hid ((Try.prog.info? 27).map (·.size) = some X.size) := Lib.hid (by rw [hx]; exact sizeCmd)
  have Hrow0 := Lib.hid (heap_alloc_new w (.cells X 27))
  clear hX FX
  cases hg : Cm.great c
  case true =>
    rw [hg] at HG
    clear hg
    go_enter Try.func4, Try.ntmps4
    go_wp2_with (refine wpList_load_row rfl 27 _ rfl w.heap.size rfl 27 X (0, 0) _ Hrow0.out Try.underlying27 rfl Hsz.out ?_)
    refine (HG.out _ (bnew (Below.refl _ _) _)).mono ?_
    rintro e w1 ⟨rfl, hb1⟩
    have HB1 := Lib.hid (bnext (bnew (Below.refl _ _) _) hb1)
    clear hb1
    go_wp2_with fail
    refine (HAw.out _).mono ?_
    rintro e w2 ⟨rfl, hb2⟩
    have HB2 := Lib.hid (HB1.out.trans (hb2.mono HB1.out.size))
    clear hb2 HB1
    go_wp2_with fail
    go_ret
    exact ⟨rfl, HB2.out⟩
  case false =>
    rw [hg] at HG
    have hs := Cm.small_of hg
    clear hg
    have HW : Hid (∀ W, Below w.heap.size w W → _) := Lib.hid fun W hb => cmdWrite_any c hf (hs.short hf) A cap W (hA.below hb)
    have HR : Hid (∀ W, Below w.heap.size w W → _) := Lib.hid fun W hb => write_any c hf A cap W (hA.below hb) (by have := hs.len; omega) (by have := bytes_small hf hs; omega)
    have HO : Hid (∀ W, Below w.heap.size w W → _) := Lib.hid fun W hb => cmdOver_any c A cap W (hA.below hb) (by have := hs.len; omega)
    have HP : Hid (∀ W, Below w.heap.size w W → _) := Lib.hid fun W hb => over_any c A cap W (hA.below hb) (by have := hs.len; omega)
    have HK := Lib.hid (asks_any c.op hf.op)
    unfold RetS at HW HR
    generalize (⟨(Cm.write c).toArray⟩ : ByteArray) = y at HW HR
    clear hs
    have hyy : (y.toList == y.toList) = true := by simp
    have h256 := hf.op
    go_enter Try.func4, Try.ntmps4
    go_wp2_with (refine wpList_load_row rfl 27 _ rfl w.heap.size rfl 27 X (0, 0) _ Hrow0.out Try.underlying27 rfl Hsz.out ?_)
    refine (HG.out _ (bnew (Below.refl _ _) _)).mono ?_
    rintro e w1 ⟨rfl, hb1⟩
    have HB1 := Lib.hid (And.intro (bnext (bnew (Below.refl _ _) _) hb1) ((hb1.block _ (by simp)).trans Hrow0.out))
    clear hb1 HG Hsz Hrow0
    go_upto_region 3 with (fail)
    refine forget (fun W => Below w.heap.size w W ∧ W.heap[w.heap.size]? = some (.cells X 27 (0, 0))) HB1.out ?_
    rintro W5 ⟨hb5, hp5⟩
    rw [HX.out] at hp5
    obtain ⟨q0, q1, q2, q3, q4, q5, q6, q7, q8, q9, q10, q11, _⟩ := cmdAt hp5
    have k0 := fun d os => cell_regrown q0 d os
    have k1 := fun d os => cell_regrown q1 d os
    have k2 := fun d os => cell_regrown q2 d os
    have k3 := fun d os => cell_regrown q3 d os
    have k4 := fun d os => cell_regrown q4 d os
    have k5 := fun d os => cell_regrown q5 d os
    have k6 := fun d os => cell_regrown q6 d os
    have k7 := fun d os => cell_regrown q7 d os
    have k8 := fun d os => cell_regrown q8 d os
    have k9 := fun d os => cell_regrown q9 d os
    have k10 := fun d os => cell_regrown q10 d os
    have k11 := fun d os => cell_regrown q11 d os
    have HB5 := Lib.hid hb5
    have HB6 : Hid (∀ d os, Below w.heap.size w (Go.Sort.grow (redrawn W5 d) os)) := Lib.hid fun d os => hb5.trans ((below_regrown W5 d os).mono hb5.size)
    generalize Cm.oversize c = ov at HO HP
    have hoo : (ov == ov) = true := by simp
    clear q0 q1 q2 q3 q4 q5 q6 q7 q8 q9 q10 q11 hb5 hp5 HB1 HX hx
    by_cases o1 : 7 < c.op
    · have i1 : decide ((7 : Int) < (c.op : Int)) = true := by simp; omega
      by_cases o2 : c.op < 12
      · have i2 : decide ((c.op : Int) < 12) = true := by simp; omega
        rw [decide_eq_true ⟨o1, o2⟩] at HK
        cases ov
        · refine wp_region_quiet_below (by kernel_rfl) (by kernel_rfl) ?_
          repeat (go_big_quiet_step ((first | (go_at_call 10; exact Calls.regrown_of (HW.out _ (HB6.out _ _))) | (go_at_call 17; exact Calls.regrown_of (HR.out _ (HB6.out _ _))) | (go_at_call 12; exact Calls.regrown_of (HO.out _ (HB6.out _ _))) | (go_at_call 18; exact Calls.regrown_of (HP.out _ (HB6.out _ _))) | (go_at_call 13; exact Calls.regrown_of ((HK.out _).mono (fun e w' h => ⟨h.1, h.2 ▸ Below.refl _ _⟩))) | (go_at_call 15; exact Calls.regrown_of (HAw.out _)))))
          refine wpQuiet_nil ?_
          intro _ hw'
          obtain ⟨pq, hw''⟩ := hw'
          subst hw''
          have hb1 := HB6.out pq.d pq.os
          go_wp2_with fail
          go_ret
          exact ⟨rfl, hb1⟩
        · refine wp_region_quiet_below (by kernel_rfl) (by kernel_rfl) ?_
          repeat (go_big_quiet_step ((first | (go_at_call 10; exact Calls.regrown_of (HW.out _ (HB6.out _ _))) | (go_at_call 17; exact Calls.regrown_of (HR.out _ (HB6.out _ _))) | (go_at_call 12; exact Calls.regrown_of (HO.out _ (HB6.out _ _))) | (go_at_call 18; exact Calls.regrown_of (HP.out _ (HB6.out _ _))) | (go_at_call 13; exact Calls.regrown_of ((HK.out _).mono (fun e w' h => ⟨h.1, h.2 ▸ Below.refl _ _⟩))) | (go_at_call 15; exact Calls.regrown_of (HAw.out _)))))
          refine wpQuiet_nil ?_
          intro _ hw'
          obtain ⟨pq, hw''⟩ := hw'
          subst hw''
          have hb1 := HB6.out pq.d pq.os
          go_wp2_with fail
          go_ret
          exact ⟨rfl, hb1⟩
      · have i2 : decide ((c.op : Int) < 12) = false := by simp; omega
        rw [decide_eq_false (fun h => o2 h.2)] at HK
        cases ov
        · refine wp_region_quiet_below (by kernel_rfl) (by kernel_rfl) ?_
          repeat (go_big_quiet_step ((first | (go_at_call 10; exact Calls.regrown_of (HW.out _ (HB6.out _ _))) | (go_at_call 17; exact Calls.regrown_of (HR.out _ (HB6.out _ _))) | (go_at_call 12; exact Calls.regrown_of (HO.out _ (HB6.out _ _))) | (go_at_call 18; exact Calls.regrown_of (HP.out _ (HB6.out _ _))) | (go_at_call 13; exact Calls.regrown_of ((HK.out _).mono (fun e w' h => ⟨h.1, h.2 ▸ Below.refl _ _⟩))) | (go_at_call 15; exact Calls.regrown_of (HAw.out _)))))
          refine wpQuiet_nil ?_
          intro _ hw'
          obtain ⟨pq, hw''⟩ := hw'
          subst hw''
          have hb1 := HB6.out pq.d pq.os
          go_wp2_with fail
          go_ret
          exact ⟨rfl, hb1⟩
        · refine wp_region_quiet_below (by kernel_rfl) (by kernel_rfl) ?_
          repeat (go_big_quiet_step ((first | (go_at_call 10; exact Calls.regrown_of (HW.out _ (HB6.out _ _))) | (go_at_call 17; exact Calls.regrown_of (HR.out _ (HB6.out _ _))) | (go_at_call 12; exact Calls.regrown_of (HO.out _ (HB6.out _ _))) | (go_at_call 18; exact Calls.regrown_of (HP.out _ (HB6.out _ _))) | (go_at_call 13; exact Calls.regrown_of ((HK.out _).mono (fun e w' h => ⟨h.1, h.2 ▸ Below.refl _ _⟩))) | (go_at_call 15; exact Calls.regrown_of (HAw.out _)))))
          refine wpQuiet_nil ?_
          intro _ hw'
          obtain ⟨pq, hw''⟩ := hw'
          subst hw''
          have hb1 := HB6.out pq.d pq.os
          go_wp2_with fail
          go_ret
          exact ⟨rfl, hb1⟩
    · have i1 : decide ((7 : Int) < (c.op : Int)) = false := by simp; omega
      rw [decide_eq_false (fun h => o1 h.1)] at HK
      cases ov
      · refine wp_region_quiet_below (by kernel_rfl) (by kernel_rfl) ?_
        repeat (go_big_quiet_step ((first | (go_at_call 10; exact Calls.regrown_of (HW.out _ (HB6.out _ _))) | (go_at_call 17; exact Calls.regrown_of (HR.out _ (HB6.out _ _))) | (go_at_call 12; exact Calls.regrown_of (HO.out _ (HB6.out _ _))) | (go_at_call 18; exact Calls.regrown_of (HP.out _ (HB6.out _ _))) | (go_at_call 13; exact Calls.regrown_of ((HK.out _).mono (fun e w' h => ⟨h.1, h.2 ▸ Below.refl _ _⟩))) | (go_at_call 15; exact Calls.regrown_of (HAw.out _)))))
        refine wpQuiet_nil ?_
        intro _ hw'
        obtain ⟨pq, hw''⟩ := hw'
        subst hw''
        have hb1 := HB6.out pq.d pq.os
        go_wp2_with fail
        go_ret
        exact ⟨rfl, hb1⟩
      · refine wp_region_quiet_below (by kernel_rfl) (by kernel_rfl) ?_
        repeat (go_big_quiet_step ((first | (go_at_call 10; exact Calls.regrown_of (HW.out _ (HB6.out _ _))) | (go_at_call 17; exact Calls.regrown_of (HR.out _ (HB6.out _ _))) | (go_at_call 12; exact Calls.regrown_of (HO.out _ (HB6.out _ _))) | (go_at_call 18; exact Calls.regrown_of (HP.out _ (HB6.out _ _))) | (go_at_call 13; exact Calls.regrown_of ((HK.out _).mono (fun e w' h => ⟨h.1, h.2 ▸ Below.refl _ _⟩))) | (go_at_call 15; exact Calls.regrown_of (HAw.out _)))))
        refine wpQuiet_nil ?_
        intro _ hw'
        obtain ⟨pq, hw''⟩ := hw'
        subst hw''
        have hb1 := HB6.out pq.d pq.os
        go_wp2_with fail
        go_ret
        exact ⟨rfl, hb1⟩
theorem cmdWrites_walk (w : World) (c : Cm.Cmd) (A : Option Addr) (cap : Nat) (h : Given w c A cap) :
    Calls Try.prog 4 #[.agg (cmdC c A cap)] w fun e w' => e = .returned (.bool true) ∧ Below w.heap.size w w' := cmdWrites_go c A cap w h.lies h.fits
end Go.Proofs.Ytaebbmhjnhhemaa
