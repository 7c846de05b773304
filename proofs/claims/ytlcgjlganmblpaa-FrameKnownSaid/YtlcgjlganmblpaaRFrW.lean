/-
  A token's eight cells as a text; a byte as a number of width 1.
  frame.Write walked; its region 4, whose order is open. WRITTEN BY wip/tools/gen_frwrite.py.
  cmd.WriteResult walked, for many rows of short texts.
  frame.WriteReply walked. WRITTEN BY wip/tools/gen_frwreply.py.
-/
import Derived.Test.YtlcgjlganmblpaaRTok
import Derived.Test.YtlcgjlganmblpaaRCmd
import Derived.Test.YtlcgjlganmblpaaRWords
import Derived.Test.YtlcgjlganmblpaaRFrB
import Derived.Test.YtlcgjlganmblpaaRFrA
import Derived.Test.YtlcgjlganmblpaaRNum
import Derived.Test.YtlcgjlganmblpaaRReg
import Derived.Test.YtlcgjlganmblpaaRCall
set_option linter.unusedSimpArgs false
set_option linter.unusedVariables false
namespace Go.Proofs.Ytlcgjlganmblpaa
open Go.RowKit
theorem wid1 (n : Nat) : Nm.wid 1 n = [Nm.b8 (n % 256)] := by simp [Nm.wid]
theorem one_wid (n : Nat) (h : n < 256) : Nm.wid 1 n = Cm.one n := by
  rw [wid1, Nat.mod_eq_of_lt h]; rfl
/-- A token's eight cells, as a text. -/
theorem tok_text (W : World) (g off : Nat) (x : Og.Tk) (h0 : W.cell? ⟨g, off, none⟩ = some (.int .u8 (x.a0.toNat : Int))) (h1 : W.cell? ⟨g, off + 1, none⟩ = some (.int .u8 (x.a1.toNat : Int))) (h2 : W.cell? ⟨g, off + 2, none⟩ = some (.int .u8 (x.a2.toNat : Int))) (h3 : W.cell? ⟨g, off + 3, none⟩ = some (.int .u8 (x.a3.toNat : Int))) (h4 : W.cell? ⟨g, off + 4, none⟩ = some (.int .u8 (x.a4.toNat : Int))) (h5 : W.cell? ⟨g, off + 5, none⟩ = some (.int .u8 (x.a5.toNat : Int))) (h6 : W.cell? ⟨g, off + 6, none⟩ = some (.int .u8 (x.a6.toNat : Int))) (h7 : W.cell? ⟨g, off + 7, none⟩ = some (.int .u8 (x.a7.toNat : Int))) :
    (convert 60 9 (.slice (some ⟨g, off, none⟩) 8 8)).run Try.prog W = .ok (.string ⟨x.l.toArray⟩) W := by
  refine run_convert_bytes_back W 60 9 5 ⟨g, off, none⟩ 8 x.l Try.underlying60 Try.underlying5 Try.underlying9 (fun j hj => ?_)
  have hj : j < 8 := hj
  have : j = 0 ∨ j = 1 ∨ j = 2 ∨ j = 3 ∨ j = 4 ∨ j = 5 ∨ j = 6 ∨ j = 7 := by omega
  rcases this with rfl | rfl | rfl | rfl | rfl | rfl | rfl | rfl
  · exact h0
  · exact h1
  · exact h2
  · exact h3
  · exact h4
  · exact h5
  · exact h6
  · exact h7
end Go.Proofs.Ytlcgjlganmblpaa
namespace Go.Proofs.Ytlcgjlganmblpaa
open Go.RowKit
set_option linter.unusedVariables false
noncomputable def fwr4C : Code := ((Try.f10.body.bind (Reg.findRegion 4)).getD .skip)
set_option maxRecDepth 100000 in
set_option maxHeartbeats 4000000 in
theorem fwr4 {c0 c2 c4 c5 c6 c7 c8 c9 c10 c11 c12 c13 c14 c15 c16 c17 : Value} (f : Fr.F) (g : Nat) (s u k : ByteArray) (w : World) (h0 : w.cell? ⟨g, 0, none⟩ = some (.int .u8 (f.kind : Int))) (hw8 : IntKind.u64.wrap (f.kind : Int) = (f.kind : Int))
   (hU : ∀ W, Calls Try.prog 26 #[.int .u64 (f.kind : Int), .int .i64 1] W fun r w' => r = .returned (.string u) ∧ Below W.heap.size W w')
   (hconv : ∀ W : World, Below w.heap.size w W → (convert 60 9 (.slice (some ⟨g, 1, none⟩) 8 8)).run Try.prog W = .ok (.string k) W)
   (ha : ∀ W : World, (Op.stringOp .add u k).run Try.prog W = .ok (.string (u ++ k)) W) (hb0 : ∀ W : World, (Op.stringOp .add (u ++ k) s).run Try.prog W = .ok (.string (u ++ k ++ s)) W) (Q : Exit → Act → World → Prop)
   (h : ∀ (w' : World), Below w.heap.size w w' → Q .normal ⟨#[c0, .pointer (some ⟨g, 0, none⟩), .string (u ++ k ++ s), .string s, c4, c5, c6, c7, .pointer (some ⟨g, 0, none⟩), .int .u8 (f.kind : Int), .int .u64 (f.kind : Int), .string u, .pointer (some ⟨g, 1, none⟩), .slice (some ⟨g, 1, none⟩) 8 8, .string k, .string (u ++ k), .string s, .string (u ++ k ++ s)], []⟩ w') :
   Code.wp Try.prog fwr4C Q ⟨#[c0, .pointer (some ⟨g, 0, none⟩), c2, .string s, c4, c5, c6, c7, c8, c9, c10, c11, c12, c13, c14, c15, c16, c17], []⟩ w := by
  obtain ⟨L, hL⟩ : ∃ L : Nat → List Value × Nat, L = fun i => match i with  | _ => ([], 0) := ⟨_, rfl⟩
  obtain ⟨Sp, hSp⟩ : ∃ Sp : Nat → Value → World → Prop, Sp = fun i v w => ∃ r, v = .slice (some ⟨r, 0, none⟩) (L i).2 (L i).2 ∧ Lies w (some ⟨r, 0, none⟩) (L i).1 := ⟨_, rfl⟩
  rw [hL] at hSp
  conv => arg 2; whnf
  refine Reg.wp_region_inv (fun w' => Below w.heap.size w w') (fun x y => Below x.heap.size x y) (Reg.KnownI [some (.pointer (some ⟨g, 0, none⟩)), some (.int .u8 (f.kind : Int)), some (.int .u64 (f.kind : Int)), some (.string u), some (.pointer (some ⟨g, 1, none⟩)), some (.slice (some ⟨g, 1, none⟩) 8 8), some (.string k), some (.string (u ++ k)), some (.string s), some (.string (u ++ k ++ s)), some (.string (u ++ k ++ s))] Sp) (by kernel_rfl) (by kernel_rfl) (Reg.knownI_mono ?mono) (Below.refl _ _).drew ?steps ?fin
  case mono =>
    intro i v w w' hs hb
    rw [hSp] at hs ⊢
    obtain ⟨r, hr, hl⟩ := hs
    exact ⟨r, hr, hl.below hb⟩
  case steps =>
    intro hB
    refine ⟨?_, ?_, ?_, ?_, ?_, ?_, ?_, ?_, ?_, ?_, ?_, trivial⟩
    · -- 0: Op.fieldAddr 32 (Operand.tmp 1) 0
      refine Reg.step_run hB (Reg.runs_none rfl) (fun a w1 hI hb hd => ?_)
      have e1 : a.eval (.tmp 1) = .pointer (some ⟨g, 0, none⟩) := hb 1 (by kernel_rfl)
      refine Reg.run_value (v := .pointer (some ⟨g, 0, none⟩)) ?_ rfl (Below.refl _ _) hI
      clear hb hd
      have hc := fun v => Reg.eval_const a v
      have hf := fun f => Reg.eval_func a f
      generalize a.eval = ρ at *
      simp [execOp, go_sem, *]
    · -- 1: Op.load 5 (Operand.tmp 8)
      refine Reg.step_run hB (Reg.runs_none rfl) (fun a w1 hI hb hd => ?_)
      have e8 : a.eval (.tmp 8) = .pointer (some ⟨g, 0, none⟩) := hd 0 8 (by kernel_rfl) (by kernel_rfl)
      have hl := later hI h0
      refine Reg.run_value (v := .int .u8 (f.kind : Int)) ?_ rfl (Below.refl _ _) hI
      clear hb hd
      have hc := fun v => Reg.eval_const a v
      have hf := fun f => Reg.eval_func a f
      generalize a.eval = ρ at *
      simp [execOp, go_sem, *]
    · -- 2: Op.convert 5 27 (Operand.tmp 9)
      refine Reg.step_run hB (Reg.runs_none rfl) (fun a w1 hI hb hd => ?_)
      have e9 : a.eval (.tmp 9) = .int .u8 (f.kind : Int) := hd 1 9 (by kernel_rfl) (by kernel_rfl)
      refine Reg.run_value (v := .int .u64 (f.kind : Int)) ?_ rfl (Below.refl _ _) hI
      clear hb hd
      have hc := fun v => Reg.eval_const a v
      have hf := fun f => Reg.eval_func a f
      generalize a.eval = ρ at *
      simp [execOp, go_sem, hw8, *]
    · -- 3: Op.call { callee := Callee.value (Operand.func 26), args := #[Operand.tmp 10, Operand.const (Value.i
      refine Reg.step_run hB (Reg.runs_none rfl) (fun a w1 hI hb hd => ?_)
      have e10 : a.eval (.tmp 10) = .int .u64 (f.kind : Int) := hd 2 10 (by kernel_rfl) (by kernel_rfl)
      refine Reg.run_call (f := 26) (args := #[.int .u64 (f.kind : Int), .int .i64 1]) ?_ (hU w1) (fun _ _ => rfl) (fun _ h => bnext hI h)
      clear hb hd
      have hc := fun v => Reg.eval_const a v
      have hf := fun f => Reg.eval_func a f
      generalize a.eval = ρ at *
      simp [go_sem, *]
    · -- 4: Op.fieldAddr 32 (Operand.tmp 1) 1
      refine Reg.step_run hB (Reg.runs_none rfl) (fun a w1 hI hb hd => ?_)
      have e1 : a.eval (.tmp 1) = .pointer (some ⟨g, 0, none⟩) := hb 1 (by kernel_rfl)
      refine Reg.run_value (v := .pointer (some ⟨g, 1, none⟩)) ?_ rfl (Below.refl _ _) hI
      clear hb hd
      have hc := fun v => Reg.eval_const a v
      have hf := fun f => Reg.eval_func a f
      generalize a.eval = ρ at *
      simp [execOp, go_sem, *]
    · -- 5: Op.slice 23 (Operand.tmp 12) none none none
      refine Reg.step_run hB (Reg.runs_none rfl) (fun a w1 hI hb hd => ?_)
      have e12 : a.eval (.tmp 12) = .pointer (some ⟨g, 1, none⟩) := hd 4 12 (by kernel_rfl) (by kernel_rfl)
      refine Reg.run_value (v := .slice (some ⟨g, 1, none⟩) 8 8) ?_ rfl (Below.refl _ _) hI
      clear hb hd
      have hc := fun v => Reg.eval_const a v
      have hf := fun f => Reg.eval_func a f
      generalize a.eval = ρ at *
      simp [execOp, go_sem, Try.underlying23, *]
    · -- 6: Op.convert 60 9 (Operand.tmp 13)
      refine Reg.step_run hB (Reg.runs_none rfl) (fun a w1 hI hb hd => ?_)
      have e13 : a.eval (.tmp 13) = .slice (some ⟨g, 1, none⟩) 8 8 := hd 5 13 (by kernel_rfl) (by kernel_rfl)
      have hcv := hconv w1 hI
      refine Reg.run_value (v := .string k) ?_ rfl (Below.refl _ _) hI
      clear hb hd
      have hc := fun v => Reg.eval_const a v
      have hf := fun f => Reg.eval_func a f
      generalize a.eval = ρ at *
      simp [execOp, go_sem, *]
    · -- 7: Op.binOp BinOp.add 9 (Operand.tmp 11) (Operand.tmp 14) 9
      refine Reg.step_run hB (Reg.runs_none rfl) (fun a w1 hI hb hd => ?_)
      have e11 : a.eval (.tmp 11) = .string u := hd 3 11 (by kernel_rfl) (by kernel_rfl)
      have e14 : a.eval (.tmp 14) = .string k := hd 6 14 (by kernel_rfl) (by kernel_rfl)
      have ha2 := ha w1
      refine Reg.run_value (v := .string (u ++ k)) ?_ rfl (Below.refl _ _) hI
      clear hb hd
      have hc := fun v => Reg.eval_const a v
      have hf := fun f => Reg.eval_func a f
      generalize a.eval = ρ at *
      simp [execOp, go_sem, *]
    · -- 8: Op.move (Operand.tmp 3)
      refine Reg.step_run hB (Reg.runs_none rfl) (fun a w1 hI hb hd => ?_)
      have e3 : a.eval (.tmp 3) = .string s := hb 3 (by kernel_rfl)
      exact Reg.run_value (Reg.run_move rfl e3) rfl (Below.refl _ _) hI
    · -- 9: Op.binOp BinOp.add 9 (Operand.tmp 15) (Operand.tmp 16) 9
      refine Reg.step_run hB (Reg.runs_none rfl) (fun a w1 hI hb hd => ?_)
      have e15 : a.eval (.tmp 15) = .string (u ++ k) := hd 7 15 (by kernel_rfl) (by kernel_rfl)
      have e16 : a.eval (.tmp 16) = .string s := hd 8 16 (by kernel_rfl) (by kernel_rfl)
      have ha2 := hb0 w1
      refine Reg.run_value (v := .string (u ++ k ++ s)) ?_ rfl (Below.refl _ _) hI
      clear hb hd
      have hc := fun v => Reg.eval_const a v
      have hf := fun f => Reg.eval_func a f
      generalize a.eval = ρ at *
      simp [execOp, go_sem, *]
    · -- 10: Op.assign (Operand.tmp 17)
      refine Reg.step_run hB (Reg.runs_none rfl) (fun a w1 hI hb hd => ?_)
      have e17 : a.eval (.tmp 17) = .string (u ++ k ++ s) := hd 9 17 (by kernel_rfl) (by kernel_rfl)
      exact Reg.run_value (Reg.run_assign rfl e17) rfl (Below.refl _ _) hI
  case fin =>
    intro vals w' hI hg
    have g0 : vals 0 = .pointer (some ⟨g, 0, none⟩) := hg 0 (by simp)
    have g1 : vals 1 = .int .u8 (f.kind : Int) := hg 1 (by simp)
    have g2 : vals 2 = .int .u64 (f.kind : Int) := hg 2 (by simp)
    have g3 : vals 3 = .string u := hg 3 (by simp)
    have g4 : vals 4 = .pointer (some ⟨g, 1, none⟩) := hg 4 (by simp)
    have g5 : vals 5 = .slice (some ⟨g, 1, none⟩) 8 8 := hg 5 (by simp)
    have g6 : vals 6 = .string k := hg 6 (by simp)
    have g7 : vals 7 = .string (u ++ k) := hg 7 (by simp)
    have g8 : vals 8 = .string s := hg 8 (by simp)
    have g9 : vals 9 = .string (u ++ k ++ s) := hg 9 (by simp)
    have g10 : vals 10 = .string (u ++ k ++ s) := hg 10 (by simp)
    refine Reg.fin_of (y := #[c0, .pointer (some ⟨g, 0, none⟩), vals 10, .string s, c4, c5, c6, c7, vals 0, vals 1, vals 2, vals 3, vals 4, vals 5, vals 6, vals 7, vals 8, vals 9]) (by kernel_rfl) ?_
    rw [g0, g1, g2, g3, g4, g5, g6, g7, g8, g9, g10]
    exact h w' hI
theorem cw_len {f : Fr.F} (hb : (Cm.bytes f.cmd).length ≤ 50000000) : (Fr.cw f).length ≤ 50000000 := by
  unfold Fr.cw Fr.ow Cm.write
  repeat' split
  all_goals first | (simp only [List.length_nil]; omega) | exact hb | (rename_i hm; have := Fr.oenc_len hm; omega)
theorem u_one (n : Nat) (h : n < 256) (W : World) : Calls Try.prog 26 #[.int .u64 (n : Int), .int .i64 1] W fun r w' => r = .returned (.string ⟨(Cm.one n).toArray⟩) ∧ Below W.heap.size W w' := by
  have := U_any n 1 W (by omega) (by omega)
  unfold RetS at this
  rw [one_wid _ h] at this; exact this
set_option maxRecDepth 100000 in
set_option maxHeartbeats 4000000 in
theorem fwrite_any (f : Fr.F) (hf : Fr.Fits f) (hz : Short f.cmd) (hb : (Cm.bytes f.cmd).length ≤ 50000000) (A : Option Addr) (cap : Nat) (w : World) (hA : Lies w A (pc f.cmd.parts)) : Calls Try.prog 10 #[.agg (frC f A cap)] w (RetS (Fr.write f) w) := by
  have hC : ∀ W, Below w.heap.size w W → _ := fun W hb => fcmd_any f hf hz A cap W (hA.below hb)
  unfold RetS at hC ⊢
  have HC := Lib.hid hC
  obtain ⟨u, hu⟩ : ∃ u : ByteArray, u = ⟨(Cm.one f.kind).toArray⟩ := ⟨_, rfl⟩
  obtain ⟨k, hk⟩ : ∃ k : ByteArray, k = ⟨f.tok.l.toArray⟩ := ⟨_, rfl⟩
  obtain ⟨s, hs⟩ : ∃ s : ByteArray, s = ⟨(Fr.cw f).toArray⟩ := ⟨_, rfl⟩
  have zu : u.size = 1 := by rw [hu]; rfl
  have zk : k.size = 8 := by rw [hk]; rfl
  have zs : s.size ≤ 50000000 := by rw [hs, Lib.size_eq]; exact cw_len hb
  have hU := fun W => u_one f.kind hf.kind W
  rw [← hu] at hU
  have HU := Lib.hid hU
  have wk8 : IntKind.u64.wrap (f.kind : Int) = (f.kind : Int) := wrap_u64_nat _ (by have := hf.kind; unfold Nm.top; omega)
  have Wk8 := Lib.hid wk8
  have ha1 : ∀ W : World, (Op.stringOp .add u k).run Try.prog W = .ok (.string (u ++ k)) W := fun W => run_string_add_sum W _ _ (by omega)
  have ha2 : ∀ W : World, (Op.stringOp .add (u ++ k) s).run Try.prog W = .ok (.string (u ++ k ++ s)) W := fun W => run_string_add_sum W _ _ (by simp only [ByteArray.size_append]; omega)
  have A1 := Lib.hid ha1
  have A2 := Lib.hid ha2
  have HK := Lib.hid hk
  obtain ⟨X, hX⟩ : ∃ X, X = frC f A cap := ⟨_, rfl⟩
  have hsz : (Try.prog.info? 32).map (·.size) = some X.size := by rw [hX]; exact sizeFrC f A cap
  rw [← hX] at HC ⊢
  have HX := Lib.hid hX
  have Hsz := Lib.hid hsz
  have Hrow := Lib.hid (heap_alloc_new w (.cells X 32))
  have HB0 : Hid (Below w.heap.size w (w.alloc (.cells X 32))) := Lib.hid (bnew (Below.refl _ _) _)
  by_cases hc : Fr.cw f = []
  · have E : Hid (Fr.write f = []) := Lib.hid (by unfold Fr.write; rw [if_pos hc])
    have Hc := Lib.hid hc
    clear hc hX hsz hs hU wk8 ha1 ha2 hk hu zu zk zs hf hz hb hA hC
    go_enter Try.func10, Try.ntmps10
    go_wp2_with (refine wpList_load_row rfl 32 _ rfl w.heap.size rfl 32 X (0, 0) _ Hrow.out Try.underlying32 rfl Hsz.out ?_)
    refine (HC.out _ HB0.out).mono ?_
    rw [Hc.out]
    rintro e w1 ⟨rfl, hb1⟩
    have HB1 := Lib.hid (bnext HB0.out hb1)
    clear hb1
    go_wp2_with fail
    go_ret
    exact ⟨by rw [E.out]; rfl, HB1.out⟩
  have E : Hid ((⟨(Fr.write f).toArray⟩ : ByteArray) = u ++ k ++ s) := Lib.hid (by
    unfold Fr.write Fr.head; rw [if_neg hc, hu, hk, hs]; simp [ByteArray.mk_append_mk])
  have hse : s.toList.isEmpty = false := by
    rw [body_empty, hs, Lib.size_eq]
    simpa using hc
  rw [← hs] at HC
  clear hc hX hsz hs hU wk8 ha1 ha2 hk hu zu zk zs hf hz hb hA hC
  go_enter Try.func10, Try.ntmps10
  go_wp2_with (refine wpList_load_row rfl 32 _ rfl w.heap.size rfl 32 X (0, 0) _ Hrow.out Try.underlying32 rfl Hsz.out ?_)
  refine (HC.out _ HB0.out).mono ?_
  rintro e w1 ⟨rfl, hb1⟩
  go_upto_region 4 with (fail)
  refine forget (fun W => Below w.heap.size w W ∧ W.heap[w.heap.size]? = some (.cells X 32 (0, 0))) ⟨bnext HB0.out hb1, (hb1.block _ (by simp)).trans Hrow.out⟩ ?_
  rintro W1 ⟨hbW, hrow⟩
  have HW1 := Lib.hid hbW
  rw [HX.out] at hrow
  have EA := frAt hrow
  obtain ⟨g, hg⟩ : ∃ g, g = w.heap.size := ⟨_, rfl⟩
  rw [← hg] at EA ⊢
  clear hb1 hbW hrow hg
  refine fwr4 f g s u k W1 EA.c0 Wk8.out HU.out (fun W hb => ?_) A1.out A2.out _ ?_
  · rw [HK.out]
    exact tok_text W g 1 f.tok (later hb EA.c1) (later hb EA.c2) (later hb EA.c3) (later hb EA.c4) (later hb EA.c5) (later hb EA.c6) (later hb EA.c7) (later hb EA.c8)
  intro W2 hb2
  have HB2 := Lib.hid (bnext HW1.out hb2)
  clear hb2 EA
  go_wp2_with fail
  go_ret
  exact ⟨by rw [E.out]; rfl, HB2.out⟩
end Go.Proofs.Ytlcgjlganmblpaa
namespace Go.Proofs.Ytlcgjlganmblpaa
open Go.RowKit
set_option maxRecDepth 100000 in
set_option maxHeartbeats 2000000 in
theorem cmdWriteRes_gen (N M : Nat) (hNM : N * (M + M + 30) ≤ 600000000) (hM : M ≤ 100000) (hN : N ≤ 1000000) (r : Rs.Res) (hf : RFits r) (hv : r.val.size ≤ 100000) (hxl : r.rows.length ≤ N) (hfit : ∀ p ∈ r.rows, p.key.size ≤ M ∧ p.val.size ≤ M) (A : Option Addr) (cap : Nat) (w : World) (hA : Lies w A (rc r.rows)) :
    Calls Try.prog 29 #[.agg #[.int .u8 (r.code : Int), .int .u64 (r.n : Int), .string r.val, .slice A r.rows.length cap]] w (RetS (Rs.bytes r) w) := by
  have hl : r.rows.length < Nm.top := by unfold Nm.top; omega
  have hpre := Wk.wpre r hf.code hf.n hl
  have hres := Wk.wres r hf.code hf.n hl hf.rows
  have hW0 : ∀ a : Obj, WrAt (w.heap.size + 1) ((w.alloc a).alloc (.cells #[.pointer none, .slice none 0 0, .bool false] 100)) (w.heap.size + 1) none ⟨[], false⟩ := fun a => by
    have := WrAt.new (w.alloc a)
    rw [World.size_alloc] at this
    exact this
  have hbnd : (Cm.one r.code ++ Nm.grp r.n ++ Cm.txt r.val ++ Nm.grp r.rows.length).length ≤ 200000 := by
    have h1 := grp_len r.n hf.n
    have h2 := grp_len r.rows.length hl
    have h3 := grp_len r.val.size (by unfold Nm.top; omega)
    have h4 : r.val.data.toList.length = r.val.size := (Lib.size_eq _).symm
    simp only [List.length_append, Cm.one, Cm.txt, row, List.length_singleton]
    rw [h4]; omega
  have hwc := wres_any (wrK (w.heap.size + 1)) _ _ _ _ r A cap (hW0 (.cells (resC r A cap) 37)) (by simp) (hA.below (bnew (bnew (Below.refl _ _) _) _)) (fun b off e hne => by
    rcases hA with h | ⟨b2, off2, e2, hb, _⟩
    · exfalso; have := rc_length r.rows; rw [h] at this; exact hne (List.eq_nil_of_length_eq_zero (by simp at this; omega))
    · rw [e2] at e; injection e with e; injection e with e _; omega) hf hv (by omega) (fun p hp => ⟨by have := (hfit p hp).1; omega, by have := (hfit p hp).2; omega⟩)
    (fun k s => s.l.length ≤ 200000 + k * (M + M + 30) ∧ k ≤ N) (by rw [hpre]; exact ⟨by simpa using hbnd, by omega⟩)
    (fun k s1 hk hk2 _ => by
      rw [hpre] at hk2
      simp only at hk2
      have hp : ((r.rows.drop k).headD Wk.zeroR).ver < Nm.top ∧ ((r.rows.drop k).headD Wk.zeroR).key.size ≤ M ∧ ((r.rows.drop k).headD Wk.zeroR).val.size ≤ M := by
        rcases hd : r.rows.drop k with _ | ⟨q, rr⟩
        · exact ⟨by simp [Wk.zeroR, Nm.top], Nat.zero_le _, Nat.zero_le _⟩
        · have hm : q ∈ r.rows := List.mem_of_mem_drop (i := k) (by rw [hd]; simp)
          exact ⟨hf.rows q hm, hfit q hm⟩
      have := Wk.wA.row_len s1 _ hp.1 (by unfold Nm.top; omega) (by unfold Nm.top; omega)
      refine ⟨?_, by omega⟩
      have e : (k + 1) * (M + M + 30) = k * (M + M + 30) + (M + M + 30) := Nat.succ_mul _ _
      rw [e]; omega)
    (fun k s hk => ⟨by have : k * (M + M + 30) ≤ N * (M + M + 30) := Nat.mul_le_mul_right _ hk.2; omega, by omega⟩)
  rw [hres] at hwc
  simp only at hwc
  have Hwc := Lib.hid hwc
  clear hwc hW0 hpre hres hbnd
  go_enter Try.func29, Try.ntmps29
  go_wp2_with fail
  refine Hwc.out.mono ?_
  rintro e w1 ⟨Au, cu, o1, rfl, hMd⟩
  have hbT : Below w.heap.size w w1 := hMd.below (w := w) (C := w.heap.size) (bnew (bnew (Below.refl _ _) _) _) (by simp; omega) (by omega) rfl
  have hA1 : WrAt (w.heap.size + 1) w1 (w.heap.size + 1) o1 ⟨Rs.bytes r, false⟩ := hMd.at_
  have Hen := Lib.hid (wenc_any _ w1 _ _ _ hA1 (fun _ => by simp [Rs.bytes, Cm.one]))
  have HbT := Lib.hid hbT
  clear hMd hA1 hbT
  go_wp2_with fail
  refine Hen.out.mono ?_
  rintro e w4 ⟨rfl, hb4⟩
  have Hb4 := Lib.hid hb4
  clear hb4
  go_wp2_with fail
  go_ret
  refine ⟨rfl, HbT.out.trans (Hb4.out.mono (by omega))⟩
end Go.Proofs.Ytlcgjlganmblpaa
namespace Go.Proofs.Ytlcgjlganmblpaa
open Go.RowKit
set_option linter.unusedVariables false
/-- What the walk keeps of a reply's row. -/
structure RpS (w W : World) (g : Nat) (r : Fr.R) (A : Option Addr) (cap : Nat) : Prop where
  b : Below w.heap.size w W
  row : W.heap[g]? = some (.cells (rpC r A cap) 39 (0, 0))
theorem RpS.lt {w W : World} {g : Nat} {r : Fr.R} {A : Option Addr} {cap : Nat} (h : RpS w W g r A cap) : g < W.heap.size := (Array.getElem?_eq_some_iff.1 h.row).1
theorem RpS.grow {w W W' : World} {g : Nat} {r : Fr.R} {A : Option Addr} {cap : Nat} (h : RpS w W g r A cap) (hb : Below W.heap.size W W') : RpS w W' g r A cap :=
  ⟨bnext h.b hb, (hb.block _ h.lt).trans h.row⟩
theorem RpS.new {w W : World} {g : Nat} {r : Fr.R} {A : Option Addr} {cap : Nat} (h : RpS w W g r A cap) (o : Obj) : RpS w (W.alloc o) g r A cap := h.grow (bnew (Below.refl _ _) _)
theorem RpS.at {w W : World} {g : Nat} {r : Fr.R} {A : Option Addr} {cap : Nat} (h : RpS w W g r A cap) : RpAt W g r A cap := rpAt h.row
theorem v_two (a b : Nat) (ha : a < Nm.top) (hb : b < Nm.top) (A : Option Addr) (W : World) (h : Lies W A (uc [a, b])) : Calls Try.prog 28 #[.slice A 2 2] W fun r w' => r = .returned (.string ⟨(Nm.grp a ++ Nm.grp b).toArray⟩) ∧ Below W.heap.size W w' := by
  have := V_any [a, b] (fun n hn => by simp at hn; rcases hn with rfl | rfl; exact ha; exact hb) A 2 W h (by simp)
  unfold RetS at this
  rw [show vs [a, b] = Nm.grp a ++ Nm.grp b by simp [vs]] at this
  exact this
set_option maxRecDepth 100000 in
set_option maxHeartbeats 4000000 in
theorem fwreply_any (r : Fr.R) (hf : Fr.RFit r) (hz : (Rs.bytes r.res).length ≤ 100000000) (A : Option Addr) (cap : Nat) (w : World)
    (hRes : ∀ W, Below w.heap.size w W → Calls Try.prog 29 #[.agg (resC r.res A cap)] W (RetS (Rs.bytes r.res) W)) : Calls Try.prog 11 #[.agg (rpC r A cap)] w (RetS (Fr.rwrite r) w) := by
  unfold RetS at hRes ⊢
  have hR := fun W => fright_any r A cap W
  unfold RetTr at hR
  have HR := Lib.hid hR
  unfold resC at hRes
  obtain ⟨u, hu⟩ : ∃ u : ByteArray, u = ⟨(Cm.one r.kind).toArray⟩ := ⟨_, rfl⟩
  obtain ⟨v, hv⟩ : ∃ u : ByteArray, u = ⟨(Nm.grp r.ses ++ Nm.grp r.seq).toArray⟩ := ⟨_, rfl⟩
  obtain ⟨d, hd⟩ : ∃ u : ByteArray, u = ⟨(Cm.one r.lead).toArray⟩ := ⟨_, rfl⟩
  obtain ⟨q, hq⟩ : ∃ u : ByteArray, u = ⟨(Rs.bytes r.res).toArray⟩ := ⟨_, rfl⟩
  have zu : u.size = 1 := by rw [hu]; rfl
  have zd : d.size = 1 := by rw [hd]; rfl
  have zv : v.size ≤ 20 := by
    rw [hv, Lib.size_eq]
    have := grp_len r.ses hf.ses
    have := grp_len r.seq hf.seq
    simp only [List.length_append]; omega
  have zq : q.size ≤ 100000000 := by rw [hq, Lib.size_eq]; exact hz
  have hU := fun W => u_one r.kind hf.kind W
  have hD := fun W => u_one r.lead hf.lead W
  have hV := v_two r.ses r.seq hf.ses hf.seq
  rw [← hu] at hU
  rw [← hd] at hD
  rw [← hv] at hV
  rw [← hq] at hRes
  have HU := Lib.hid hU
  have HD := Lib.hid hD
  have HV := Lib.hid hV
  have HQ := Lib.hid hRes
  have wk8 : IntKind.u64.wrap (r.kind : Int) = (r.kind : Int) := wrap_u64_nat _ (by have := hf.kind; unfold Nm.top; omega)
  have wl8 : IntKind.u64.wrap (r.lead : Int) = (r.lead : Int) := wrap_u64_nat _ (by have := hf.lead; unfold Nm.top; omega)
  have ha1 : ∀ W : World, (Op.stringOp .add u v).run Try.prog W = .ok (.string (u ++ v)) W := fun W => run_string_add_sum W _ _ (by omega)
  have ha2 : ∀ W : World, (Op.stringOp .add (u ++ v) d).run Try.prog W = .ok (.string (u ++ v ++ d)) W := fun W => run_string_add_sum W _ _ (by simp only [ByteArray.size_append]; omega)
  have ha3 : ∀ W : World, (Op.stringOp .add (u ++ v) q).run Try.prog W = .ok (.string (u ++ v ++ q)) W := fun W => run_string_add_sum W _ _ (by simp only [ByteArray.size_append]; omega)
  have HE : Fr.right r = true → (⟨(Fr.rwrite r).toArray⟩ : ByteArray) = if r.kind = 1 then u else if r.kind = 3 then u ++ v ++ d else if r.kind = 6 then u ++ v ++ q else u ++ v := fun h => by
    unfold Fr.rwrite; rw [if_pos h]; unfold Fr.bytes Fr.tail
    repeat' split
    all_goals (rw [hu]; try rw [hv]
               try rw [hd]
               try rw [hq]
               simp [ByteArray.mk_append_mk])
  obtain ⟨X, hX⟩ : ∃ X, X = rpC r A cap := ⟨_, rfl⟩
  have hsz : (Try.prog.info? 39).map (·.size) = some X.size := by rw [hX]; exact sizeRpC r A cap
  rw [← hX] at HR ⊢
  have Hsz := Lib.hid hsz
  have Hrow := Lib.hid (heap_alloc_new w (.cells X 39))
  have S0 : RpS w (w.alloc (.cells X 39)) w.heap.size r A cap := ⟨bnew (Below.refl _ _) _, by rw [← hX]; exact Hrow.out⟩
  have HS0 := Lib.hid S0
  clear S0 hX hsz hu hv hd hq hU hD hV hRes zu zd zv zq hR hf hz
  rcases hr : Fr.right r with _ | _
  · have E : Hid (Fr.rwrite r = []) := Lib.hid (by unfold Fr.rwrite; rw [hr]; rfl)
    have Hr := Lib.hid hr
    clear hr HE ha1 ha2 ha3
    go_enter Try.func11, Try.ntmps11
    go_wp2_with (refine wpList_load_row rfl 39 _ rfl w.heap.size rfl 39 X (0, 0) _ Hrow.out Try.underlying39 rfl Hsz.out ?_)
    refine (HR.out _).mono ?_
    rw [Hr.out]
    rintro e w1 ⟨rfl, hb1⟩
    have HS1 := Lib.hid (HS0.out.grow hb1)
    clear hb1
    go_wp2_with fail
    go_ret
    exact ⟨by rw [E.out]; rfl, HS1.out.b⟩
  have HE' := HE hr
  have Hr := Lib.hid hr
  clear hr HE
  by_cases k1 : r.kind = 1
  case pos =>
    have e1 : ((r.kind : Int) == 1) = true := kd_t k1
    have E : Hid ((⟨(Fr.rwrite r).toArray⟩ : ByteArray) = u) := Lib.hid (by rw [HE']; simp [k1])
    clear HE' k1
    go_enter Try.func11, Try.ntmps11
    go_wp2_with (refine wpList_load_row rfl 39 _ rfl w.heap.size rfl 39 X (0, 0) _ Hrow.out Try.underlying39 rfl Hsz.out ?_)
    refine (HR.out _).mono ?_
    rw [Hr.out]
    rintro e w1 ⟨rfl, hb1⟩
    have HS1 := Lib.hid (HS0.out.grow hb1)
    clear hb1
    have c0_HS1 := HS1.out.at.c0
    have c1_HS1 := HS1.out.at.c1
    have c2_HS1 := HS1.out.at.c2
    have c3_HS1 := HS1.out.at.c3
    have c4_HS1 := HS1.out.at.c4
    have c5_HS1 := HS1.out.at.c5
    have c6_HS1 := HS1.out.at.c6
    have c7_HS1 := HS1.out.at.c7
    go_wp2_with fail
    refine (HU.out _).mono ?_
    rintro e w2 ⟨rfl, hb⟩
    have HS2 := Lib.hid (HS1.out.grow hb)
    clear hb
    clear c0_HS1 c1_HS1 c2_HS1 c3_HS1 c4_HS1 c5_HS1 c6_HS1 c7_HS1
    have c0_HS2 := HS2.out.at.c0
    have c1_HS2 := HS2.out.at.c1
    have c2_HS2 := HS2.out.at.c2
    have c3_HS2 := HS2.out.at.c3
    have c4_HS2 := HS2.out.at.c4
    have c5_HS2 := HS2.out.at.c5
    have c6_HS2 := HS2.out.at.c6
    have c7_HS2 := HS2.out.at.c7
    go_wp2_with fail
    go_ret
    exact ⟨by rw [E.out]; rfl, HS2.out.b⟩
  by_cases k3 : r.kind = 3
  case pos =>
    have e1 : ((r.kind : Int) == 1) = false := kd_f k1
    have e3 : ((r.kind : Int) == 3) = true := kd_t k3
    have E : Hid ((⟨(Fr.rwrite r).toArray⟩ : ByteArray) = u ++ v ++ d) := Lib.hid (by rw [HE']; simp [k1, k3])
    clear HE' k1 k3
    go_enter Try.func11, Try.ntmps11
    go_wp2_with (refine wpList_load_row rfl 39 _ rfl w.heap.size rfl 39 X (0, 0) _ Hrow.out Try.underlying39 rfl Hsz.out ?_)
    refine (HR.out _).mono ?_
    rw [Hr.out]
    rintro e w1 ⟨rfl, hb1⟩
    have HS1 := Lib.hid (HS0.out.grow hb1)
    clear hb1
    have c0_HS1 := HS1.out.at.c0
    have c1_HS1 := HS1.out.at.c1
    have c2_HS1 := HS1.out.at.c2
    have c3_HS1 := HS1.out.at.c3
    have c4_HS1 := HS1.out.at.c4
    have c5_HS1 := HS1.out.at.c5
    have c6_HS1 := HS1.out.at.c6
    have c7_HS1 := HS1.out.at.c7
    go_wp2_with fail
    refine (HU.out _).mono ?_
    rintro e w2 ⟨rfl, hb⟩
    have HS2 := Lib.hid (HS1.out.grow hb)
    clear hb
    clear c0_HS1 c1_HS1 c2_HS1 c3_HS1 c4_HS1 c5_HS1 c6_HS1 c7_HS1
    have c0_HS2 := HS2.out.at.c0
    have c1_HS2 := HS2.out.at.c1
    have c2_HS2 := HS2.out.at.c2
    have c3_HS2 := HS2.out.at.c3
    have c4_HS2 := HS2.out.at.c4
    have c5_HS2 := HS2.out.at.c5
    have c6_HS2 := HS2.out.at.c6
    have c7_HS2 := HS2.out.at.c7
    go_wp2_with fail
    refine (HV.out _ _ (Lies.at_ _ [.int .u64 (r.ses : Int), .int .u64 (r.seq : Int)] _ _ rfl)).mono ?_
    rintro e w3 ⟨rfl, hb⟩
    have HS3 := Lib.hid ((HS2.out.new _).grow hb)
    clear hb
    clear c0_HS2 c1_HS2 c2_HS2 c3_HS2 c4_HS2 c5_HS2 c6_HS2 c7_HS2
    have c0_HS3 := HS3.out.at.c0
    have c1_HS3 := HS3.out.at.c1
    have c2_HS3 := HS3.out.at.c2
    have c3_HS3 := HS3.out.at.c3
    have c4_HS3 := HS3.out.at.c4
    have c5_HS3 := HS3.out.at.c5
    have c6_HS3 := HS3.out.at.c6
    have c7_HS3 := HS3.out.at.c7
    go_wp2_with fail
    refine (HD.out _).mono ?_
    rintro e w4 ⟨rfl, hb⟩
    have HS4 := Lib.hid (HS3.out.grow hb)
    clear hb
    go_wp2_with fail
    go_ret
    exact ⟨by rw [E.out]; rfl, HS4.out.b⟩
  by_cases k6 : r.kind = 6
  case pos =>
    have e1 : ((r.kind : Int) == 1) = false := kd_f k1
    have e3 : ((r.kind : Int) == 3) = false := kd_f k3
    have e6 : ((r.kind : Int) == 6) = true := kd_t k6
    have E : Hid ((⟨(Fr.rwrite r).toArray⟩ : ByteArray) = u ++ v ++ q) := Lib.hid (by rw [HE']; simp [k1, k3, k6])
    clear HE' k1 k3 k6
    go_enter Try.func11, Try.ntmps11
    go_wp2_with (refine wpList_load_row rfl 39 _ rfl w.heap.size rfl 39 X (0, 0) _ Hrow.out Try.underlying39 rfl Hsz.out ?_)
    refine (HR.out _).mono ?_
    rw [Hr.out]
    rintro e w1 ⟨rfl, hb1⟩
    have HS1 := Lib.hid (HS0.out.grow hb1)
    clear hb1
    have c0_HS1 := HS1.out.at.c0
    have c1_HS1 := HS1.out.at.c1
    have c2_HS1 := HS1.out.at.c2
    have c3_HS1 := HS1.out.at.c3
    have c4_HS1 := HS1.out.at.c4
    have c5_HS1 := HS1.out.at.c5
    have c6_HS1 := HS1.out.at.c6
    have c7_HS1 := HS1.out.at.c7
    go_wp2_with fail
    refine (HU.out _).mono ?_
    rintro e w2 ⟨rfl, hb⟩
    have HS2 := Lib.hid (HS1.out.grow hb)
    clear hb
    clear c0_HS1 c1_HS1 c2_HS1 c3_HS1 c4_HS1 c5_HS1 c6_HS1 c7_HS1
    have c0_HS2 := HS2.out.at.c0
    have c1_HS2 := HS2.out.at.c1
    have c2_HS2 := HS2.out.at.c2
    have c3_HS2 := HS2.out.at.c3
    have c4_HS2 := HS2.out.at.c4
    have c5_HS2 := HS2.out.at.c5
    have c6_HS2 := HS2.out.at.c6
    have c7_HS2 := HS2.out.at.c7
    go_wp2_with fail
    refine (HV.out _ _ (Lies.at_ _ [.int .u64 (r.ses : Int), .int .u64 (r.seq : Int)] _ _ rfl)).mono ?_
    rintro e w3 ⟨rfl, hb⟩
    have HS3 := Lib.hid ((HS2.out.new _).grow hb)
    clear hb
    clear c0_HS2 c1_HS2 c2_HS2 c3_HS2 c4_HS2 c5_HS2 c6_HS2 c7_HS2
    have c0_HS3 := HS3.out.at.c0
    have c1_HS3 := HS3.out.at.c1
    have c2_HS3 := HS3.out.at.c2
    have c3_HS3 := HS3.out.at.c3
    have c4_HS3 := HS3.out.at.c4
    have c5_HS3 := HS3.out.at.c5
    have c6_HS3 := HS3.out.at.c6
    have c7_HS3 := HS3.out.at.c7
    go_wp2_with fail
    refine (HQ.out _ HS3.out.b).mono ?_
    rintro e w4 ⟨rfl, hb⟩
    have HS4 := Lib.hid (HS3.out.grow hb)
    clear hb
    go_wp2_with fail
    go_ret
    exact ⟨by rw [E.out]; rfl, HS4.out.b⟩
  have e1 : ((r.kind : Int) == 1) = false := kd_f k1
  have e3 : ((r.kind : Int) == 3) = false := kd_f k3
  have e6 : ((r.kind : Int) == 6) = false := kd_f k6
  have E : Hid ((⟨(Fr.rwrite r).toArray⟩ : ByteArray) = u ++ v) := Lib.hid (by rw [HE']; simp [k1, k3, k6])
  clear HE' k1 k3 k6
  go_enter Try.func11, Try.ntmps11
  go_wp2_with (refine wpList_load_row rfl 39 _ rfl w.heap.size rfl 39 X (0, 0) _ Hrow.out Try.underlying39 rfl Hsz.out ?_)
  refine (HR.out _).mono ?_
  rw [Hr.out]
  rintro e w1 ⟨rfl, hb1⟩
  have HS1 := Lib.hid (HS0.out.grow hb1)
  clear hb1
  have c0_HS1 := HS1.out.at.c0
  have c1_HS1 := HS1.out.at.c1
  have c2_HS1 := HS1.out.at.c2
  have c3_HS1 := HS1.out.at.c3
  have c4_HS1 := HS1.out.at.c4
  have c5_HS1 := HS1.out.at.c5
  have c6_HS1 := HS1.out.at.c6
  have c7_HS1 := HS1.out.at.c7
  go_wp2_with fail
  refine (HU.out _).mono ?_
  rintro e w2 ⟨rfl, hb⟩
  have HS2 := Lib.hid (HS1.out.grow hb)
  clear hb
  clear c0_HS1 c1_HS1 c2_HS1 c3_HS1 c4_HS1 c5_HS1 c6_HS1 c7_HS1
  have c0_HS2 := HS2.out.at.c0
  have c1_HS2 := HS2.out.at.c1
  have c2_HS2 := HS2.out.at.c2
  have c3_HS2 := HS2.out.at.c3
  have c4_HS2 := HS2.out.at.c4
  have c5_HS2 := HS2.out.at.c5
  have c6_HS2 := HS2.out.at.c6
  have c7_HS2 := HS2.out.at.c7
  go_wp2_with fail
  refine (HV.out _ _ (Lies.at_ _ [.int .u64 (r.ses : Int), .int .u64 (r.seq : Int)] _ _ rfl)).mono ?_
  rintro e w3 ⟨rfl, hb⟩
  have HS3 := Lib.hid ((HS2.out.new _).grow hb)
  clear hb
  clear c0_HS2 c1_HS2 c2_HS2 c3_HS2 c4_HS2 c5_HS2 c6_HS2 c7_HS2
  have c0_HS3 := HS3.out.at.c0
  have c1_HS3 := HS3.out.at.c1
  have c2_HS3 := HS3.out.at.c2
  have c3_HS3 := HS3.out.at.c3
  have c4_HS3 := HS3.out.at.c4
  have c5_HS3 := HS3.out.at.c5
  have c6_HS3 := HS3.out.at.c6
  have c7_HS3 := HS3.out.at.c7
  go_wp2_with fail
  go_ret
  exact ⟨by rw [E.out]; rfl, HS3.out.b⟩
end Go.Proofs.Ytlcgjlganmblpaa
