/-
  stable.Open: the region whose order is open. WRITTEN BY wip/tools/gen_stopen.py.
  The store's Kept walked.
  The store's isStale walked.
  The store's sweep walked.
-/
import Derived.Test.YtjhbpcecdhdnoaaGreatDoorRStFoundWZ
import Derived.Test.YtjhbpcecdhdnoaaGreatDoorRWwAZ
import Derived.Test.YtjhbpcecdhdnoaaGreatDoorRStTurnZ
set_option linter.unusedSimpArgs false
set_option linter.unusedVariables false
namespace Go.Proofs.YtjhbpcecdhdnoaaGreatDoor
open Go.RowKit
set_option linter.unusedVariables false
def OpA (B p : Nat) (k : St.K) (v : Value) (w : World) : Prop := ∃ A c, v = .agg (kC k (.slice A k.ents.length c)) ∧ w.ownsRow B 88 13 (.slice A k.ents.length c) k.ents.length (ec k.ents)
def OpB (B p : Nat) (k : St.K) (v : Value) (w : World) : Prop := ∃ A c, v = .agg (stC p (.pointer none) k (.slice A k.ents.length c) false) ∧ w.ownsRow B 88 13 (.slice A k.ents.length c) k.ents.length (ec k.ents)
def OpC (B p : Nat) (k : St.K) (v : Value) (w : World) : Prop := ∃ q A c, v = .pointer (some ⟨q, 0, none⟩) ∧ Rw w q (stC p (.pointer none) k (.slice A k.ents.length c) false) 99 ∧ B ≤ q ∧ w.ownsRow B 88 13 (.slice A k.ents.length c) k.ents.length (ec k.ents)
theorem ownB {B : Nat} {w w' : World} {v : Value} {n : Nat} {xs : List Value} {e : TypeId} {s : Nat} (h : w.ownsRow B e s v n xs) (hb : Below w.heap.size w w') : w'.ownsRow B e s v n xs := own_kept h fun j hj => hb.block j (own_lt h hj).1
def OpG (B p : Nat) (k : St.K) (i : Nat) (v : Value) (w : World) : Prop := match i with | 7 => OpA B p k v w | 8 => OpB B p k v w | _ => OpC B p k v w
theorem OpG.below {B p : Nat} {k : St.K} {i : Nat} {v : Value} {w w' : World} (t : OpG B p k i v w) (hb : Below w.heap.size w w') : OpG B p k i v w' := by
  unfold OpG at t ⊢
  split at t
  · obtain ⟨A, c, h1, h2⟩ := t; exact ⟨A, c, h1, ownB h2 hb⟩
  · obtain ⟨A, c, h1, h2⟩ := t; exact ⟨A, c, h1, ownB h2 hb⟩
  · obtain ⟨q, A, c, h1, h2, h3, h4⟩ := t; exact ⟨q, A, c, h1, h2.bel hb, h3, ownB h4 hb⟩
theorem run_load_row {P : Program} {o : Oper} {a : Act} {w : World} {ty : TypeId} {x : Operand} (ho : o.op = .load ty x) (g : Nat) (hx : a.eval x = .pointer (some ⟨g, 0, none⟩)) (t : TypeId) (cs : Array Value) (fr : Nat × Nat) (d : TypeDesc) (hg : w.heap[g]? = some (.cells cs t fr))
    (hu : P.underlying ty = some d) (hd : (match d with | .struct _ | .array _ _ => true | _ => false) = true) (hi : (P.info? ty).map (·.size) = some cs.size) : (execOp a.eval o).run P w = .ok (.value (.agg cs)) w := by
  unfold execOp
  simp only [ho, hx, Instr.loadAt, Instr.sureAddr, Sem.run_bind, Sem.run_pure, Result.andThen_ok, run_loadVar_row w g t ty cs fr d hg hu hd hi]
theorem run_build_row {P : Program} {o : Oper} {a : Act} {w : World} {t : TypeId} {parts : Array (Nat × Operand)} (ho : o.op = .build t parts) {cs : Array Value} (hb : P.built t (parts.map fun (i, x) => (i, a.eval x)).toList = some cs) : (execOp a.eval o).run P w = .ok (.value (.agg cs)) w := by
  unfold execOp
  simp only [ho, Sem.run_bind, run_build w t _ cs hb, Result.andThen_ok]
  rfl
theorem run_box_row {P : Program} {o : Oper} {a : Act} {w : World} {t : TypeId} {x : Operand} (ho : o.op = .box t x) {cs : Array Value} (hx : a.eval x = .agg cs) (hi : (P.info? t).map (·.size) = some cs.size) : (execOp a.eval o).run P w = .ok (.value (.pointer (some ⟨w.heap.size, 0, none⟩))) (w.alloc (.cells cs t)) := by
  generalize a.eval = ρ at *
  unfold execOp
  simp [ho, hx, go_sem]
noncomputable def sopC : Code := ((Tryz.f29.body.bind (Reg.findRegion 6)).getD .skip)
set_option maxRecDepth 100000 in
set_option maxHeartbeats 4000000 in
theorem sop {c2 c3 c4 c5 c6 c8 c9 c10 c11 c12 c13 c14 c15 c16 c17 c18 c19 c20 c21 c22 c23 c24 c25 c26 c27 c28 c29 c30 c31 c32 c33 c34 c35 c36 c37 c38 c39 c40 c41 c42 c43 c44 c45 c46 c47 c48 c49 c50 c51 c52 c53 c54 c55 c56 c57 c58 c59 c60 c61 c62 c63 : Value} (p tb m cb : Nat) (B : Option Addr) (k : St.K) (w : World) (hT : ∀ W, Below w.heap.size w W → TabAt W tb)
   (hNe : ∀ W, Below w.heap.size w W → Calls Tryz.prog 73 #[.pointer (some ⟨p, 0, none⟩), .pointer (some ⟨tb, 0, none⟩), .slice B m cb] W fun e w' => ∃ v, e = .returned v ∧ OpA w.heap.size p k v w' ∧ Below W.heap.size W w') (Q : Exit → Act → World → Prop)
   (hQ : ∀ (u7 u8 u9 u10 : Value) (w' : World), Below w.heap.size w w' → OpC w.heap.size p k u10 w' → Q .normal ⟨#[.pointer (some ⟨p, 0, none⟩), .pointer (some ⟨tb, 0, none⟩), c2, c3, c4, c5, c6, .slice B m cb, u10, c9, c10, c11, c12, c13, c14, c15, c16, c17, c18, c19, c20, c21, c22, c23, .pointer (some ⟨p, 0, none⟩), .pointer (some ⟨tb, 0, none⟩), .pointer (some ⟨tb, 0, none⟩), .agg tabA, .pointer (some ⟨p, 0, none⟩), .pointer (some ⟨tb, 0, none⟩), .slice B m cb, u7, u8, u9, c34, c35, c36, c37, c38, c39, c40, c41, c42, c43, c44, c45, c46, c47, c48, c49, c50, c51, c52, c53, c54, c55, c56, c57, c58, c59, c60, c61, c62, c63], []⟩ w') :
   Code.wp Tryz.prog sopC Q ⟨#[.pointer (some ⟨p, 0, none⟩), .pointer (some ⟨tb, 0, none⟩), c2, c3, c4, c5, c6, .slice B m cb, c8, c9, c10, c11, c12, c13, c14, c15, c16, c17, c18, c19, c20, c21, c22, c23, c24, c25, c26, c27, c28, c29, c30, c31, c32, c33, c34, c35, c36, c37, c38, c39, c40, c41, c42, c43, c44, c45, c46, c47, c48, c49, c50, c51, c52, c53, c54, c55, c56, c57, c58, c59, c60, c61, c62, c63], []⟩ w := by
  obtain ⟨Sp, hSp⟩ : ∃ Sp : Nat → Value → World → Prop, Sp = OpG w.heap.size p k := ⟨_, rfl⟩
  conv => arg 2; whnf
  refine Reg.wp_region_inv (fun w' => Below w.heap.size w w') (fun x y => Below x.heap.size x y) (Reg.KnownI [some (.pointer (some ⟨p, 0, none⟩)), some (.pointer (some ⟨tb, 0, none⟩)), some (.pointer (some ⟨tb, 0, none⟩)), some (.agg tabA), some (.pointer (some ⟨p, 0, none⟩)), some (.pointer (some ⟨tb, 0, none⟩)), some (.slice B m cb), none, none, none, none] Sp) (by kernel_rfl) (by kernel_rfl) (Reg.knownI_mono ?mono) (Below.refl _ _).drew ?steps ?fin
  case mono =>
    intro i v w w' hs hb
    rw [hSp] at hs ⊢
    exact OpG.below hs hb
  case steps =>
    intro hB
    refine ⟨?_, ?_, ?_, ?_, ?_, ?_, ?_, ?_, ?_, ?_, ?_, trivial⟩
    · -- 0: Op.move (Operand.tmp 0)
      refine Reg.step_run hB (Reg.runs_none rfl) (fun a w1 hI hb hd => ?_)
      have e0 : a.eval (.tmp 0) = .pointer (some ⟨p, 0, none⟩) := hb 0 (by kernel_rfl)
      refine Reg.run_value (v := .pointer (some ⟨p, 0, none⟩)) ?_ rfl (Below.refl _ _) hI
      clear hb hd
      have hc := fun v => Reg.eval_const a v
      have hf := fun f => Reg.eval_func a f
      generalize a.eval = ρ at *
      simp [execOp, go_sem, *]
    · -- 1: Op.move (Operand.tmp 1)
      refine Reg.step_run hB (Reg.runs_none rfl) (fun a w1 hI hb hd => ?_)
      have e1 : a.eval (.tmp 1) = .pointer (some ⟨tb, 0, none⟩) := hb 1 (by kernel_rfl)
      refine Reg.run_value (v := .pointer (some ⟨tb, 0, none⟩)) ?_ rfl (Below.refl _ _) hI
      clear hb hd
      have hc := fun v => Reg.eval_const a v
      have hf := fun f => Reg.eval_func a f
      generalize a.eval = ρ at *
      simp [execOp, go_sem, *]
    · -- 2: Op.nilCheck (Operand.tmp 25)
      refine Reg.step_run hB (Reg.runs_none rfl) (fun a w1 hI hb hd => ?_)
      have e25 : a.eval (.tmp 25) = .pointer (some ⟨tb, 0, none⟩) := hd 1 25 (by kernel_rfl) (by kernel_rfl)
      refine Reg.run_value (v := .pointer (some ⟨tb, 0, none⟩)) ?_ rfl (Below.refl _ _) hI
      clear hb hd
      have hc := fun v => Reg.eval_const a v
      have hf := fun f => Reg.eval_func a f
      generalize a.eval = ρ at *
      simp [execOp, go_sem, *]
    · -- 3: Op.load 27 (Operand.tmp 26)
      refine Reg.step_run hB (Reg.runs_none rfl) (fun a w1 hI hb hd => ?_)
      have e26 : a.eval (.tmp 26) = .pointer (some ⟨tb, 0, none⟩) := hd 2 26 (by kernel_rfl) (by kernel_rfl)
      exact Reg.run_value (run_load_row rfl tb e26 _ _ _ _ (hT w1 hI) Tryz.underlying27 rfl (by rw [tabA_size]; exact sizeTable)) rfl (Below.refl _ _) hI
    · -- 4: Op.move (Operand.tmp 0)
      refine Reg.step_run hB (Reg.runs_none rfl) (fun a w1 hI hb hd => ?_)
      have e0 : a.eval (.tmp 0) = .pointer (some ⟨p, 0, none⟩) := hb 0 (by kernel_rfl)
      refine Reg.run_value (v := .pointer (some ⟨p, 0, none⟩)) ?_ rfl (Below.refl _ _) hI
      clear hb hd
      have hc := fun v => Reg.eval_const a v
      have hf := fun f => Reg.eval_func a f
      generalize a.eval = ρ at *
      simp [execOp, go_sem, *]
    · -- 5: Op.move (Operand.tmp 1)
      refine Reg.step_run hB (Reg.runs_none rfl) (fun a w1 hI hb hd => ?_)
      have e1 : a.eval (.tmp 1) = .pointer (some ⟨tb, 0, none⟩) := hb 1 (by kernel_rfl)
      refine Reg.run_value (v := .pointer (some ⟨tb, 0, none⟩)) ?_ rfl (Below.refl _ _) hI
      clear hb hd
      have hc := fun v => Reg.eval_const a v
      have hf := fun f => Reg.eval_func a f
      generalize a.eval = ρ at *
      simp [execOp, go_sem, *]
    · -- 6: Op.move (Operand.tmp 7)
      refine Reg.step_run hB (Reg.runs_none rfl) (fun a w1 hI hb hd => ?_)
      have e7 : a.eval (.tmp 7) = .slice B m cb := hb 7 (by kernel_rfl)
      refine Reg.run_value (v := .slice B m cb) ?_ rfl (Below.refl _ _) hI
      clear hb hd
      have hc := fun v => Reg.eval_const a v
      have hf := fun f => Reg.eval_func a f
      generalize a.eval = ρ at *
      simp [execOp, go_sem, *]
    · -- 7: Op.call { callee := Callee.value (Operand.func 104), args := #[Operand.tmp 28, Operand.tmp 29, Opera
      refine Reg.step_run hB (Reg.runs_none rfl) (fun a w1 hI hb hd => ?_)
      have e28 : a.eval (.tmp 28) = .pointer (some ⟨p, 0, none⟩) := hd 4 28 (by kernel_rfl) (by kernel_rfl)
      have e29 : a.eval (.tmp 29) = .pointer (some ⟨tb, 0, none⟩) := hd 5 29 (by kernel_rfl) (by kernel_rfl)
      have e30 : a.eval (.tmp 30) = .slice B m cb := hd 6 30 (by kernel_rfl) (by kernel_rfl)
      refine Reg.run_callS (f := 73) (args := #[.pointer (some ⟨p, 0, none⟩), .pointer (some ⟨tb, 0, none⟩), .slice B m cb]) ?_ ((hNe w1 hI).mono (fun e w' hh => by obtain ⟨v, he, hl, hb⟩ := hh; exact ⟨v, he, (show Sp 7 _ _ by rw [hSp]; exact hl), hb⟩)) (fun _ h => bnext hI h)
      clear hb hd
      have hc := fun v => Reg.eval_const a v
      have hf := fun f => Reg.eval_func a f
      generalize a.eval = ρ at *
      simp [go_sem, *]
    · -- 8: Op.build 123 #[(0, Operand.tmp 24), (1, Operand.tmp 27), (3, Operand.tmp 31)]
      refine Reg.step_run hB (Reg.runs_none rfl) (fun a w1 hI hb hd => ?_)
      have e24 : a.eval (.tmp 24) = .pointer (some ⟨p, 0, none⟩) := hd 0 24 (by kernel_rfl) (by kernel_rfl)
      have e27 : a.eval (.tmp 27) = .agg tabA := hd 3 27 (by kernel_rfl) (by kernel_rfl)
      have e31 : Sp 7 (a.eval (.tmp 31)) w1 := hd 7 31 (by kernel_rfl) (by kernel_rfl)
      rw [hSp] at e31
      replace e31 : OpA w.heap.size p k (a.eval (.tmp 31)) w1 := e31
      obtain ⟨A, c, hx, ho⟩ := e31
      refine Reg.run_made (v := .agg (stC p (.pointer none) k (.slice A k.ents.length c) false)) (w' := w1) (run_build_row rfl ?_) (show Sp 8 _ _ by rw [hSp]; exact ⟨A, c, rfl, ho⟩) (Below.refl _ _) hI
      simp only [List.map_toArray, List.map_cons, List.map_nil]
      rw [e24, e27, hx]
      exact built_store p k _
    · -- 9: Op.box 123 (Operand.tmp 32)
      refine Reg.step_run hB (Reg.runs_none rfl) (fun a w1 hI hb hd => ?_)
      have e32 : Sp 8 (a.eval (.tmp 32)) w1 := hd 8 32 (by kernel_rfl) (by kernel_rfl)
      rw [hSp] at e32
      replace e32 : OpB w.heap.size p k (a.eval (.tmp 32)) w1 := e32
      obtain ⟨A, c, hx, ho⟩ := e32
      have hB := Below.size hI
      refine Reg.run_made (v := .pointer (some ⟨w1.heap.size, 0, none⟩)) (w' := w1.alloc (.cells (stC p (.pointer none) k (.slice A k.ents.length c) false) 99)) (run_box_row rfl hx (by rw [stC_size]; exact sizeStore)) (show Sp 9 _ _ by rw [hSp]; exact ⟨w1.heap.size, A, c, rfl, heap_alloc_new w1 _, hB, ho.alloc _⟩) (bnew (Below.refl _ _) _) (bnew hI _)
    · -- 10: Op.assign (Operand.tmp 33)
      refine Reg.step_run hB (Reg.runs_none rfl) (fun a w1 hI hb hd => ?_)
      have e33 : Sp 9 (a.eval (.tmp 33)) w1 := hd 9 33 (by kernel_rfl) (by kernel_rfl)
      rw [hSp] at e33
      replace e33 : OpC w.heap.size p k (a.eval (.tmp 33)) w1 := e33
      exact Reg.run_value (Reg.run_assign rfl rfl) (show Sp 10 _ _ by rw [hSp]; exact e33) (Below.refl _ _) hI
  case fin =>
    intro vals w' hI hg
    have g0 : vals 0 = .pointer (some ⟨p, 0, none⟩) := hg 0 (by simp)
    have g1 : vals 1 = .pointer (some ⟨tb, 0, none⟩) := hg 1 (by simp)
    have g2 : vals 2 = .pointer (some ⟨tb, 0, none⟩) := hg 2 (by simp)
    have g3 : vals 3 = .agg tabA := hg 3 (by simp)
    have g4 : vals 4 = .pointer (some ⟨p, 0, none⟩) := hg 4 (by simp)
    have g5 : vals 5 = .pointer (some ⟨tb, 0, none⟩) := hg 5 (by simp)
    have g6 : vals 6 = .slice B m cb := hg 6 (by simp)
    refine Reg.fin_of (y := #[.pointer (some ⟨p, 0, none⟩), .pointer (some ⟨tb, 0, none⟩), c2, c3, c4, c5, c6, .slice B m cb, vals 10, c9, c10, c11, c12, c13, c14, c15, c16, c17, c18, c19, c20, c21, c22, c23, vals 0, vals 1, vals 2, vals 3, vals 4, vals 5, vals 6, vals 7, vals 8, vals 9, c34, c35, c36, c37, c38, c39, c40, c41, c42, c43, c44, c45, c46, c47, c48, c49, c50, c51, c52, c53, c54, c55, c56, c57, c58, c59, c60, c61, c62, c63]) (by kernel_rfl) ?_
    rw [g0, g1, g2, g3, g4, g5, g6]
    have hz := hg 10 (by simp)
    exact hQ (vals 7) (vals 8) (vals 9) (vals 10) w' hI (by have hz2 : Sp 10 (vals 10) w' := hz; rw [hSp] at hz2; exact hz2)
end Go.Proofs.YtjhbpcecdhdnoaaGreatDoor
namespace Go.Proofs.YtjhbpcecdhdnoaaGreatDoor
open Go.RowKit
section
variable {At : DkAt}
set_option maxRecDepth 100000 in
set_option maxHeartbeats 4000000 in
theorem kept_any (W : World) (q p lq n b : Nat) (S : Nat → Prop) (d : Dk.D) (k : St.K) (A : Option Addr) (c : Nat) (lost : Bool) (hS : Sto At W q p lq n b S d k A c lost) :
    Calls Tryz.prog 32 #[.pointer (some ⟨q, 0, none⟩)] W fun e w' => ∃ A' c', e = .returned (.agg (kC k (.slice A' k.ents.length c'))) ∧ w'.ownsRow W.heap.size 88 13 (.slice A' k.ents.length c') k.ents.length (ec k.ents) ∧ Below W.heap.size W w' := by
  have HTw := Lib.hid (fun W1 (h : Below W.heap.size W W1) => twin_any k A c W1 (hS.kin.lies.below h) hS.kin.nil hS.kin.small.secs (by have := hS.kin.len; omega) (fun e he => by have := (hS.kin.small.ents e he).2; omega))
  obtain ⟨Y, hY⟩ : ∃ Y, Y = stC p (.pointer (some ⟨lq, 0, none⟩)) k (.slice A k.ents.length c) lost := ⟨_, rfl⟩
  obtain ⟨X, hX⟩ : ∃ X, X = kC k (.slice A k.ents.length c) := ⟨_, rfl⟩
  have HX : Hid ((Tryz.prog.info? 58).map (·.size) = some X.size) := Lib.hid (by rw [hX]; exact sizeKept' _ _)
  have HSub : Hid (∀ j, j < X.size → Y[258 + j]? = X[j]?) := Lib.hid (by rw [hX, hY]; exact fun j hj => stC_k _ _ _ _ _ j hj)
  have HY : Hid (∀ W1, Below W.heap.size W W1 → Rw W1 q Y 99) := Lib.hid (by rw [hY]; exact fun W1 h => hS.row.bel h)
  rw [← hX] at HTw
  clear hY hX hS
  go_enter Tryz.func32, Tryz.ntmps32
  go_upto_region 1 with (fail)
  refine forget (fun W1 => Rw W1 W.heap.size zK 58 ∧ Bl W W1 ∧ W.heap.size ≤ W.heap.size) ⟨Rw.new W zK _, (Bl.refl W).alloc _, Nat.le_refl _⟩ ?_
  intro W1 H1
  obtain ⟨gb, hgb⟩ : ∃ gb, gb = W.heap.size := ⟨_, rfl⟩
  rw [← hgb] at H1 ⊢
  have HI := Lib.hid H1
  have Hgb := Lib.hid hgb
  clear H1 hgb
  go_wp2_with (refine wpList_load_sub rfl 58 _ rfl q 258 rfl 99 Y X (0, 0) _ (HY.out _ HI.out.2.1.bel) HSub.out Tryz.underlying58 rfl HX.out ?_)
  refine (HTw.out W1 HI.out.2.1.bel).mono ?_
  rintro e w2 ⟨A', c', rfl, ho2, hb2⟩
  obtain ⟨Z, hZ⟩ : ∃ Z, Z = kC k (.slice A' k.ents.length c') := ⟨_, rfl⟩
  have HZZ : Hid (Z.size = 11 ∧ Z.all (·.oneCell') = true ∧ (Tryz.prog.info? 58).map (·.size) = some Z.size) := Lib.hid (by rw [hZ]; exact ⟨rfl, kC_one _ _ _ _, sizeKept' _ _⟩)
  have HR2 := Lib.hid (HI.out.1.bel hb2)
  have HO2 := Lib.hid ho2
  have HB2 : Hid (Bl W w2) := Lib.hid (HI.out.2.1.next hb2)
  have hZ2 := Lib.hid hZ
  rw [← hZ]
  clear hZ ho2 hb2
  go_wp2_with (refine wpList_store_sub rfl 58 _ _ rfl gb 0 rfl 58 zK Z rfl HR2.out (by rw [HZZ.out.1]; exact Nat.le_refl 11) HZZ.out.2.2 HZZ.out.2.1 ?_)
  refine bodyPost_ret (results_cell_row (P := Tryz.prog) (fn := Tryz.f32) rfl _ _ gb 58 Z (0, 0) _ rfl (HR2.out.over (by rw [HZZ.out.1]; rfl)) Tryz.underlying58 rfl HZZ.out.2.2) rfl ?_
  have hg := Hgb.out
  have hg1 := Rw.lt HI.out.1
  refine ⟨A', c', by rw [← hZ2.out], own_mono (own_kept HO2.out fun j hj => setCells_other (by have := (own_lt HO2.out hj).2; omega) _ _ _) HI.out.2.1.le, (HB2.out.puts (by omega) _ _).bel⟩
end
end Go.Proofs.YtjhbpcecdhdnoaaGreatDoor
namespace Go.Proofs.YtjhbpcecdhdnoaaGreatDoor
open Go.RowKit
theorem number_says {s : ByteArray} {v : Nat} (hv : v < Nm.top) (h : Wl.name v = s) : St.number s = some v := by rw [← h]; exact St.number_name hv
theorem number_no {s : ByteArray} (h : ∀ n, n < Nm.top → Wl.name n ≠ s) : St.number s = none := by
  cases hx : St.number s with
  | none => rfl
  | some m => obtain ⟨h1, h2⟩ := St.number_some hx; exact absurd h2 (h m h1)
theorem stale_some {n i v : Nat} {s : ByteArray} (h : St.number s = some v) : St.stale n i s = (decide (v ≠ n) || (St.isSn s && decide (s ≠ St.sname i))) := by unfold St.stale; rw [h]
theorem stale_none {n i : Nat} {s : ByteArray} (h : St.number s = none) : St.stale n i s = (St.isSn s && decide (s ≠ St.sname i)) := by unfold St.stale; rw [h]; rfl
set_option maxRecDepth 100000 in
set_option maxHeartbeats 8000000 in
theorem isStale_any (W : World) (q p lq n b : Nat) (k : St.K) (v : Value) (lost : Bool) (s : ByteArray) (hR : StRow W q p (.pointer (some ⟨lq, 0, none⟩)) k v lost) (hL : LogAt W lq p n b) (hE : EnvT W) (hF : EnvE W) (hs : s.size ≤ 1000000000) (hi : k.snap.idx < Nm.top) (hn : n < Nm.top) :
    Calls Tryz.prog 128 #[.pointer (some ⟨q, 0, none⟩), .string s] W fun e w' => e = .returned (.bool (St.stale n k.snap.idx s)) ∧ Below W.heap.size W w' := by
  have HNb := Lib.hid (wnumber_any s W hE hF hs)
  have HR := Lib.hid (fun W1 (h : Below W.heap.size W W1) => hR.bel h)
  have HL := Lib.hid (fun W1 (h : Below W.heap.size W W1) => logN_any W1 lq p n b (hL.below h))
  have HIs := Lib.hid (fun W1 (h : Below W.heap.size W W1) => isSnapName_any s W1 (hE.below h (Nat.le_refl _)) (hF.below h (Nat.le_refl _)) hs)
  have HSn := Lib.hid (fun W1 (h : Below W.heap.size W W1) => snapName_any k.snap.idx W1 hi (hE.below h (Nat.le_refl _)))
  obtain ⟨nm, hnm⟩ : ∃ nm, nm = St.sname k.snap.idx := ⟨_, rfl⟩
  have HStS : Hid (∀ u, St.number s = some u → St.stale n k.snap.idx s = (decide (u ≠ n) || (St.isSn s && decide (s ≠ nm)))) := Lib.hid (by rw [hnm]; exact fun u hu => stale_some hu)
  have HStN : Hid (St.number s = none → St.stale n k.snap.idx s = (St.isSn s && decide (s ≠ nm))) := Lib.hid (by rw [hnm]; exact fun hu => stale_none hu)
  rw [← hnm] at HSn
  obtain ⟨G, hG⟩ : ∃ G, G = St.stale n k.snap.idx s := ⟨_, rfl⟩
  rw [← hG] at HStS HStN ⊢
  have hii : k.snap.idx ≤ 18446744073709551615 := by unfold Nm.top at hi; omega
  have hni : n ≤ 18446744073709551615 := by unfold Nm.top at hn; omega
  clear hR hL hE hF hs hi hn hnm hG
  go_enter Tryz.func128, Tryz.ntmps128
  go_wp2_with fail
  refine HNb.out.mono ?_
  rintro e w1 ⟨u, ok, rfl, hu, h1, h2, hb1⟩
  have hui : u ≤ 18446744073709551615 := by unfold Nm.top at hu; omega
  have cl := (HR.out w1 hb1).clg
  have c260 := (HR.out w1 hb1).csnap
  have HB1 := Lib.hid hb1
  clear hb1
  cases ok with
  | true =>
    have hnum := number_says hu (h1 rfl)
    by_cases hun : u = n
    · have hG : G = (St.isSn s && decide (s ≠ nm)) := by rw [HStS.out u hnum, hun]; simp
      subst hun
      clear hnum h1 h2 hu
      have HGe := Lib.hid hG
      clear hG
      go_wp2_with fail
      refine (HL.out _ HB1.out).mono ?_
      rintro e w2 ⟨rfl, rfl⟩
      go_wp2_with fail
      refine (HIs.out _ HB1.out).mono ?_
      rintro e w3 ⟨rfl, hb3⟩
      have HB3 := Lib.hid (bnext HB1.out hb3)
      have c3 := (HR.out w3 HB3.out).csnap
      clear hb3
      rcases hsn : St.isSn s with _ | _
      · rw [hsn] at HGe
        clear hsn
        go_wp2_with fail
        go_ret
        rw [HGe.out]
        exact ⟨rfl, HB3.out⟩
      · rw [hsn] at HGe
        clear hsn
        go_wp2_with fail
        refine (HSn.out _ HB3.out).mono ?_
        rintro e w4 ⟨rfl, hb4⟩
        have HB4 := Lib.hid (bnext HB3.out hb4)
        clear hb4
        by_cases hsx : s = nm
        · have HGf : Hid (G = false) := Lib.hid (by rw [HGe.out, decide_eq_false (by simpa using hsx)]; rfl)
          have z1 : (s.toList == nm.toList) = true := by rw [hsx]; simp
          have z2 : (s.toList != nm.toList) = false := by rw [hsx]; simp
          clear hsx
          go_wp2_with fail
          go_ret
          rw [HGf.out]
          exact ⟨rfl, HB4.out⟩
        · have HGf : Hid (G = true) := Lib.hid (by rw [HGe.out, decide_eq_true (by simpa using hsx)]; rfl)
          have z1 : (s.toList == nm.toList) = false := by rw [wstr_eqb]; simpa using hsx
          have z2 : (s.toList != nm.toList) = true := by unfold bne; rw [z1]; rfl
          clear hsx
          go_wp2_with fail
          go_ret
          rw [HGf.out]
          exact ⟨rfl, HB4.out⟩
    · have HGt : Hid (G = true) := Lib.hid (by rw [HStS.out u hnum, decide_eq_true hun]; rfl)
      have z1 : ((u : Int) != (n : Int)) = true := bne_iff_ne.2 (by omega)
      have z2 : ((u : Int) == (n : Int)) = false := beq_eq_false_iff_ne.2 (by omega)
      have z3 : ((u : Int) = (n : Int)) = False := eq_false (by omega)
      clear hnum h1 h2 hu hun
      go_wp2_with fail
      refine (HL.out _ HB1.out).mono ?_
      rintro e w2 ⟨rfl, rfl⟩
      go_wp2_with fail
      go_ret
      rw [HGt.out]
      exact ⟨rfl, HB1.out⟩
  | false =>
    obtain ⟨_, h3⟩ := h2 rfl
    have hG := HStN.out (number_no h3)
    clear h1 h2 h3 hu
    have HGe := Lib.hid hG
    clear hG
    go_wp2_with fail
    refine (HIs.out _ HB1.out).mono ?_
    rintro e w3 ⟨rfl, hb3⟩
    have HB3 := Lib.hid (bnext HB1.out hb3)
    have c3 := (HR.out w3 HB3.out).csnap
    clear hb3
    rcases hsn : St.isSn s with _ | _
    · rw [hsn] at HGe
      clear hsn
      go_wp2_with fail
      go_ret
      rw [HGe.out]
      exact ⟨rfl, HB3.out⟩
    · rw [hsn] at HGe
      clear hsn
      go_wp2_with fail
      refine (HSn.out _ HB3.out).mono ?_
      rintro e w4 ⟨rfl, hb4⟩
      have HB4 := Lib.hid (bnext HB3.out hb4)
      clear hb4
      by_cases hsx : s = nm
      · have HGf : Hid (G = false) := Lib.hid (by rw [HGe.out, decide_eq_false (by simpa using hsx)]; rfl)
        have z1 : (s.toList == nm.toList) = true := by rw [hsx]; simp
        have z2 : (s.toList != nm.toList) = false := by rw [hsx]; simp
        clear hsx
        go_wp2_with fail
        go_ret
        rw [HGf.out]
        exact ⟨rfl, HB4.out⟩
      · have HGf : Hid (G = true) := Lib.hid (by rw [HGe.out, decide_eq_true (by simpa using hsx)]; rfl)
        have z1 : (s.toList == nm.toList) = false := by rw [wstr_eqb]; simpa using hsx
        have z2 : (s.toList != nm.toList) = true := by unfold bne; rw [z1]; rfl
        clear hsx
        go_wp2_with fail
        go_ret
        rw [HGf.out]
        exact ⟨rfl, HB4.out⟩
end Go.Proofs.YtjhbpcecdhdnoaaGreatDoor
namespace Go.Proofs.YtjhbpcecdhdnoaaGreatDoor
open Go.RowKit
theorem list_size {d : Dk.D} {x : ByteArray} (h : x ∈ Dk.list d) : x.size ≤ Dk.load d := by
  obtain ⟨f, hf, rfl⟩ := List.mem_map.1 h
  have h1 := Dk.fsLoad_mem hf
  unfold Dk.load
  unfold Dk.flLoad at h1
  omega
theorem sweep_drop {n i : Nat} (d : Dk.D) (l : List ByteArray) (k : Nat) (h : k < l.length) :
    St.sweep n i d (l.drop k) = if St.stale n i l[k] then (if (Dk.delete d l[k]).1 = .ok then St.sweep n i (Dk.delete d l[k]).2 (l.drop (k + 1)) else Dk.delete d l[k]) else St.sweep n i d (l.drop (k + 1)) := by
  rw [List.drop_eq_getElem_cons h]; rfl
section
variable {At : DkAt}
set_option maxRecDepth 100000 in
set_option maxHeartbeats 8000000 in
theorem sweep_any (K : DiskK At) (W : World) (q p lq n b : Nat) (S : Nat → Prop) (d : Dk.D) (k : St.K) (v : Value) (hS : Sr At W q p lq n b S d k v) (hE : ∀ W', Ko S W W' → EnvT W' ∧ EnvE W') (hi : k.snap.idx < Nm.top) (hn : n < Nm.top) :
    Calls Tryz.prog 75 #[.pointer (some ⟨q, 0, none⟩)] W fun e w' => e = .returned (.int .i64 (eno (St.sweep n k.snap.idx d (Dk.list d)).1)) ∧ Now At W w' p S (St.sweep n k.snap.idx d (Dk.list d)).2 := by
  have HS := Lib.hid hS
  have HKd := Lib.hid K
  have HLi := Lib.hid (K.list W p S d hS.at_)
  have HSt := Lib.hid (fun x (hx : x ∈ Dk.list d) W2 (h : Ko S W W2) => isStale_any W2 q p lq n b k v false x (hS.row.ko h hS.nq) (hS.log.ko h hS.nl) (hE W2 h).1 (hE W2 h).2 (by have := list_size hx; have := K.load hS.at_; omega) hi hn)
  have Hsz := Lib.hid (fun x (hx : x ∈ Dk.list d) => (by have := list_size hx; have := K.load hS.at_; omega : x.size ≤ 100000000))
  have HNx := Lib.hid (fun (W1 : World) (h : Below W.heap.size W W1) => K.below hS.at_ h)
  have c0 := hS.row.c0
  obtain ⟨L, hL⟩ : ∃ L, L = Dk.list d := ⟨_, rfl⟩
  rw [← hL] at HLi HSt Hsz ⊢
  have Hl : Hid (∀ x ∈ L, x ∈ L) := Lib.hid fun _ h => h
  have hlen : L.length ≤ 100000000 := by
    have h1 := K.load hS.at_
    have key : ∀ fs : List Dk.Fl, fs.length ≤ Dk.fsLoad fs := by
      intro fs
      induction fs with
      | nil => exact Nat.le_refl _
      | cons f fs ih => rw [Dk.fsLoad_cons, List.length_cons]; unfold Dk.flLoad; omega
    have h2 := key d.files
    rw [hL]; unfold Dk.list; rw [List.length_map]
    unfold Dk.load at h1; omega
  obtain ⟨ix, hix⟩ : ∃ ix, ix = k.snap.idx := ⟨_, rfl⟩
  rw [← hix] at HSt ⊢
  clear hS hE hi hn K hL hix
  go_enter Tryz.func75, Tryz.ntmps75
  go_wp2_with fail
  refine HLi.out.mono ?_
  rintro e w1 ⟨B, cb, rfl, hlb, hbb, hb1⟩
  have HB := Lib.hid (And.intro hlb (And.intro hbb hb1))
  clear c0 hlb hbb hb1
  go_wp2_with fail
  go_loopw [12] (fun i wr => ∃ (j : Nat) (D : Dk.D), j ≤ L.length ∧ i = .int .i64 (j : Int) ∧ Now At w1 wr p S D ∧ St.sweep n ix d L = St.sweep n ix D (L.drop j)) (fun i _ => L.length - (intOf i).toNat)
  case atStart => exact ⟨0, d, Nat.zero_le _, rfl, Now.start (HNx.out w1 HB.out.2.2), by rw [List.drop_zero]⟩
  case round =>
    obtain ⟨j, D, hj, rfl, hn, hsw⟩ := hrel
    have HW : Hid (Ko S W wr) := Lib.hid (Ko.after HB.out.2.2 hn.ko)
    have c0 := (HS.out.row.ko HW.out HS.out.nq).c0
    have HN := Lib.hid hn
    by_cases hlt : j < L.length
    · obtain ⟨x, hx⟩ : ∃ x, x = L[j] := ⟨_, rfl⟩
      have hmem : x ∈ L := by rw [hx]; exact List.getElem_mem hlt
      have hsd := sweep_drop (n := n) (i := ix) D L j hlt
      rw [← hx] at hsd
      have hcell : ∃ bb oo, B = some ⟨bb, oo, none⟩ ∧ wr.cell? ⟨bb, oo + j, none⟩ = some (.string x) := by
        have hlies := HB.out.1.ko (S := S) (fun b off hv e hs => by
          have h1 := HB.out.2.1 b off (by intro e2; rw [e2] at hlt; simp at hlt) e
          have h2 := HKd.out.lt HS.out.at_ b hs
          omega) hn.ko
        rcases hlies with h | ⟨bb, oo, rfl, _, hc⟩
        · exfalso
          have := congrArg List.length h
          simp [sc] at this; simp [this] at hlt
        · exact ⟨bb, oo, rfl, hc j _ (by simp [sc, hlt, hx])⟩
      obtain ⟨bb, oo, rfl, hcell⟩ := hcell
      have HI := Lib.hid (HSt.out x hmem wr HW.out)
      have HDe := Lib.hid (fun W2 (h : Below wr.heap.size wr W2) => HKd.out.deleteN (HKd.out.more hn h) x (Hsz.out x hmem))
      have HMo := Lib.hid (fun W2 (h : Below wr.heap.size wr W2) => HKd.out.more hn h)
      have HSd : Hid (St.sweep n ix d L = if St.stale n ix x then (if (Dk.delete D x).1 = .ok then St.sweep n ix (Dk.delete D x).2 (L.drop (j + 1)) else Dk.delete D x) else St.sweep n ix D (L.drop (j + 1))) := Lib.hid (by rw [hsw, hsd])
      obtain ⟨E, hE⟩ : ∃ E, E = Dk.delete D x := ⟨_, rfl⟩
      rw [← hE] at HDe HSd
      have Hc0 := Lib.hid (fun W2 (hb : Below wr.heap.size wr W2) => later hb c0)
      clear hsw hsd hE hx hmem hn
      rcases hst : St.stale n ix x with _ | _
      · rw [hst] at HI HSd
        clear hst
        go_wp2_with fail
        refine HI.out.mono ?_
        rintro e w2 ⟨rfl, hb2⟩
        have H2 := Lib.hid (HMo.out w2 hb2)
        clear hb2 c0 hcell
        go_wp2_with fail
        go_roundw
        case rel => exact ⟨j + 1, D, by omega, by go_num, H2.out, by rw [HSd.out, if_neg (by decide)]⟩
        case measure => simp [intOf]; omega
      · rw [hst] at HI HSd
        clear hst
        obtain ⟨ev, hev⟩ : ∃ ev, ev = eno E.1 := ⟨_, rfl⟩
        rw [← hev] at HDe
        have Hev := Lib.hid hev
        clear hev
        go_wp2_with fail
        refine HI.out.mono ?_
        rintro e w2 ⟨rfl, hb2⟩
        have c02 := Hc0.out w2 hb2
        have HD2 := Lib.hid (HDe.out w2 hb2)
        clear hb2 c0 hcell
        go_wp2_with fail
        refine HD2.out.mono ?_
        rintro e w3 ⟨rfl, hn3⟩
        have H3 := Lib.hid hn3
        clear hn3 c02
        by_cases hz : ev = 0
        · have z1 : (ev != 0) = false := by simp [hz]
          have z2 : (ev == 0) = true := by simp [hz]
          have z3 : (ev = 0) = True := by simp [hz]
          have hok : E.1 = .ok := by
            have h1 := eno_ok E.1
            rw [← Hev.out, z2] at h1
            simpa using h1.symm
          have Hok := Lib.hid hok
          clear hz hok
          go_wp2_with fail
          go_roundw
          case rel => exact ⟨j + 1, E.2, by omega, by go_num, H3.out, by rw [HSd.out, if_pos trivial, if_pos Hok.out]⟩
          case measure => simp [intOf]; omega
        · have z1 : (ev != 0) = true := by simp [hz]
          have z2 : (ev == 0) = false := by simp [hz]
          have z3 : (ev = 0) = False := by simp [hz]
          have hok : E.1 ≠ .ok := fun h => by
            have h1 := eno_ok E.1
            rw [← Hev.out, z2, h] at h1
            simp at h1
          have Hok := Lib.hid hok
          clear hz hok
          go_wp2_with fail
          go_ret
          rw [HSd.out, if_pos trivial, if_neg Hok.out, ← Hev.out]
          exact ⟨rfl, Now.after HB.out.2.2 H3.out⟩
    · obtain rfl : j = L.length := by omega
      have HF : Hid (St.sweep n ix d L = (.ok, D)) := Lib.hid (by rw [hsw, List.drop_length]; rfl)
      clear hsw hn
      go_wp2_with fail
      go_ret
      rw [HF.out]
      exact ⟨rfl, Now.after HB.out.2.2 HN.out⟩
end
end Go.Proofs.YtjhbpcecdhdnoaaGreatDoor
