/-
  wapentakeref08's Right walked, over wapentakeref04's contract: may a record be?
  The statements' own GreatRecs of layer 8 walked.
  wal.recordText's region 4, whose order is open. WRITTEN BY wip/tools/gen_wwtext.py.
  wal.recordText walked: a record's text, or none.
  wal.recordTexts walked.
-/
import Derived.Test.YtjhbpcecdhdnoaaGreatDoorRWlBaseZ
import Derived.Test.YtjhbpcecdhdnoaaGreatDoorRWwAZ
import Derived.Test.YtjhbpcecdhdnoaaGreatDoorREnW
import Derived.Test.YtjhbpcecdhdnoaaGreatDoorRBldZ
import Derived.Test.YtjhbpcecdhdnoaaGreatDoorRDmA
import Derived.BigQuiet
import Derived.OwnWalk
set_option linter.unusedSimpArgs false
set_option linter.unusedVariables false
namespace Go.Proofs.YtjhbpcecdhdnoaaGreatDoor
open Go.RowKit
structure RecF (X : Array Value) (r : Wl.R) : Prop where
  size : X.size = 16
  one : X.all (·.oneCell') = true
  f0 : ∀ h, X[0]'h = .int .u8 (r.kind : Int)
  f1 : ∀ h, X[1]'h = .int .u64 (r.trm : Int)
  f2 : ∀ h, X[2]'h = .int .u8 (r.vote : Int)
  f3 : ∀ h, X[3]'h = .int .u64 (r.ent.idx : Int)
  f4 : ∀ h, X[4]'h = .int .u64 (r.ent.trm : Int)
  f5 : ∀ h, X[5]'h = .int .u8 (r.ent.kind : Int)
  f6 : ∀ h, X[6]'h = .int .u8 (r.ent.slot : Int)
  f7 : ∀ h, X[7]'h = .int .u8 (r.ent.tok.a0.toNat : Int)
  f8 : ∀ h, X[8]'h = .int .u8 (r.ent.tok.a1.toNat : Int)
  f9 : ∀ h, X[9]'h = .int .u8 (r.ent.tok.a2.toNat : Int)
  f10 : ∀ h, X[10]'h = .int .u8 (r.ent.tok.a3.toNat : Int)
  f11 : ∀ h, X[11]'h = .int .u8 (r.ent.tok.a4.toNat : Int)
  f12 : ∀ h, X[12]'h = .int .u8 (r.ent.tok.a5.toNat : Int)
  f13 : ∀ h, X[13]'h = .int .u8 (r.ent.tok.a6.toNat : Int)
  f14 : ∀ h, X[14]'h = .int .u8 (r.ent.tok.a7.toNat : Int)
  f15 : ∀ h, X[15]'h = .string r.ent.body
theorem recF (r : Wl.R) : RecF (recC r) r := ⟨rfl, by simp [recC, Value.oneCell'], fun _ => rfl, fun _ => rfl, fun _ => rfl, fun _ => rfl, fun _ => rfl, fun _ => rfl, fun _ => rfl, fun _ => rfl, fun _ => rfl, fun _ => rfl, fun _ => rfl, fun _ => rfl, fun _ => rfl, fun _ => rfl, fun _ => rfl, fun _ => rfl⟩
theorem storeRec (X : Array Value) (hs : X.size = 16) (ho : X.all (·.oneCell') = true) (W : World) : (storeCells ⟨W.heap.size, 0, none⟩ X.toList 0).run Tryz.prog (W.alloc (.cells #[.int .u8 0, .int .u64 0, .int .u8 0, .int .u64 0, .int .u64 0, .int .u8 0, .int .u8 0, .int .u8 0, .int .u8 0, .int .u8 0, .int .u8 0, .int .u8 0, .int .u8 0, .int .u8 0, .int .u8 0, .string ⟨#[]⟩] 90)) = .ok () (W.alloc (.cells X 90)) :=
  run_storeCells_new (P := Tryz.prog) W 90 _ X (by rw [hs]; exact sizeRec) (by rw [hs]; rfl) ho
theorem wdec {p : Prop} (i j : Decidable p) : @decide p i = @decide p j := by congr
set_option maxRecDepth 100000 in
set_option maxHeartbeats 4000000 in
theorem refRight8_of (hE : ∀ (e : En.E) (W : World), Calls Tryz.prog 119 #[.agg (entC e)] W (RetTr (En.may e) W)) (r : Wl.R) (w : World) :
    Calls Tryz.prog 62 #[.agg (recC r)] w (RetTr (Wl.right r) w) := by
  have HE := Lib.hid hE
  clear hE
  have FX := recF r
  have hz : ∀ W, (binOp .eql 88 (.agg #[.int .u64 (r.ent.idx : Int), .int .u64 (r.ent.trm : Int), .int .u8 (r.ent.kind : Int), .int .u8 (r.ent.slot : Int), .int .u8 (r.ent.tok.a0.toNat : Int), .int .u8 (r.ent.tok.a1.toNat : Int), .int .u8 (r.ent.tok.a2.toNat : Int), .int .u8 (r.ent.tok.a3.toNat : Int), .int .u8 (r.ent.tok.a4.toNat : Int), .int .u8 (r.ent.tok.a5.toNat : Int), .int .u8 (r.ent.tok.a6.toNat : Int), .int .u8 (r.ent.tok.a7.toNat : Int), .string r.ent.body]) (.agg #[.int .u64 0, .int .u64 0, .int .u8 0, .int .u8 0, .int .u8 0, .int .u8 0, .int .u8 0, .int .u8 0, .int .u8 0, .int .u8 0, .int .u8 0, .int .u8 0, .string ⟨#[]⟩])).run Tryz.prog W = .ok (.bool (decide (r.ent = En.zero))) W := fun W => (ent_eql r.ent En.zero W).trans (congrArg (fun b => Result.ok (Value.bool b) W) (wdec _ _))
  have hcall : ∀ W, Calls Tryz.prog 119 #[.agg #[.int .u64 (r.ent.idx : Int), .int .u64 (r.ent.trm : Int), .int .u8 (r.ent.kind : Int), .int .u8 (r.ent.slot : Int), .int .u8 (r.ent.tok.a0.toNat : Int), .int .u8 (r.ent.tok.a1.toNat : Int), .int .u8 (r.ent.tok.a2.toNat : Int), .int .u8 (r.ent.tok.a3.toNat : Int), .int .u8 (r.ent.tok.a4.toNat : Int), .int .u8 (r.ent.tok.a5.toNat : Int), .int .u8 (r.ent.tok.a6.toNat : Int), .int .u8 (r.ent.tok.a7.toNat : Int), .string r.ent.body]] W (RetTr (En.may r.ent) W) := fun W => HE.out r.ent W
  have Hcall := Lib.hid hcall
  clear hcall
  generalize recC r = X at FX ⊢
  obtain ⟨hx, ho, x0, x1, x2, x3, x4, x5, x6, x7, x8, x9, x10, x11, x12, x13, x14, x15⟩ := FX
  have hst := storeRec X hx ho
  by_cases h2 : r.kind = 2
  · have E : Hid (Wl.right r = decide (r.ent = En.zero)) := Lib.hid (by unfold Wl.right; exact (if_pos h2).trans (wdec _ _))
    have d1 : ((r.kind : Int) == 2) = true := by simp; omega
    have d2 : ((r.kind : Int) = 2) = True := by simp; omega
    clear h2
    go_enter Tryz.func62, Tryz.ntmps62
    go_wp2_with fail
    go_ret
    exact ⟨by rw [E.out]; rfl, bnew (Below.refl _ _) _⟩
  have d1 : ((r.kind : Int) == 2) = false := by simp; omega
  have d2 : ((r.kind : Int) = 2) = False := by simp; omega
  by_cases h3 : r.kind = 3
  case neg =>
    have E : Hid (Wl.right r = false) := Lib.hid (by unfold Wl.right; rw [if_neg h2]; simp [h3])
    have e1 : ((r.kind : Int) == 3) = false := by simp; omega
    have e2 : ((r.kind : Int) = 3) = False := by simp; omega
    clear h2 h3
    go_enter Tryz.func62, Tryz.ntmps62
    go_wp2_with fail
    go_ret
    exact ⟨by rw [E.out]; rfl, bnew (Below.refl _ _) _⟩
  have e1 : ((r.kind : Int) == 3) = true := by simp; omega
  have e2 : ((r.kind : Int) = 3) = True := by simp; omega
  by_cases h4 : r.trm = 0
  case neg =>
    have E : Hid (Wl.right r = false) := Lib.hid (by unfold Wl.right; rw [if_neg h2]; simp [h4])
    have f1 : ((r.trm : Int) == 0) = false := by simp; omega
    have f2 : ((r.trm : Int) = 0) = False := by simp; omega
    clear h2 h3 h4
    go_enter Tryz.func62, Tryz.ntmps62
    go_wp2_with fail
    go_ret
    exact ⟨by rw [E.out]; rfl, bnew (Below.refl _ _) _⟩
  have f1 : ((r.trm : Int) == 0) = true := by simp; omega
  have f2 : ((r.trm : Int) = 0) = True := by simp; omega
  by_cases h5 : r.vote = 0
  case neg =>
    have E : Hid (Wl.right r = false) := Lib.hid (by unfold Wl.right; rw [if_neg h2]; simp [h5])
    have g1 : ((r.vote : Int) == 0) = false := by simp; omega
    have g2 : ((r.vote : Int) = 0) = False := by simp; omega
    clear h2 h3 h4 h5
    go_enter Tryz.func62, Tryz.ntmps62
    go_wp2_with fail
    go_ret
    exact ⟨by rw [E.out]; rfl, bnew (Below.refl _ _) _⟩
  have g1 : ((r.vote : Int) == 0) = true := by simp; omega
  have g2 : ((r.vote : Int) = 0) = True := by simp; omega
  have E : Hid (Wl.right r = En.may r.ent) := Lib.hid (by unfold Wl.right; rw [if_neg h2]; simp [h3, h4, h5])
  clear h2 h3 h4 h5
  go_enter Tryz.func62, Tryz.ntmps62
  go_wp2_with (go_at_call 119; refine (Hcall.out _).mono ?_; rintro e w1 ⟨rfl, hb1⟩)
  go_ret
  exact ⟨by rw [E.out]; rfl, bnext (bnew (Below.refl _ _) _) hb1⟩
end Go.Proofs.YtjhbpcecdhdnoaaGreatDoor
namespace Go.Proofs.YtjhbpcecdhdnoaaGreatDoor
open Go.RowKit
def Wl.great (l : List Wl.R) : Bool := decide (40 < l.length) || l.any fun r => decide (200 < r.ent.body.size)
theorem Wl.small_of {l : List Wl.R} (h : Wl.great l = false) : l.length ≤ 40 ∧ ∀ r ∈ l, r.ent.body.size ≤ 200 := by
  unfold Wl.great at h
  rw [Bool.or_eq_false_iff, decide_eq_false_iff_not, List.any_eq_false] at h
  exact ⟨by omega, fun r hr => by have := h.2 r hr; simpa using this⟩
set_option maxRecDepth 100000 in
set_option maxHeartbeats 4000000 in
theorem greatRecs_any (l : List Wl.R) (A : Option Addr) (cap : Nat) (w : World) (hA : Lies w A (wrs l)) (hl : l.length ≤ maxLen) :
    Calls Tryz.prog 17 #[.slice A l.length cap] w fun e w' => e = .returned (.bool (Wl.great l)) ∧ Below w.heap.size w w' := by
  have HA := Lib.hid hA
  clear hA
  by_cases h1 : 40 < l.length
  · have E : Hid (Wl.great l = true) := Lib.hid (by unfold Wl.great; simp [h1])
    go_enter Tryz.func17, Tryz.ntmps17
    go_wp2
    go_ret
    exact ⟨by rw [E.out]; rfl, Below.refl _ _⟩
  have Hg : Hid (Wl.great l = l.any fun r => decide (200 < r.ent.body.size)) := Lib.hid (by unfold Wl.great; simp [h1])
  go_enter Tryz.func17, Tryz.ntmps17
  go_wp2
  go_loopw [3] (fun i wr => ∃ k : Nat, k ≤ l.length ∧ i = .int .i64 (k : Int) ∧ (∀ r ∈ l.take k, ¬ 200 < r.ent.body.size) ∧ Below w.heap.size w wr) (fun i _ => l.length - (intOf i).toNat)
  case atStart => exact ⟨0, Nat.zero_le _, rfl, fun r hr => by simp at hr, Below.refl _ _⟩
  case round =>
    obtain ⟨k, hk, rfl, hall, hb⟩ := hrel
    have Hall := Lib.hid hall
    have Hb := Lib.hid hb
    clear hall hb
    by_cases hlt : k < l.length
    · obtain ⟨ba, oa, rfl, hP⟩ := HA.out.recd k hlt
      replace hP := hP.bel Hb.out
      obtain ⟨r, hr⟩ : ∃ r, r = l[k] := ⟨_, rfl⟩
      rw [← hr] at hP
      have Hr := Lib.hid hr
      have c15 := hP.c15
      clear hr hP
      by_cases hbig : 200 < r.ent.body.size
      · have E : Hid (Wl.great l = true) := Lib.hid (by
          rw [Hg.out, List.any_eq_true]
          exact ⟨r, by rw [Hr.out]; exact List.getElem_mem hlt, by simpa using hbig⟩)
        go_wp2
        go_ret
        exact ⟨by rw [E.out]; rfl, Hb.out⟩
      · have Hn := Lib.hid hbig
        go_wp2
        go_roundw
        case rel => exact ⟨k + 1, by omega, by go_num, fun x hx => (by
          rw [List.take_succ_eq_append_getElem hlt] at hx
          rcases List.mem_append.1 hx with hx | hx
          · exact Hall.out x hx
          · rw [List.mem_singleton.1 hx, ← Hr.out]; exact Hn.out), Hb.out⟩
        case measure => simp [intOf]; omega
    · obtain rfl : k = l.length := by omega
      have E : Hid (Wl.great l = false) := Lib.hid (by
        rw [Hg.out, List.any_eq_false]
        intro r hr
        have := Hall.out r (by rw [List.take_length]; exact hr)
        simpa using this)
      go_wp2
      go_ret
      exact ⟨by rw [E.out]; rfl, Hb.out⟩
end Go.Proofs.YtjhbpcecdhdnoaaGreatDoor
namespace Go.Proofs.YtjhbpcecdhdnoaaGreatDoor
open Go.RowKit
set_option linter.unusedVariables false
noncomputable def wtr4C : Code := ((Tryz.f142.body.bind (Reg.findRegion 4)).getD .skip)
set_option maxRecDepth 100000 in
set_option maxHeartbeats 4000000 in
theorem wtr4 {c0 c2 c3 c4 c5 c6 c7 c8 c9 c10 c11 c12 c13 c14 c15 c16 c17 c18 c19 c20 c21 c22 c23 c24 c25 c26 c27 c28 c29 c30 c31 c32 c33 c34 c35 c36 c37 c38 c39 c40 c41 : Value} (r : Wl.R) (g : Nat) (k u v : ByteArray) (w : World) (h1 : w.cell? ⟨g, 1, none⟩ = some (.int .u64 (r.trm : Int))) (h2 : w.cell? ⟨g, 2, none⟩ = some (.int .u8 (r.vote : Int))) (hw8 : IntKind.u64.wrap (r.vote : Int) = (r.vote : Int))
   (hK : ∀ W, Calls Tryz.prog 146 #[.int .u64 2, .int .i64 1] W fun r w' => r = .returned (.string k) ∧ Below W.heap.size W w')
   (hU : ∀ W, Calls Tryz.prog 146 #[.int .u64 (r.vote : Int), .int .i64 1] W fun r w' => r = .returned (.string u) ∧ Below W.heap.size W w')
   (hV : ∀ (W : World) (A : Option Addr), Lies W A (uc [r.trm]) → Calls Tryz.prog 147 #[.slice A 1 1] W fun r w' => r = .returned (.string v) ∧ Below W.heap.size W w')
   (ha : ∀ W : World, (Op.stringOp .add k v).run Tryz.prog W = .ok (.string (k ++ v)) W) (hb0 : ∀ W : World, (Op.stringOp .add (k ++ v) u).run Tryz.prog W = .ok (.string (k ++ v ++ u)) W) (Q : Exit → Act → World → Prop)
   (h : ∀ (u3 : Value) (w' : World), Below w.heap.size w w' → Q .normal ⟨#[c0, .pointer (some ⟨g, 0, none⟩), .string (k ++ v ++ u), c3, c4, c5, c6, c7, c8, c9, c10, .string k, .pointer (some ⟨g, 1, none⟩), .int .u64 (r.trm : Int), u3, .string v, .string (k ++ v), .pointer (some ⟨g, 2, none⟩), .int .u8 (r.vote : Int), .int .u64 (r.vote : Int), .string u, .string (k ++ v ++ u), c22, c23, c24, c25, c26, c27, c28, c29, c30, c31, c32, c33, c34, c35, c36, c37, c38, c39, c40, c41], []⟩ w') :
   Code.wp Tryz.prog wtr4C Q ⟨#[c0, .pointer (some ⟨g, 0, none⟩), c2, c3, c4, c5, c6, c7, c8, c9, c10, c11, c12, c13, c14, c15, c16, c17, c18, c19, c20, c21, c22, c23, c24, c25, c26, c27, c28, c29, c30, c31, c32, c33, c34, c35, c36, c37, c38, c39, c40, c41], []⟩ w := by
  obtain ⟨L, hL⟩ : ∃ L : Nat → List Value × Nat, L = fun i => match i with | 3 => (uc [r.trm], 1) | _ => ([], 0) := ⟨_, rfl⟩
  obtain ⟨Sp, hSp⟩ : ∃ Sp : Nat → Value → World → Prop, Sp = fun i v w => ∃ r, v = .slice (some ⟨r, 0, none⟩) (L i).2 (L i).2 ∧ Lies w (some ⟨r, 0, none⟩) (L i).1 := ⟨_, rfl⟩
  rw [hL] at hSp
  conv => arg 2; whnf
  refine Reg.wp_region_inv (fun w' => Below w.heap.size w w') (fun x y => Below x.heap.size x y) (Reg.KnownI [some (.string k), some (.pointer (some ⟨g, 1, none⟩)), some (.int .u64 (r.trm : Int)), none, some (.string v), some (.string (k ++ v)), some (.pointer (some ⟨g, 2, none⟩)), some (.int .u8 (r.vote : Int)), some (.int .u64 (r.vote : Int)), some (.string u), some (.string (k ++ v ++ u)), some (.string (k ++ v ++ u))] Sp) (by kernel_rfl) (by kernel_rfl) (Reg.knownI_mono ?mono) (Below.refl _ _).drew ?steps ?fin
  case mono =>
    intro i v w w' hs hb
    rw [hSp] at hs ⊢
    obtain ⟨r, hr, hl⟩ := hs
    exact ⟨r, hr, hl.below hb⟩
  case steps =>
    intro hB
    refine ⟨?_, ?_, ?_, ?_, ?_, ?_, ?_, ?_, ?_, ?_, ?_, ?_, trivial⟩
    · -- 0: Op.call { callee := Callee.value (Operand.func 102), args := #[Operand.const (Value.int IntKind.u64 
      refine Reg.step_run hB (Reg.runs_none rfl) (fun a w1 hI hb hd => ?_)
      refine Reg.run_call (f := 146) (args := #[.int .u64 2, .int .i64 1]) ?_ (hK w1) (fun _ _ => rfl) (fun _ h => bnext hI h)
      clear hb hd
      have hc := fun v => Reg.eval_const a v
      have hf := fun f => Reg.eval_func a f
      generalize a.eval = ρ at *
      simp [go_sem, *]
    · -- 1: Op.fieldAddr 62 (Operand.tmp 1) 1
      refine Reg.step_run hB (Reg.runs_none rfl) (fun a w1 hI hb hd => ?_)
      have e1 : a.eval (.tmp 1) = .pointer (some ⟨g, 0, none⟩) := hb 1 (by kernel_rfl)
      refine Reg.run_value (v := .pointer (some ⟨g, 1, none⟩)) ?_ rfl (Below.refl _ _) hI
      clear hb hd
      have hc := fun v => Reg.eval_const a v
      have hf := fun f => Reg.eval_func a f
      generalize a.eval = ρ at *
      simp [execOp, go_sem, *]
    · -- 2: Op.load 38 (Operand.tmp 12)
      refine Reg.step_run hB (Reg.runs_none rfl) (fun a w1 hI hb hd => ?_)
      have e12 : a.eval (.tmp 12) = .pointer (some ⟨g, 1, none⟩) := hd 1 12 (by kernel_rfl) (by kernel_rfl)
      have hl := later hI h1
      refine Reg.run_value (v := .int .u64 (r.trm : Int)) ?_ rfl (Below.refl _ _) hI
      clear hb hd
      have hc := fun v => Reg.eval_const a v
      have hf := fun f => Reg.eval_func a f
      generalize a.eval = ρ at *
      simp [execOp, go_sem, *]
    · -- 3: Op.buildSlice 50 1 #[(0, Operand.tmp 13)]
      refine Reg.step_run hB (Reg.runs_none rfl) (fun a w1 hI hb hd => ?_)
      have e13 : a.eval (.tmp 13) = .int .u64 (r.trm : Int) := hd 2 13 (by kernel_rfl) (by kernel_rfl)
      refine Reg.run_made (v := .slice (some ⟨w1.heap.size, 0, none⟩) 1 1) (w' := w1.alloc (.cells #[.int .u64 (r.trm : Int)] 38)) ?_ (show Sp 3 _ _ by rw [hSp]; exact ⟨_, rfl, Lies.new _ (uc [r.trm]) _⟩) (bnew (Below.refl _ _) _) (bnew hI _)
      clear hb hd
      have hc := fun v => Reg.eval_const a v
      have hf := fun f => Reg.eval_func a f
      generalize a.eval = ρ at *
      simp [execOp, go_sem, *]
    · -- 4: Op.call { callee := Callee.value (Operand.func 103), args := #[Operand.tmp 14], argTypes := #[50] }
      refine Reg.step_run hB (Reg.runs_none rfl) (fun a w1 hI hb hd => ?_)
      have e14 : Sp 3 (a.eval (.tmp 14)) w1 := hd 3 14 (by kernel_rfl) (by kernel_rfl)
      rw [hSp] at e14
      obtain ⟨r, hr, hl⟩ := e14
      replace hr : a.eval (.tmp 14) = .slice (some ⟨r, 0, none⟩) 1 1 := hr
      refine Reg.run_call (f := 147) (args := #[.slice (some ⟨r, 0, none⟩) 1 1]) ?_ (hV w1 _ hl) (fun _ _ => rfl) (fun _ h => bnext hI h)
      clear hb hd
      have hc := fun v => Reg.eval_const a v
      have hf := fun f => Reg.eval_func a f
      generalize a.eval = ρ at *
      simp [go_sem, *]
    · -- 5: Op.binOp BinOp.add 9 (Operand.tmp 11) (Operand.tmp 15) 9
      refine Reg.step_run hB (Reg.runs_none rfl) (fun a w1 hI hb hd => ?_)
      have e11 : a.eval (.tmp 11) = .string k := hd 0 11 (by kernel_rfl) (by kernel_rfl)
      have e15 : a.eval (.tmp 15) = .string v := hd 4 15 (by kernel_rfl) (by kernel_rfl)
      have ha2 := ha w1
      refine Reg.run_value (v := .string (k ++ v)) ?_ rfl (Below.refl _ _) hI
      clear hb hd
      have hc := fun v => Reg.eval_const a v
      have hf := fun f => Reg.eval_func a f
      generalize a.eval = ρ at *
      simp [execOp, go_sem, *]
    · -- 6: Op.fieldAddr 62 (Operand.tmp 1) 2
      refine Reg.step_run hB (Reg.runs_none rfl) (fun a w1 hI hb hd => ?_)
      have e1 : a.eval (.tmp 1) = .pointer (some ⟨g, 0, none⟩) := hb 1 (by kernel_rfl)
      refine Reg.run_value (v := .pointer (some ⟨g, 2, none⟩)) ?_ rfl (Below.refl _ _) hI
      clear hb hd
      have hc := fun v => Reg.eval_const a v
      have hf := fun f => Reg.eval_func a f
      generalize a.eval = ρ at *
      simp [execOp, go_sem, *]
    · -- 7: Op.load 5 (Operand.tmp 17)
      refine Reg.step_run hB (Reg.runs_none rfl) (fun a w1 hI hb hd => ?_)
      have e17 : a.eval (.tmp 17) = .pointer (some ⟨g, 2, none⟩) := hd 6 17 (by kernel_rfl) (by kernel_rfl)
      have hl := later hI h2
      refine Reg.run_value (v := .int .u8 (r.vote : Int)) ?_ rfl (Below.refl _ _) hI
      clear hb hd
      have hc := fun v => Reg.eval_const a v
      have hf := fun f => Reg.eval_func a f
      generalize a.eval = ρ at *
      simp [execOp, go_sem, *]
    · -- 8: Op.convert 5 38 (Operand.tmp 18)
      refine Reg.step_run hB (Reg.runs_none rfl) (fun a w1 hI hb hd => ?_)
      have e18 : a.eval (.tmp 18) = .int .u8 (r.vote : Int) := hd 7 18 (by kernel_rfl) (by kernel_rfl)
      refine Reg.run_value (v := .int .u64 (r.vote : Int)) ?_ rfl (Below.refl _ _) hI
      clear hb hd
      have hc := fun v => Reg.eval_const a v
      have hf := fun f => Reg.eval_func a f
      generalize a.eval = ρ at *
      simp [execOp, go_sem, hw8, *]
    · -- 9: Op.call { callee := Callee.value (Operand.func 102), args := #[Operand.tmp 19, Operand.const (Value.
      refine Reg.step_run hB (Reg.runs_none rfl) (fun a w1 hI hb hd => ?_)
      have e19 : a.eval (.tmp 19) = .int .u64 (r.vote : Int) := hd 8 19 (by kernel_rfl) (by kernel_rfl)
      refine Reg.run_call (f := 146) (args := #[.int .u64 (r.vote : Int), .int .i64 1]) ?_ (hU w1) (fun _ _ => rfl) (fun _ h => bnext hI h)
      clear hb hd
      have hc := fun v => Reg.eval_const a v
      have hf := fun f => Reg.eval_func a f
      generalize a.eval = ρ at *
      simp [go_sem, *]
    · -- 10: Op.binOp BinOp.add 9 (Operand.tmp 16) (Operand.tmp 20) 9
      refine Reg.step_run hB (Reg.runs_none rfl) (fun a w1 hI hb hd => ?_)
      have e16 : a.eval (.tmp 16) = .string (k ++ v) := hd 5 16 (by kernel_rfl) (by kernel_rfl)
      have e20 : a.eval (.tmp 20) = .string u := hd 9 20 (by kernel_rfl) (by kernel_rfl)
      have ha2 := hb0 w1
      refine Reg.run_value (v := .string (k ++ v ++ u)) ?_ rfl (Below.refl _ _) hI
      clear hb hd
      have hc := fun v => Reg.eval_const a v
      have hf := fun f => Reg.eval_func a f
      generalize a.eval = ρ at *
      simp [execOp, go_sem, *]
    · -- 11: Op.assign (Operand.tmp 21)
      refine Reg.step_run hB (Reg.runs_none rfl) (fun a w1 hI hb hd => ?_)
      have e21 : a.eval (.tmp 21) = .string (k ++ v ++ u) := hd 10 21 (by kernel_rfl) (by kernel_rfl)
      exact Reg.run_value (Reg.run_assign rfl e21) rfl (Below.refl _ _) hI
  case fin =>
    intro vals w' hI hg
    have g0 : vals 0 = .string k := hg 0 (by simp)
    have g1 : vals 1 = .pointer (some ⟨g, 1, none⟩) := hg 1 (by simp)
    have g2 : vals 2 = .int .u64 (r.trm : Int) := hg 2 (by simp)
    have g4 : vals 4 = .string v := hg 4 (by simp)
    have g5 : vals 5 = .string (k ++ v) := hg 5 (by simp)
    have g6 : vals 6 = .pointer (some ⟨g, 2, none⟩) := hg 6 (by simp)
    have g7 : vals 7 = .int .u8 (r.vote : Int) := hg 7 (by simp)
    have g8 : vals 8 = .int .u64 (r.vote : Int) := hg 8 (by simp)
    have g9 : vals 9 = .string u := hg 9 (by simp)
    have g10 : vals 10 = .string (k ++ v ++ u) := hg 10 (by simp)
    have g11 : vals 11 = .string (k ++ v ++ u) := hg 11 (by simp)
    refine Reg.fin_of (y := #[c0, .pointer (some ⟨g, 0, none⟩), vals 11, c3, c4, c5, c6, c7, c8, c9, c10, vals 0, vals 1, vals 2, vals 3, vals 4, vals 5, vals 6, vals 7, vals 8, vals 9, vals 10, c22, c23, c24, c25, c26, c27, c28, c29, c30, c31, c32, c33, c34, c35, c36, c37, c38, c39, c40, c41]) (by kernel_rfl) ?_
    rw [g0, g1, g2, g4, g5, g6, g7, g8, g9, g10, g11]
    exact h (vals 3) w' hI
end Go.Proofs.YtjhbpcecdhdnoaaGreatDoor
namespace Go.Proofs.YtjhbpcecdhdnoaaGreatDoor
open Go.RowKit Go.Sort
theorem recC_ent (r : Wl.R) : ∀ j, j < (entC r.ent).size → (recC r)[3 + j]? = (entC r.ent)[j]? := by
  intro j hj
  have hj : j < 13 := hj
  have : j = 0 ∨ j = 1 ∨ j = 2 ∨ j = 3 ∨ j = 4 ∨ j = 5 ∨ j = 6 ∨ j = 7 ∨ j = 8 ∨ j = 9 ∨ j = 10 ∨ j = 11 ∨ j = 12 := by omega
  rcases this with rfl | rfl | rfl | rfl | rfl | rfl | rfl | rfl | rfl | rfl | rfl | rfl | rfl <;> rfl
theorem wsizeEnt (e : En.E) : (Tryz.prog.info? 88).map (·.size) = some (entC e).size := by
  show _ = some 13
  kernel_rfl
theorem wone1 (k : Nat) (h : k < 256) : Nm.wid 1 k = Cm.one k := by
  unfold Cm.one
  simp [Nm.wid]
  congr 1
  omega
theorem wwrite_len {e : En.E} (hf : En.Fits e) (hz : e.body.size ≤ 1000000) : (En.write e).length ≤ 2000000 := by
  unfold En.write
  split
  · have := En.enc_len e hf (by unfold Nm.top; omega); omega
  · simp
def Wl.textO (r : Wl.R) : List UInt8 := if Wl.right r then Wl.text r else []
set_option maxRecDepth 100000 in
set_option maxHeartbeats 4000000 in
theorem recordText_any (r : Wl.R) (hf : Wl.Fits r) (hz : r.ent.body.size ≤ 1000000) (w : World) : Calls Tryz.prog 142 #[.agg (recC r)] w (RetS (Wl.textO r) w) := by
  have HR := Lib.hid (fun W => right_any r.ent W)
  have HW := Lib.hid (fun W => write_any r.ent hf.ent hz W)
  have HK := Lib.hid (fun W => U_any 2 1 W (by decide) (by decide))
  have HK3 := Lib.hid (fun W => U_any 3 1 W (by decide) (by decide))
  have HU := Lib.hid (fun W => U_any r.vote 1 W (by decide) (by decide))
  have HV := Lib.hid (fun (W : World) (A : Option Addr) (hl : Lies W A (uc [r.trm])) => V_any [r.trm] (fun x hx => by rw [List.mem_singleton.1 hx]; exact hf.trm) A 1 W hl (by simp))
  have HXe := Lib.hid (recC_ent r)
  have HZe := Lib.hid (wsizeEnt r.ent)
  have hze : ∀ W, (binOp .eql 88 (.agg (entC r.ent)) (.agg #[.int .u64 0, .int .u64 0, .int .u8 0, .int .u8 0, .int .u8 0, .int .u8 0, .int .u8 0, .int .u8 0, .int .u8 0, .int .u8 0, .int .u8 0, .int .u8 0, .string ⟨#[]⟩])).run Tryz.prog W = .ok (.bool (decide (r.ent = En.zero))) W := fun W => (ent_eql r.ent En.zero W).trans (congrArg (fun b => Result.ok (Value.bool b) W) (by congr))
  have hw8 : IntKind.u64.wrap (r.vote : Int) = (r.vote : Int) := wrap_u64_nat _ (by have := hf.vote; unfold Nm.top; omega)
  have hvt := hf.vote
  have htl := grp_len r.trm hf.trm
  have FX := recF r
  generalize entC r.ent = Y at *
  generalize recC r = X at *
  obtain ⟨hx, ho, x0, x1, x2, x3, x4, x5, x6, x7, x8, x9, x10, x11, x12, x13, x14, x15⟩ := FX
  clear x3 x4 x5 x6 x7 x8 x9 x10 x11 x12 x13 x14 x15
  have hst := storeRec X hx ho
  unfold RetS at HW HK HK3 HU HV
  unfold RetTr at HR
  by_cases h2 : r.kind = 2
  · have d1 : ((r.kind : Int) == 2) = true := by simp; omega
    have d2 : ((r.kind : Int) = 2) = True := by simp; omega
    by_cases hen : r.ent = En.zero
    · have hdz : decide (r.ent = En.zero) = true := by simp [hen]
      rw [hdz] at hze
      obtain ⟨k, hk⟩ : ∃ u : ByteArray, u = ⟨(Nm.wid 1 2).toArray⟩ := ⟨_, rfl⟩
      obtain ⟨u, hu⟩ : ∃ u : ByteArray, u = ⟨(Nm.wid 1 r.vote).toArray⟩ := ⟨_, rfl⟩
      obtain ⟨v, hv⟩ : ∃ u : ByteArray, u = ⟨(vs [r.trm]).toArray⟩ := ⟨_, rfl⟩
      rw [← hk] at HK
      rw [← hu] at HU
      rw [← hv] at HV
      have hks : k.size ≤ 1 := by rw [hk, Lib.size_eq]; simp [Nm.wid_length]
      have hus : u.size ≤ 1 := by rw [hu, Lib.size_eq]; simp [Nm.wid_length]
      have hvs : v.size ≤ 10 := by rw [hv, Lib.size_eq]; simpa [vs] using htl
      have ha : ∀ W : World, (Op.stringOp .add k v).run Tryz.prog W = .ok (.string (k ++ v)) W := fun W => by
        have : ¬ 9223372036854775807 < k.size + v.size := by omega
        simp [go_sem, this]
      have hb : ∀ W : World, (Op.stringOp .add (k ++ v) u).run Tryz.prog W = .ok (.string (k ++ v ++ u)) W := fun W => by
        have : ¬ 9223372036854775807 < (k ++ v).size + u.size := by rw [ByteArray.size_append]; omega
        have e : (k ++ v).size = k.size + v.size := ByteArray.size_append
        rw [e] at this
        simp [go_sem, this]
      have HE : Hid (k ++ v ++ u = ⟨(Wl.textO r).toArray⟩) := Lib.hid (by
        rw [hk, hv, hu, ba_add, ba_add]
        unfold Wl.textO Wl.right Wl.text
        rw [if_pos h2, if_pos h2, hen, if_pos (by simp), wone1 2 (by decide), wone1 _ hf.vote]
        simp [vs])
      have HA := Lib.hid ha
      have HB := Lib.hid hb
      clear hk hu hv h2 hdz hen htl ha hb hf hz
      go_enter Tryz.func142, Tryz.ntmps142
      go_wp2_with (refine wpList_load_sub rfl 88 _ rfl w.heap.size 3 rfl 90 X Y (0, 0) _ (heap_alloc_new w _) HXe.out Tryz.underlying88 rfl HZe.out ?_)
      refine wtr4 r w.heap.size k u v _ ?_ ?_ hw8 HK.out HU.out HV.out HA.out HB.out _ ?_
      · rw [cell_of_row _ w.heap.size 1 X _ _ (heap_alloc_new w _), Array.getElem?_eq_getElem (by omega), x1]
      · rw [cell_of_row _ w.heap.size 2 X _ _ (heap_alloc_new w _), Array.getElem?_eq_getElem (by omega), x2]
      intro u8 w' hb'
      go_wp2_with fail
      go_ret
      exact ⟨by rw [← HE.out]; rfl, bnext (bnew (Below.refl _ _) _) hb'⟩
    · have hdz : decide (r.ent = En.zero) = false := by simp [hen]
      rw [hdz] at hze
      have E : Hid (Wl.textO r = []) := Lib.hid (by unfold Wl.textO Wl.right; rw [if_pos h2]; simp [hen])
      clear h2 hen hdz htl hf hz
      go_enter Tryz.func142, Tryz.ntmps142
      go_wp2_with (refine wpList_load_sub rfl 88 _ rfl w.heap.size 3 rfl 90 X Y (0, 0) _ (heap_alloc_new w _) HXe.out Tryz.underlying88 rfl HZe.out ?_)
      go_ret
      exact ⟨by rw [E.out]; rfl, bnew (Below.refl _ _) _⟩
  have d1 : ((r.kind : Int) == 2) = false := by simp; omega
  have d2 : ((r.kind : Int) = 2) = False := by simp; omega
  by_cases h3 : r.kind = 3
  case neg =>
    have E : Hid (Wl.textO r = []) := Lib.hid (by unfold Wl.textO Wl.right; rw [if_neg h2]; simp [h3])
    have e1 : ((r.kind : Int) == 3) = false := by simp; omega
    have e2 : ((r.kind : Int) = 3) = False := by simp; omega
    clear h2 h3 htl hf hz
    go_enter Tryz.func142, Tryz.ntmps142
    go_wp2_with fail
    go_ret
    exact ⟨by rw [E.out]; rfl, bnew (Below.refl _ _) _⟩
  have e1 : ((r.kind : Int) == 3) = true := by simp; omega
  have e2 : ((r.kind : Int) = 3) = True := by simp; omega
  by_cases h4 : r.trm = 0
  case neg =>
    have E : Hid (Wl.textO r = []) := Lib.hid (by unfold Wl.textO Wl.right; rw [if_neg h2]; simp [h4])
    have f1 : ((r.trm : Int) == 0) = false := by simp; omega
    have f2 : ((r.trm : Int) = 0) = False := by simp; omega
    clear h2 h3 h4 htl hf hz
    go_enter Tryz.func142, Tryz.ntmps142
    go_wp2_with fail
    go_ret
    exact ⟨by rw [E.out]; rfl, bnew (Below.refl _ _) _⟩
  have f1 : ((r.trm : Int) == 0) = true := by simp; omega
  have f2 : ((r.trm : Int) = 0) = True := by simp; omega
  by_cases h5 : r.vote = 0
  case neg =>
    have E : Hid (Wl.textO r = []) := Lib.hid (by unfold Wl.textO Wl.right; rw [if_neg h2]; simp [h5])
    have g1 : ((r.vote : Int) == 0) = false := by simp; omega
    have g2 : ((r.vote : Int) = 0) = False := by simp; omega
    clear h2 h3 h4 h5 htl hf hz
    go_enter Tryz.func142, Tryz.ntmps142
    go_wp2_with fail
    go_ret
    exact ⟨by rw [E.out]; rfl, bnew (Below.refl _ _) _⟩
  have g1 : ((r.vote : Int) == 0) = true := by simp; omega
  have g2 : ((r.vote : Int) = 0) = True := by simp; omega
  by_cases h6 : En.may r.ent = true
  case neg =>
    have h6 : En.may r.ent = false := by simpa using h6
    rw [h6] at HR
    have E : Hid (Wl.textO r = []) := Lib.hid (by unfold Wl.textO Wl.right; rw [if_neg h2]; simp [h6])
    clear h2 h3 h4 h5 h6 htl hf hz
    go_enter Tryz.func142, Tryz.ntmps142
    go_wp2_with (first | (refine wpList_load_sub rfl 88 _ rfl w.heap.size 3 rfl 90 X Y (0, 0) _ (heap_alloc_new w _) HXe.out Tryz.underlying88 rfl HZe.out ?_) | (go_at_call 181; refine (HR.out _).mono ?_; rintro e w1 ⟨rfl, hb1⟩))
    go_ret
    exact ⟨by rw [E.out]; rfl, bnext (bnew (Below.refl _ _) _) hb1⟩
  rw [h6] at HR
  obtain ⟨k, hk⟩ : ∃ u : ByteArray, u = ⟨(Nm.wid 1 3).toArray⟩ := ⟨_, rfl⟩
  obtain ⟨u, hu⟩ : ∃ u : ByteArray, u = ⟨(En.write r.ent).toArray⟩ := ⟨_, rfl⟩
  rw [← hk] at HK3
  rw [← hu] at HW
  have hks : k.size ≤ 1 := by rw [hk, Lib.size_eq]; simp [Nm.wid_length]
  have hus : u.size ≤ 2000000 := by rw [hu, Lib.size_eq]; exact wwrite_len hf.ent hz
  have ha : ∀ W : World, (Op.stringOp .add k u).run Tryz.prog W = .ok (.string (k ++ u)) W := fun W => by
    have : ¬ 9223372036854775807 < k.size + u.size := by omega
    simp [go_sem, this]
  have HE : Hid (k ++ u = ⟨(Wl.textO r).toArray⟩) := Lib.hid (by
    rw [hk, hu, ba_add]
    unfold Wl.textO Wl.right Wl.text
    rw [if_neg h2, if_neg h2, if_pos (by simp [h3, h4, h5, h6]), wone1 3 (by decide)])
  clear hk hu h2 h3 h4 h5 h6 htl hf hz
  go_enter Tryz.func142, Tryz.ntmps142
  go_wp2_with (first | (refine wpList_load_sub rfl 88 _ rfl w.heap.size 3 rfl 90 X Y (0, 0) _ (heap_alloc_new w _) HXe.out Tryz.underlying88 rfl HZe.out ?_) | (go_at_call 181; refine (HR.out _).mono ?_; rintro e w1 ⟨rfl, hb1⟩))
  refine forget (F := fun W => W.heap[w.heap.size]? = some (.cells X 90 (0, 0)) ∧ Below w.heap.size w W) ⟨(hb1.block _ (by simp)).trans (heap_alloc_new w _), bnext (bnew (Below.refl _ _) _) hb1⟩ ?_
  intro W hF
  have HF := Lib.hid hF
  clear hb1 hF
  refine wp_region_quiet_below (by kernel_rfl) (by kernel_rfl) ?_
  repeat (first | (refine wpQuiet_load_sub rfl 88 _ rfl w.heap.size 3 rfl 90 X Y (0, 0) _ HF.out.1 HXe.out Tryz.underlying88 rfl HZe.out ?_; (conv => arg 6; simp [Act.put])) | (go_big_quiet_step (first | (go_at_call 146; exact Calls.regrown_of (HK3.out _)) | (go_at_call 200; exact Calls.regrown_of (HW.out _)))))
  refine wpQuiet_nil ?_
  intro _ hw'
  obtain ⟨pq, hw''⟩ := hw'
  subst hw''
  have hbr := below_regrown W pq.d pq.os
  generalize Go.Sort.grow (redrawn W pq.d) pq.os = w4 at *
  go_wp2_with fail
  go_ret
  exact ⟨by rw [← HE.out]; rfl, bnext HF.out.2 hbr⟩
end Go.Proofs.YtjhbpcecdhdnoaaGreatDoor
namespace Go.Proofs.YtjhbpcecdhdnoaaGreatDoor
open Go.RowKit
theorem RecL.rng {W : World} {b o : Nat} {r : Wl.R} (h : RecL W b o r) : W.rangeAt b o (recC r).toList := fun j v hv => by
  rw [wr1_toList] at hv
  have hj : j < 16 := (List.getElem?_eq_some_iff.1 hv).1
  have : j = 0 ∨ j = 1 ∨ j = 2 ∨ j = 3 ∨ j = 4 ∨ j = 5 ∨ j = 6 ∨ j = 7 ∨ j = 8 ∨ j = 9 ∨ j = 10 ∨ j = 11 ∨ j = 12 ∨ j = 13 ∨ j = 14 ∨ j = 15 := by omega
  rcases this with rfl | rfl | rfl | rfl | rfl | rfl | rfl | rfl | rfl | rfl | rfl | rfl | rfl | rfl | rfl | rfl <;> (injection hv with hv; subst hv)
  · exact h.c0
  · exact h.c1
  · exact h.c2
  · exact h.c3
  · exact h.c4
  · exact h.c5
  · exact h.c6
  · exact h.c7
  · exact h.c8
  · exact h.c9
  · exact h.c10
  · exact h.c11
  · exact h.c12
  · exact h.c13
  · exact h.c14
  · exact h.c15
theorem recC_size (r : Wl.R) : (recC r).size = 16 := rfl
theorem textO_len {r : Wl.R} (hf : Wl.Fits r) (hz : r.ent.body.size ≤ 1000000) : (Wl.textO r).length ≤ 2000001 := by
  unfold Wl.textO Wl.text
  have h1 := wwrite_len hf.ent hz
  have h2 := grp_len r.trm hf.trm
  split
  · split
    · simp [Cm.one]; omega
    · simp [Cm.one]; omega
  · simp
theorem textO_ne {r : Wl.R} (h : Wl.right r = true) : Wl.textO r = Wl.text r ∧ Wl.textO r ≠ [] := by
  have e : Wl.textO r = Wl.text r := by unfold Wl.textO; rw [if_pos h]
  refine ⟨e, ?_⟩
  rw [e]
  unfold Wl.text
  split <;> simp [Cm.one]
def tsc (l : List Wl.R) : List Value := sc (l.map fun r => Wl.ba (Wl.text r))
theorem tsc_take (l : List Wl.R) (k : Nat) (h : k < l.length) : tsc (l.take (k + 1)) = tsc (l.take k) ++ [.string (Wl.ba (Wl.text l[k]))] := by
  unfold tsc sc
  rw [List.take_succ_eq_append_getElem h, List.map_append, List.map_append]
  rfl
def WTexts (l : List Wl.R) (w : World) (e : Ending) (w' : World) : Prop :=
  (if l.all Wl.right then ∃ B cb, e = .returned (.tuple #[.slice B l.length cb, .bool true]) ∧ w'.ownsRow w.heap.size 9 1 (.slice B l.length cb) l.length (tsc l) else e = .returned (.tuple #[.slice none 0 0, .bool false])) ∧ Below w.heap.size w w'
set_option maxRecDepth 100000 in
set_option maxHeartbeats 4000000 in
theorem recordTexts_any (l : List Wl.R) (A : Option Addr) (cap : Nat) (w : World) (hA : Lies w A (wrs l)) (hl : l.length ≤ 1000000) (hf : ∀ r ∈ l, Wl.Fits r ∧ r.ent.body.size ≤ 1000000) :
    Calls Tryz.prog 91 #[.slice A l.length cap] w (WTexts l w) := by
  obtain ⟨i0, hi, hz0, hz1, hz2⟩ := info_parts infoStr
  have HA := Lib.hid hA
  have HF := Lib.hid hf
  clear hA hf
  go_enter Tryz.func91, Tryz.ntmps91
  go_wp2_with fail
  go_loopw [2, 9] (fun v i wr => ∃ k : Nat, k ≤ l.length ∧ i = .int .i64 (k : Int) ∧ (∀ r ∈ l.take k, Wl.right r = true) ∧ wr.ownsRow w.heap.size 9 1 v k (tsc (l.take k)) ∧ Below w.heap.size w wr) (fun _ i _ => l.length - (intOf i).toNat)
  case atStart => exact ⟨0, Nat.zero_le _, rfl, fun r hr => by simp at hr, World.ownsRow_nil _ _ _ _, Below.refl _ _⟩
  case round =>
    obtain ⟨k, hk, rfl, hall, hown, hb⟩ := hrel
    obtain ⟨B, cb, rfl, _⟩ := own_slice hown
    by_cases hlt : k < l.length
    · obtain ⟨b, o, rfl, hP⟩ := (HA.out.below hb).recd k hlt
      have hfr := HF.out l[k] (List.getElem_mem hlt)
      have HT := Lib.hid (tsc_take l k hlt)
      have HM := Lib.hid (List.getElem_mem hlt)
      have HTk : Hid (∀ r ∈ l.take (k + 1), r ∈ l.take k ∨ r = l[k]) := Lib.hid fun r hr => by
        rw [List.take_succ_eq_append_getElem hlt] at hr
        rcases List.mem_append.1 hr with h | h
        · exact .inl h
        · exact .inr (List.mem_singleton.1 h)
      obtain ⟨r, hr⟩ : ∃ r, r = l[k] := ⟨_, rfl⟩
      rw [← hr] at hP hfr HT HM HTk
      have HR := Lib.hid (fun W => recordText_any r hfr.1 hfr.2 W)
      have hst := storeRec (recC r) rfl (recF r).one
      have HRg := Lib.hid hP.rng
      have hz : (Tryz.prog.info? 90).map (·.size) = some (recC r).size := sizeRec
      have hsz := recC_size r
      have HZ := Lib.hid hz
      have HO := Lib.hid (And.intro hall (And.intro hown hb))
      have hlen := textO_len hfr.1 hfr.2
      have HNe := Lib.hid (fun h => textO_ne (r := r) h)
      have HEm : Hid (Wl.right r = false → Wl.textO r = []) := Lib.hid fun h => by unfold Wl.textO; rw [h]; rfl
      clear hall hown hb hP hfr hr hz
      generalize recC r = X at *
      unfold RetS at HR
      rcases hrt : Wl.right r with _ | _
      · rw [HEm.out hrt] at HR
        have E : Hid (l.all Wl.right = false) := Lib.hid (List.all_eq_false.2 ⟨r, HM.out, by rw [hrt]; decide⟩)
        clear hrt
        go_wp2_with (first
          | (refine wpList_load_rng rfl 90 _ rfl b (o + k * 16) rfl X _ HRg.out Tryz.underlying90 rfl HZ.out ?_)
          | (refine wpList_load_sub rfl 90 _ rfl wr.heap.size 0 rfl 90 X X (0, 0) _ (heap_alloc_new wr _) (fun j hj => by rw [Nat.zero_add]) Tryz.underlying90 rfl HZ.out ?_)
          | (go_at_call 142; refine (HR.out _).mono ?_; rintro e w1 ⟨rfl, hb1⟩))
        go_ret2
        exact ⟨by rw [E.out]; rfl, bnext (bnew HO.out.2.2 _) hb1⟩
      · obtain ⟨e1, e2⟩ := HNe.out hrt
        rw [e1] at HR
        obtain ⟨s, hs⟩ : ∃ s : ByteArray, s = ⟨(Wl.text r).toArray⟩ := ⟨_, rfl⟩
        rw [← hs] at HR
        have hs0 : (s.toList == []) = false := by
          rw [hs, ByteArray.toList_eq]
          simpa [← e1] using e2
        have HT2 : Hid (tsc (l.take (k + 1)) = tsc (l.take k) ++ [.string s]) := Lib.hid (by rw [HT.out, hs]; rfl)
        have Hrt := Lib.hid hrt
        clear hs hrt HT e1 e2 HNe HEm
        go_wp2_with (first
          | (refine wpList_load_rng rfl 90 _ rfl b (o + k * 16) rfl X _ HRg.out Tryz.underlying90 rfl HZ.out ?_)
          | (refine wpList_load_sub rfl 90 _ rfl wr.heap.size 0 rfl 90 X X (0, 0) _ (heap_alloc_new wr _) (fun j hj => by rw [Nat.zero_add]) Tryz.underlying90 rfl HZ.out ?_)
          | (go_at_call 142; refine (HR.out _).mono ?_; rintro e w1 ⟨rfl, hb1⟩; have H1 := Lib.hid hb1; have HO1 : Hid (w1.ownsRow w.heap.size 9 1 (.slice B k cb) k (tsc (l.take k)) ∧ Below w.heap.size w w1) := Lib.hid ⟨own_kept HO.out.2.1 fun j hj => (hb1.block j (by have := (own_lt HO.out.2.1 hj).1; simp; omega)).trans ((bnew (Below.refl wr.heap.size wr) _).block j (own_lt HO.out.2.1 hj).1), bnext (bnew HO.out.2.2 _) hb1⟩; clear hb1)
          | (at_builtin; refine wpList_app_own rfl (.tmp 17) (.tmp 19) 93 rfl w.heap.size 9 i0 (.string ⟨#[]⟩) 1 16 Tryz.underlying93 hi hz0 hz1 hz2 rfl (by decide) _ _ _ rfl (own_kept HO1.out.1 fun j hj => (bnew (Below.refl w1.heap.size w1) _).block j (own_lt HO1.out.1 hj).1) ⟨w1.heap.size, 0, none⟩ 1 1 [.string s] rfl rfl (news_fl w1 [.string s] 9) (fun u hu => by simp at hu; subst hu; rfl) (by simp only [maxLen]; omega) (by omega) (by have := HO1.out.2.size; simp only [World.size_alloc]; omega) ?_; intro v' w2 ho2 hg2 hn2))
        go_roundw
        case rel =>
          refine ⟨k + 1, by omega, by go_num, fun x hx => (HTk.out x hx).elim (HO.out.1 x) (fun h => by rw [h]; exact Hrt.out), ?_, ?_⟩
          · rw [HT2.out]; exact ho2
          · refine (bnew HO1.out.2 _).grown hg2 (by have := HO1.out.2.size; simp; omega) (fun j hj => (own_lt HO1.out.1 hj).2)
        case measure => simp [intOf]; omega
    · obtain rfl : k = l.length := by omega
      have E : Hid (l.all Wl.right = true) := Lib.hid (List.all_eq_true.2 fun r hr => hall r (by rw [List.take_length]; exact hr))
      rw [List.take_length] at hown
      have HO := Lib.hid (And.intro hown hb)
      clear hall hown hb
      go_wp2_with fail
      go_ret2
      unfold WTexts
      rw [E.out]
      exact ⟨⟨_, _, rfl, HO.out.1⟩, HO.out.2⟩
end Go.Proofs.YtjhbpcecdhdnoaaGreatDoor
