/-
  msg.Right walked. WRITTEN BY wip/tools/gen_mgright.py.
-/
import Derived.Test.YtpdahbfjbgcmgaaRMgA
set_option linter.unusedSimpArgs false
set_option linter.unusedVariables false
namespace Go.Proofs.Ytpdahbfjbgcmgaa
open Go.RowKit
set_option maxRecDepth 100000 in
set_option maxHeartbeats 4000000 in
theorem mRight_any (m : Mg.M) (A : Option Addr) (cap : Nat) (w : World) (hA : Lies w A (ec m.ents)) : Calls Try.prog 38 #[.agg (msgC m A cap)] w (RetTr (Mg.may m) w) := by
  unfold RetTr
  have HF := Lib.hid (fun W => isNode_any m.frm W)
  have HT := Lib.hid (fun W => isNode_any m.tto W)
  have HS : Hid (∀ W, Below w.heap.size w W → Calls Try.prog 82 #[.slice A m.ents.length cap] W fun e w' => e = .returned (.bool (Mg.sent m.ents)) ∧ Below W.heap.size W w') := Lib.hid fun W hb => mbs_any m.ents A cap W (hA.below hb)
  have hmay : Mg.may m = (decide (1 ≤ m.kind) && (decide (m.kind ≤ 7) && (Mg.node m.frm && (Mg.node m.tto && (decide (m.mem ≤ 31) && (decide (m.sec ≤ 4) && Mg.sent m.ents)))))) := rfl
  obtain ⟨se, hse⟩ : ∃ se, se = Mg.sent m.ents := ⟨_, rfl⟩
  obtain ⟨nf, hnf⟩ : ∃ nf, nf = Mg.node m.frm := ⟨_, rfl⟩
  obtain ⟨nt, hnt⟩ : ∃ nt, nt = Mg.node m.tto := ⟨_, rfl⟩
  rw [← hse] at HS hmay
  rw [← hnf] at HF hmay
  rw [← hnt] at HT hmay
  have Hm := Lib.hid hmay
  have F := msgF m A cap
  generalize msgC m A cap = X at F ⊢
  obtain ⟨hx, _, x0, x1, x2, x3, x4, x5, x6, x7, x8, x9, x10, x11, x12⟩ := F
  clear hA hmay hse hnf hnt
  by_cases g0 : 1 ≤ m.kind
  case neg =>
    have d0a : decide (1 ≤ m.kind) = false := by simp; omega
    have d0b : decide ((1 : Int) ≤ (m.kind : Int)) = false := by simp; omega
    have d0c : ((1 : Int) ≤ (m.kind : Int)) = False := by simp; omega
    have E : Hid (Mg.may m = false) := Lib.hid (by rw [Hm.out, decide_eq_false g0]; simp)
    clear Hm g0
    go_enter Try.func38, Try.ntmps38
    go_wp2_with fail
    go_ret
    exact ⟨by rw [E.out]; rfl, bnew (Below.refl _ _) _⟩
  have d0a : decide (1 ≤ m.kind) = true := by simp; omega
  have d0b : decide ((1 : Int) ≤ (m.kind : Int)) = true := by simp; omega
  have d0c : ((1 : Int) ≤ (m.kind : Int)) = True := by simp; omega
  by_cases g1 : m.kind ≤ 7
  case neg =>
    have d1a : decide (m.kind ≤ 7) = false := by simp; omega
    have d1b : decide ((m.kind : Int) ≤ 7) = false := by simp; omega
    have d1c : ((m.kind : Int) ≤ 7) = False := by simp; omega
    have E : Hid (Mg.may m = false) := Lib.hid (by rw [Hm.out, decide_eq_false g1]; simp)
    clear Hm g0 g1
    go_enter Try.func38, Try.ntmps38
    go_wp2_with fail
    go_ret
    exact ⟨by rw [E.out]; rfl, bnew (Below.refl _ _) _⟩
  have d1a : decide (m.kind ≤ 7) = true := by simp; omega
  have d1b : decide ((m.kind : Int) ≤ 7) = true := by simp; omega
  have d1c : ((m.kind : Int) ≤ 7) = True := by simp; omega
  cases nf
  · have E : Hid (Mg.may m = false) := Lib.hid (by rw [Hm.out]; simp)
    clear Hm g0 g1
    go_enter Try.func38, Try.ntmps38
    go_wp2_with fail
    refine (HF.out _).mono ?_
    rintro r w1 ⟨rfl, rfl⟩
    go_wp2_with fail
    go_ret
    exact ⟨by rw [E.out]; rfl, bnew (Below.refl _ _) _⟩
  cases nt
  · have E : Hid (Mg.may m = false) := Lib.hid (by rw [Hm.out]; simp)
    clear Hm g0 g1
    go_enter Try.func38, Try.ntmps38
    go_wp2_with fail
    refine (HF.out _).mono ?_
    rintro r w1 ⟨rfl, rfl⟩
    go_wp2_with fail
    refine (HT.out _).mono ?_
    rintro r w1 ⟨rfl, rfl⟩
    go_wp2_with fail
    go_ret
    exact ⟨by rw [E.out]; rfl, bnew (Below.refl _ _) _⟩
  by_cases g4 : m.mem ≤ 31
  case neg =>
    have d4a : decide (m.mem ≤ 31) = false := by simp; omega
    have d4b : decide ((m.mem : Int) ≤ 31) = false := by simp; omega
    have d4c : ((m.mem : Int) ≤ 31) = False := by simp; omega
    have E : Hid (Mg.may m = false) := Lib.hid (by rw [Hm.out, decide_eq_false g4]; simp)
    clear Hm g0 g1 g4
    go_enter Try.func38, Try.ntmps38
    go_wp2_with fail
    refine (HF.out _).mono ?_
    rintro r w1 ⟨rfl, rfl⟩
    go_wp2_with fail
    refine (HT.out _).mono ?_
    rintro r w1 ⟨rfl, rfl⟩
    go_wp2_with fail
    go_ret
    exact ⟨by rw [E.out]; rfl, bnew (Below.refl _ _) _⟩
  have d4a : decide (m.mem ≤ 31) = true := by simp; omega
  have d4b : decide ((m.mem : Int) ≤ 31) = true := by simp; omega
  have d4c : ((m.mem : Int) ≤ 31) = True := by simp; omega
  by_cases g5 : m.sec ≤ 4
  case neg =>
    have d5a : decide (m.sec < 5) = false := by simp; omega
    have d5b : decide ((m.sec : Int) < 5) = false := by simp; omega
    have d5c : ((m.sec : Int) < 5) = False := by simp; omega
    have E : Hid (Mg.may m = false) := Lib.hid (by rw [Hm.out, decide_eq_false g5]; simp)
    clear Hm g0 g1 g4 g5
    go_enter Try.func38, Try.ntmps38
    go_wp2_with fail
    refine (HF.out _).mono ?_
    rintro r w1 ⟨rfl, rfl⟩
    go_wp2_with fail
    refine (HT.out _).mono ?_
    rintro r w1 ⟨rfl, rfl⟩
    go_wp2_with fail
    go_ret
    exact ⟨by rw [E.out]; rfl, bnew (Below.refl _ _) _⟩
  have d5a : decide (m.sec < 5) = true := by simp; omega
  have d5b : decide ((m.sec : Int) < 5) = true := by simp; omega
  have d5c : ((m.sec : Int) < 5) = True := by simp; omega
  have E : Hid (Mg.may m = se) := Lib.hid (by rw [Hm.out, decide_eq_true g0, decide_eq_true g1, decide_eq_true g4, decide_eq_true g5]; rfl)
  clear Hm g0 g1 g4 g5
  go_enter Try.func38, Try.ntmps38
  go_wp2_with fail
  refine (HF.out _).mono ?_
  rintro r w1 ⟨rfl, rfl⟩
  go_wp2_with fail
  refine (HT.out _).mono ?_
  rintro r w1 ⟨rfl, rfl⟩
  go_wp2_with fail
  refine (HS.out _ (bnew (Below.refl _ _) _)).mono ?_
  rintro r w1 ⟨rfl, hb1⟩
  go_wp2_with fail
  go_ret
  exact ⟨by rw [E.out]; rfl, bnext (bnew (Below.refl _ _) _) hb1⟩
end Go.Proofs.Ytpdahbfjbgcmgaa
