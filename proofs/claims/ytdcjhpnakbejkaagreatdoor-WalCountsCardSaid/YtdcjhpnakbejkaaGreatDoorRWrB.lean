/-
  wapentakeref08's Right walked, over wapentakeref04's contract: may a record be?
  The statements' own GreatRecs of layer 8 walked.
-/
import Derived.Test.YtdcjhpnakbejkaaGreatDoorRWlBase
import Derived.BigQuiet
set_option linter.unusedSimpArgs false
set_option linter.unusedVariables false
namespace Go.Proofs.YtdcjhpnakbejkaaGreatDoor
open Go.RowKit
/-- What the walk asks of a record's cells. -/
structure RecF (X : Array Value) (r : Wl.R) : Prop where
  size : X.size = 16
  one : X.all (·.oneCell') = true
  f0 : ∀ h, X[0]'h = .int .u8 (r.kind : Int)
  f1 : ∀ h, X[1]'h = .int .u64 (r.trm : Int)
  f2 : ∀ h, X[2]'h = .int .u8 (r.vote : Int)
  f3 : ∀ h, X[3]'h = .int .u64 (r.ent.idx : Int)
  f4 : ∀ h, X[4]'h = .int .u64 (r.ent.trm : Int)
  f5 : ∀ h, X[5]'h = .int .u8 (r.ent.kind : Int)
  f6 : ∀ h, X[6]'h = .int .u8 (r.ent.slot : Int)
  f7 : ∀ h, X[7]'h = .int .u8 (r.ent.tok.a0.toNat : Int)
  f8 : ∀ h, X[8]'h = .int .u8 (r.ent.tok.a1.toNat : Int)
  f9 : ∀ h, X[9]'h = .int .u8 (r.ent.tok.a2.toNat : Int)
  f10 : ∀ h, X[10]'h = .int .u8 (r.ent.tok.a3.toNat : Int)
  f11 : ∀ h, X[11]'h = .int .u8 (r.ent.tok.a4.toNat : Int)
  f12 : ∀ h, X[12]'h = .int .u8 (r.ent.tok.a5.toNat : Int)
  f13 : ∀ h, X[13]'h = .int .u8 (r.ent.tok.a6.toNat : Int)
  f14 : ∀ h, X[14]'h = .int .u8 (r.ent.tok.a7.toNat : Int)
  f15 : ∀ h, X[15]'h = .string r.ent.body
theorem recF (r : Wl.R) : RecF (recC r) r := ⟨rfl, by simp [recC, Value.oneCell'], fun _ => rfl, fun _ => rfl, fun _ => rfl, fun _ => rfl, fun _ => rfl, fun _ => rfl, fun _ => rfl, fun _ => rfl, fun _ => rfl, fun _ => rfl, fun _ => rfl, fun _ => rfl, fun _ => rfl, fun _ => rfl, fun _ => rfl, fun _ => rfl⟩
theorem storeRec (X : Array Value) (hs : X.size = 16) (ho : X.all (·.oneCell') = true) (W : World) : (storeCells ⟨W.heap.size, 0, none⟩ X.toList 0).run Tryz.prog (W.alloc (.cells #[.int .u8 0, .int .u64 0, .int .u8 0, .int .u64 0, .int .u64 0, .int .u8 0, .int .u8 0, .int .u8 0, .int .u8 0, .int .u8 0, .int .u8 0, .int .u8 0, .int .u8 0, .int .u8 0, .int .u8 0, .string ⟨#[]⟩] 62)) = .ok () (W.alloc (.cells X 62)) :=
  run_storeCells_new (P := Tryz.prog) W 62 _ X (by rw [hs]; exact sizeRec) (by rw [hs]; rfl) ho
theorem wdec {p : Prop} (i j : Decidable p) : @decide p i = @decide p j := by congr
set_option maxRecDepth 100000 in
set_option maxHeartbeats 4000000 in
theorem refRight8_of (hE : ∀ (e : En.E) (W : World), Calls Tryz.prog 152 #[.agg (entC e)] W (RetTr (En.may e) W)) (r : Wl.R) (w : World) :
    Calls Tryz.prog 91 #[.agg (recC r)] w (RetTr (Wl.right r) w) := by
  have HE := Lib.hid hE
  clear hE
  have FX := recF r
  have hz : ∀ W, (binOp .eql 60 (.agg #[.int .u64 (r.ent.idx : Int), .int .u64 (r.ent.trm : Int), .int .u8 (r.ent.kind : Int), .int .u8 (r.ent.slot : Int), .int .u8 (r.ent.tok.a0.toNat : Int), .int .u8 (r.ent.tok.a1.toNat : Int), .int .u8 (r.ent.tok.a2.toNat : Int), .int .u8 (r.ent.tok.a3.toNat : Int), .int .u8 (r.ent.tok.a4.toNat : Int), .int .u8 (r.ent.tok.a5.toNat : Int), .int .u8 (r.ent.tok.a6.toNat : Int), .int .u8 (r.ent.tok.a7.toNat : Int), .string r.ent.body]) (.agg #[.int .u64 0, .int .u64 0, .int .u8 0, .int .u8 0, .int .u8 0, .int .u8 0, .int .u8 0, .int .u8 0, .int .u8 0, .int .u8 0, .int .u8 0, .int .u8 0, .string ⟨#[]⟩])).run Tryz.prog W = .ok (.bool (decide (r.ent = En.zero))) W := fun W => (ent_eql r.ent En.zero W).trans (congrArg (fun b => Result.ok (Value.bool b) W) (wdec _ _))
  have hcall : ∀ W, Calls Tryz.prog 152 #[.agg #[.int .u64 (r.ent.idx : Int), .int .u64 (r.ent.trm : Int), .int .u8 (r.ent.kind : Int), .int .u8 (r.ent.slot : Int), .int .u8 (r.ent.tok.a0.toNat : Int), .int .u8 (r.ent.tok.a1.toNat : Int), .int .u8 (r.ent.tok.a2.toNat : Int), .int .u8 (r.ent.tok.a3.toNat : Int), .int .u8 (r.ent.tok.a4.toNat : Int), .int .u8 (r.ent.tok.a5.toNat : Int), .int .u8 (r.ent.tok.a6.toNat : Int), .int .u8 (r.ent.tok.a7.toNat : Int), .string r.ent.body]] W (RetTr (En.may r.ent) W) := fun W => HE.out r.ent W
  have Hcall := Lib.hid hcall
  clear hcall
  generalize recC r = X at FX ⊢
  obtain ⟨hx, ho, x0, x1, x2, x3, x4, x5, x6, x7, x8, x9, x10, x11, x12, x13, x14, x15⟩ := FX
  have hst := storeRec X hx ho
  by_cases h2 : r.kind = 2
  · have E : Hid (Wl.right r = decide (r.ent = En.zero)) := Lib.hid (by unfold Wl.right; exact (if_pos h2).trans (wdec _ _))
    have d1 : ((r.kind : Int) == 2) = true := by simp; omega
    have d2 : ((r.kind : Int) = 2) = True := by simp; omega
    clear h2
    go_enter Tryz.func91, Tryz.ntmps91
    go_wp2_with fail
    go_ret
    exact ⟨by rw [E.out]; rfl, bnew (Below.refl _ _) _⟩
  have d1 : ((r.kind : Int) == 2) = false := by simp; omega
  have d2 : ((r.kind : Int) = 2) = False := by simp; omega
  by_cases h3 : r.kind = 3
  case neg =>
    have E : Hid (Wl.right r = false) := Lib.hid (by unfold Wl.right; rw [if_neg h2]; simp [h3])
    have e1 : ((r.kind : Int) == 3) = false := by simp; omega
    have e2 : ((r.kind : Int) = 3) = False := by simp; omega
    clear h2 h3
    go_enter Tryz.func91, Tryz.ntmps91
    go_wp2_with fail
    go_ret
    exact ⟨by rw [E.out]; rfl, bnew (Below.refl _ _) _⟩
  have e1 : ((r.kind : Int) == 3) = true := by simp; omega
  have e2 : ((r.kind : Int) = 3) = True := by simp; omega
  by_cases h4 : r.trm = 0
  case neg =>
    have E : Hid (Wl.right r = false) := Lib.hid (by unfold Wl.right; rw [if_neg h2]; simp [h4])
    have f1 : ((r.trm : Int) == 0) = false := by simp; omega
    have f2 : ((r.trm : Int) = 0) = False := by simp; omega
    clear h2 h3 h4
    go_enter Tryz.func91, Tryz.ntmps91
    go_wp2_with fail
    go_ret
    exact ⟨by rw [E.out]; rfl, bnew (Below.refl _ _) _⟩
  have f1 : ((r.trm : Int) == 0) = true := by simp; omega
  have f2 : ((r.trm : Int) = 0) = True := by simp; omega
  by_cases h5 : r.vote = 0
  case neg =>
    have E : Hid (Wl.right r = false) := Lib.hid (by unfold Wl.right; rw [if_neg h2]; simp [h5])
    have g1 : ((r.vote : Int) == 0) = false := by simp; omega
    have g2 : ((r.vote : Int) = 0) = False := by simp; omega
    clear h2 h3 h4 h5
    go_enter Tryz.func91, Tryz.ntmps91
    go_wp2_with fail
    go_ret
    exact ⟨by rw [E.out]; rfl, bnew (Below.refl _ _) _⟩
  have g1 : ((r.vote : Int) == 0) = true := by simp; omega
  have g2 : ((r.vote : Int) = 0) = True := by simp; omega
  have E : Hid (Wl.right r = En.may r.ent) := Lib.hid (by unfold Wl.right; rw [if_neg h2]; simp [h3, h4, h5])
  clear h2 h3 h4 h5
  go_enter Tryz.func91, Tryz.ntmps91
  go_wp2_with (go_at_call 152; refine (Hcall.out _).mono ?_; rintro e w1 ⟨rfl, hb1⟩)
  go_ret
  exact ⟨by rw [E.out]; rfl, bnext (bnew (Below.refl _ _) _) hb1⟩
end Go.Proofs.YtdcjhpnakbejkaaGreatDoor
namespace Go.Proofs.YtdcjhpnakbejkaaGreatDoor
open Go.RowKit
def Wl.great (l : List Wl.R) : Bool := decide (40 < l.length) || l.any fun r => decide (200 < r.ent.body.size)
theorem Wl.small_of {l : List Wl.R} (h : Wl.great l = false) : l.length ≤ 40 ∧ ∀ r ∈ l, r.ent.body.size ≤ 200 := by
  unfold Wl.great at h
  rw [Bool.or_eq_false_iff, decide_eq_false_iff_not, List.any_eq_false] at h
  exact ⟨by omega, fun r hr => by have := h.2 r hr; simpa using this⟩
theorem wlt_t {m n : Nat} (h : m < n) : decide ((m : Int) < (n : Int)) = true := by simp; omega
theorem wlt_f {m n : Nat} (h : ¬ m < n) : decide ((m : Int) < (n : Int)) = false := by simp; omega
set_option maxRecDepth 100000 in
set_option maxHeartbeats 4000000 in
theorem greatRecs_any (l : List Wl.R) (A : Option Addr) (cap : Nat) (w : World) (hA : Lies w A (wrs l)) (hl : l.length ≤ maxLen) :
    Calls Tryz.prog 33 #[.slice A l.length cap] w fun e w' => e = .returned (.bool (Wl.great l)) ∧ Below w.heap.size w w' := by
  have HA := Lib.hid hA
  clear hA
  by_cases h1 : 40 < l.length
  · have E : Hid (Wl.great l = true) := Lib.hid (by unfold Wl.great; simp [h1])
    go_enter Tryz.func33, Tryz.ntmps33
    go_wp2
    go_ret
    exact ⟨by rw [E.out]; rfl, Below.refl _ _⟩
  have Hg : Hid (Wl.great l = l.any fun r => decide (200 < r.ent.body.size)) := Lib.hid (by unfold Wl.great; simp [h1])
  go_enter Tryz.func33, Tryz.ntmps33
  go_wp2
  go_loopw [3] (fun i wr => ∃ k : Nat, k ≤ l.length ∧ i = .int .i64 (k : Int) ∧ (∀ r ∈ l.take k, ¬ 200 < r.ent.body.size) ∧ Below w.heap.size w wr) (fun i _ => l.length - (intOf i).toNat)
  case atStart => exact ⟨0, Nat.zero_le _, rfl, fun r hr => by simp at hr, Below.refl _ _⟩
  case round =>
    obtain ⟨k, hk, rfl, hall, hb⟩ := hrel
    have Hall := Lib.hid hall
    have Hb := Lib.hid hb
    clear hall hb
    by_cases hlt : k < l.length
    · obtain ⟨ba, oa, rfl, hP⟩ := HA.out.recd k hlt
      replace hP := hP.bel Hb.out
      obtain ⟨r, hr⟩ : ∃ r, r = l[k] := ⟨_, rfl⟩
      rw [← hr] at hP
      have Hr := Lib.hid hr
      have c15 := hP.c15
      clear hr hP
      by_cases hbig : 200 < r.ent.body.size
      · have E : Hid (Wl.great l = true) := Lib.hid (by
          rw [Hg.out, List.any_eq_true]
          exact ⟨r, by rw [Hr.out]; exact List.getElem_mem hlt, by simpa using hbig⟩)
        go_wp2
        go_ret
        exact ⟨by rw [E.out]; rfl, Hb.out⟩
      · have Hn := Lib.hid hbig
        go_wp2
        go_roundw
        case rel => exact ⟨k + 1, by omega, by go_num, fun x hx => (by
          rw [List.take_succ_eq_append_getElem hlt] at hx
          rcases List.mem_append.1 hx with hx | hx
          · exact Hall.out x hx
          · rw [List.mem_singleton.1 hx, ← Hr.out]; exact Hn.out), Hb.out⟩
        case measure => simp [intOf]; omega
    · obtain rfl : k = l.length := by omega
      have E : Hid (Wl.great l = false) := Lib.hid (by
        rw [Hg.out, List.any_eq_false]
        intro r hr
        have := Hall.out r (by rw [List.take_length]; exact hr)
        simpa using this)
      go_wp2
      go_ret
      exact ⟨by rw [E.out]; rfl, Hb.out⟩
end Go.Proofs.YtdcjhpnakbejkaaGreatDoor
