/-
  wapentakeref03.Oversize walked.
-/
import Derived.Test.YtpdahbfjbgcmgaaSCmd
import Derived.Deep.DeepCutAuto
set_option linter.unusedSimpArgs false
set_option linter.unusedVariables false
namespace Go.Proofs.Ytpdahbfjbgcmgaa
open Go.RowKit
namespace Cm
def overP (p : Part) : Bool := decide (16 < p.key.size) || decide (64 < p.val.size)
def over0 (c : Cmd) : Bool := decide (16 < c.key.size) || (decide (16 < c.frm.size) || (decide (16 < c.tto.size) || (decide (64 < c.val.size) || decide (64 < c.exp.size))))
def oversize (c : Cmd) : Bool := over0 c || c.parts.any overP
end Cm
theorem any_take (ps : List Cm.Part) (k : Nat) (hk : k < ps.length) : (ps.take (k + 1)).any Cm.overP = ((ps.take k).any Cm.overP || Cm.overP ps[k]) := by
  rw [List.take_succ_eq_append_getElem hk, List.any_append]; simp
theorem dec_t {m n : Nat} (h : m < n) : decide ((m : Int) < (n : Int)) = true := by simp; omega
theorem dec_f {m n : Nat} (h : ¬ m < n) : decide ((m : Int) < (n : Int)) = false := by simp; omega

set_option maxRecDepth 100000 in
set_option maxHeartbeats 4000000 in
theorem over_any (c : Cm.Cmd) (A : Option Addr) (cap : Nat) (w : World) (hA : Lies w A (pc c.parts)) (hn : c.parts.length ≤ 1000000) :
    Calls Try.prog 24 #[.agg (cmdC c A cap)] w fun e w' => e = .returned (.bool (Cm.oversize c)) ∧ Below w.heap.size w w' := by
  have FX := cmdF c A cap
  generalize cmdC c A cap = X at FX ⊢
  obtain ⟨hx, _, _, _, _, x3, x4, x5, x6, x7, _, _, _, x11⟩ := FX
  have HA := Lib.hid hA
  clear hA
  go_enter Try.func24, Try.ntmps24
  go_upto_region 1 with (fail)
  go_cut [3] (fun v W => v = .bool (Cm.over0 c) ∧ Below w.heap.size w W ∧ W.heap[w.heap.size]? = some (.cells X 27 (0, 0)) ∧ w.heap.size < W.heap.size)
  case first =>
    have fin : ∀ b, b = Cm.over0 c → (Value.bool b = .bool (Cm.over0 c) ∧ Below w.heap.size w (w.alloc (.cells X 27)) ∧ (w.alloc (.cells X 27)).heap[w.heap.size]? = some (.cells X 27 (0, 0)) ∧ w.heap.size < (w.alloc (.cells X 27)).heap.size) := fun b h => ⟨by rw [h], bnew (Below.refl _ _) _, heap_alloc_new w _, by simp⟩
    have Fin := Lib.hid fin
    clear fin
    by_cases h1 : 16 < c.key.size
    · have E : Hid (true = Cm.over0 c) := Lib.hid (by unfold Cm.over0; simp [h1])
      have d1 : decide ((16 : Int) < (c.key.size : Int)) = true := dec_t h1
      clear h1
      go_wp2_with fail
      go_meet
      exact Fin.out _ E.out
    by_cases h2 : 16 < c.frm.size
    · have E : Hid (true = Cm.over0 c) := Lib.hid (by unfold Cm.over0; simp [h2])
      have d1 : decide ((16 : Int) < (c.key.size : Int)) = false := dec_f h1
      have d2 : decide ((16 : Int) < (c.frm.size : Int)) = true := dec_t h2
      clear h1 h2
      go_wp2_with fail
      go_meet
      exact Fin.out _ E.out
    by_cases h3 : 16 < c.tto.size
    · have E : Hid (true = Cm.over0 c) := Lib.hid (by unfold Cm.over0; simp [h3])
      have d1 : decide ((16 : Int) < (c.key.size : Int)) = false := dec_f h1
      have d2 : decide ((16 : Int) < (c.frm.size : Int)) = false := dec_f h2
      have d3 : decide ((16 : Int) < (c.tto.size : Int)) = true := dec_t h3
      clear h1 h2 h3
      go_wp2_with fail
      go_meet
      exact Fin.out _ E.out
    by_cases h4 : 64 < c.val.size
    · have E : Hid (true = Cm.over0 c) := Lib.hid (by unfold Cm.over0; simp [h4])
      have d1 : decide ((16 : Int) < (c.key.size : Int)) = false := dec_f h1
      have d2 : decide ((16 : Int) < (c.frm.size : Int)) = false := dec_f h2
      have d3 : decide ((16 : Int) < (c.tto.size : Int)) = false := dec_f h3
      have d4 : decide ((64 : Int) < (c.val.size : Int)) = true := dec_t h4
      clear h1 h2 h3 h4
      go_wp2_with fail
      go_meet
      exact Fin.out _ E.out
    have d1 : decide ((16 : Int) < (c.key.size : Int)) = false := dec_f h1
    have d2 : decide ((16 : Int) < (c.frm.size : Int)) = false := dec_f h2
    have d3 : decide ((16 : Int) < (c.tto.size : Int)) = false := dec_f h3
    have d4 : decide ((64 : Int) < (c.val.size : Int)) = false := dec_f h4
    by_cases h5 : 64 < c.exp.size
    · have E : Hid (true = Cm.over0 c) := Lib.hid (by unfold Cm.over0; simp [h5])
      have d5 : decide ((64 : Int) < (c.exp.size : Int)) = true := dec_t h5
      clear h1 h2 h3 h4 h5
      go_wp2_with fail
      go_meet
      exact Fin.out _ E.out
    · have E : Hid (false = Cm.over0 c) := Lib.hid (by unfold Cm.over0; simp; omega)
      have d5 : decide ((64 : Int) < (c.exp.size : Int)) = false := dec_f h5
      clear h1 h2 h3 h4 h5
      go_wp2_with fail
      go_meet
      exact Fin.out _ E.out
  case rest =>
    obtain ⟨rfl, hb, hX, hsz⟩ := hcut
    clear x3 x4 x5 x6 x7
    have H0 := Lib.hid (And.intro hb (And.intro hX hsz))
    clear hb hX hsz
    go_wp2_with fail
    go_loopw [3, 4] (fun v i W => ∃ (k : Nat) (b : Bool), k ≤ c.parts.length ∧ v = .bool b ∧ i = .int .i64 (k : Int) ∧ b = (Cm.over0 c || (c.parts.take k).any Cm.overP) ∧ Below w.heap.size w W ∧ W.heap[w.heap.size]? = some (.cells X 27 (0, 0)) ∧ w.heap.size < W.heap.size) (fun _ i _ => c.parts.length - (intOf i).toNat)
    case atStart => exact ⟨0, _, Nat.zero_le _, rfl, rfl, by simp, H0.out⟩
    case round =>
      obtain ⟨k, b, hk, rfl, rfl, hbv, hb, hX, hsz⟩ := hrel
      have c11 := cell_of_row wr w.heap.size 11 X _ _ hX
      rw [Array.getElem?_eq_getElem (by omega), x11] at c11
      have HW := Lib.hid (And.intro hb (And.intro hX hsz))
      have Hbv := Lib.hid hbv
      clear hX hbv
      by_cases hlt : k < c.parts.length
      · obtain ⟨ba, oa, rfl, hba, p0, p1, p2⟩ := HA.out.part k hlt
        have Ht := Lib.hid (any_take c.parts k hlt)
        obtain ⟨p, hp⟩ : ∃ p, p = c.parts[k] := ⟨_, rfl⟩
        rw [← hp] at p1 p2 Ht
        have r1 : wr.cell? ⟨ba, oa + k * 3 + 1, none⟩ = _ := (hb.cell (p := ⟨ba, oa + k * 3 + 1, none⟩) hba).trans p1
        have r2 : wr.cell? ⟨ba, oa + k * 3 + 2, none⟩ = _ := (hb.cell (p := ⟨ba, oa + k * 3 + 2, none⟩) hba).trans p2
        clear p0 p1 p2 hp hb
        have fin : ∀ b', b' = (b || Cm.overP p) → b' = (Cm.over0 c || (c.parts.take (k + 1)).any Cm.overP) := fun b' h => by rw [h, Hbv.out, Ht.out, Bool.or_assoc]
        have Fin := Lib.hid fin
        clear fin
        cases b
        · by_cases h1 : 16 < p.key.size
          · have E : Hid (true = (false || Cm.overP p)) := Lib.hid (by unfold Cm.overP; simp [h1])
            have d1 : decide ((16 : Int) < (p.key.size : Int)) = true := dec_t h1
            clear h1
            go_wp2_with fail
            go_roundw
            case rel => exact ⟨k + 1, true, by omega, rfl, by go_num, Fin.out _ E.out, HW.out⟩
            case measure => simp [intOf]; omega
          · have d1 : decide ((16 : Int) < (p.key.size : Int)) = false := dec_f h1
            by_cases h2 : 64 < p.val.size
            · have E : Hid (true = (false || Cm.overP p)) := Lib.hid (by unfold Cm.overP; simp [h2])
              have d2 : decide ((64 : Int) < (p.val.size : Int)) = true := dec_t h2
              clear h1 h2
              go_wp2_with fail
              go_roundw
              case rel => exact ⟨k + 1, true, by omega, rfl, by go_num, Fin.out _ E.out, HW.out⟩
              case measure => simp [intOf]; omega
            · have E : Hid (false = (false || Cm.overP p)) := Lib.hid (by unfold Cm.overP; simp; omega)
              have d2 : decide ((64 : Int) < (p.val.size : Int)) = false := dec_f h2
              clear h1 h2
              go_wp2_with fail
              go_roundw
              case rel => exact ⟨k + 1, false, by omega, rfl, by go_num, Fin.out _ E.out, HW.out⟩
              case measure => simp [intOf]; omega
        · have E : Hid (true = (true || Cm.overP p)) := Lib.hid rfl
          go_wp2_with fail
          go_roundw
          case rel => exact ⟨k + 1, true, by omega, rfl, by go_num, Fin.out _ E.out, HW.out⟩
          case measure => simp [intOf]; omega
      · obtain rfl : k = c.parts.length := by omega
        have hfin : Cm.oversize c = b := by rw [Hbv.out, List.take_length]; rfl
        have Hfin := Lib.hid hfin
        clear hfin
        go_wp2
        go_ret
        exact ⟨by rw [Hfin.out]; rfl, HW.out.1⟩
end Go.Proofs.Ytpdahbfjbgcmgaa
