/-
  DiskNobody walked.
-/
import Derived.Test.YtjmnoogaffjdiaaRDmNo
import Derived.Test.YtjmnoogaffjdiaaRDkAwake
import Derived.Test.YtjmnoogaffjdiaaRDkInst
import Derived.Test.YtjmnoogaffjdiaaRDkOpen
set_option linter.unusedSimpArgs false
set_option linter.unusedVariables false
namespace Go.Proofs.Ytjmnoogaffjdiaa
open Go.RowKit
/-- What the loop goes through. -/
structure NoRow (w W : World) (g q : Nat) : Prop where
  b : Below w.heap.size w W
  r : W.heap[g]? = some (.cells #[.pointer none, .pointer (some ⟨q, 0, none⟩)] 25 (0, 0))
  z : W.heap[q]? = some (.cells #[.map none, .int .i64 0, .bool false] 43 (0, 0))
theorem NoRow.more {w W W' : World} {g q : Nat} (h : NoRow w W g q) (hb : Below W.heap.size W W') : NoRow w W' g q :=
  ⟨bnext h.b hb, (hb.block _ (Array.getElem?_eq_some_iff.1 h.r).1).trans h.r, (hb.block _ (Array.getElem?_eq_some_iff.1 h.z).1).trans h.z⟩
theorem NoRow.noD {w W : World} {g q : Nat} (h : NoRow w W g q) : NoD W (.pointer none) ∧ NoD W (.pointer (some ⟨q, 0, none⟩)) := ⟨.inl rfl, .inr ⟨q, rfl, h.z⟩⟩
set_option maxRecDepth 100000 in
set_option maxHeartbeats 4000000 in
theorem nobody_any (a b : ByteArray) (n : Int) (w : World) (hn : -9223372036854775808 ≤ n ∧ n ≤ 9223372036854775807) (ha : a.size ≤ maxLen) (hb : b.size ≤ maxLen) :
    Calls Try.prog 4 #[.string a, .string b, .int .i64 n] w fun e w' => e = .returned (.bool true) ∧ Below w.heap.size w w' := by
  have HA := Lib.hid (awake_any diskK)
  by_cases h1 : 2000 < a.size
  · have q1 : decide ((2000 : Int) < (a.size : Int)) = true := by simp; omega
    have q2 : (2000 : Int) < (a.size : Int) := by omega
    clear ha hb hn
    go_enter Try.func4, Try.ntmps4
    go_wp2_with fail
    refine (HA.out _).mono ?_
    rintro e w1 ⟨rfl, hb1⟩
    have HB := Lib.hid hb1
    clear hb1
    go_wp2_with fail
    go_ret
    exact ⟨rfl, HB.out⟩
  have q1 : decide ((2000 : Int) < (a.size : Int)) = false := by simp; omega
  have q2 : ¬ (2000 : Int) < (a.size : Int) := by omega
  by_cases h2 : 2000 < b.size
  · have q3 : decide ((2000 : Int) < (b.size : Int)) = true := by simp; omega
    have q4 : (2000 : Int) < (b.size : Int) := by omega
    clear ha hb hn
    go_enter Try.func4, Try.ntmps4
    go_wp2_with fail
    refine (HA.out _).mono ?_
    rintro e w1 ⟨rfl, hb1⟩
    have HB := Lib.hid hb1
    clear hb1
    go_wp2_with fail
    go_ret
    exact ⟨rfl, HB.out⟩
  have q3 : decide ((2000 : Int) < (b.size : Int)) = false := by simp; omega
  have q4 : ¬ (2000 : Int) < (b.size : Int) := by omega
  have HR0 : Hid (NoRow w ((w.alloc (.cells #[.map none, .int .i64 0, .bool false] 43)).alloc (.cells #[.pointer none, .pointer (some ⟨w.heap.size, 0, none⟩)] 25)) (w.heap.size + 1) w.heap.size) := Lib.hid ⟨bnew (bnew (Below.refl _ _) _) _, by
      have := heap_alloc_new (w.alloc (.cells #[.map none, .int .i64 0, .bool false] 43)) (.cells #[.pointer none, .pointer (some ⟨w.heap.size, 0, none⟩)] 25 (0, 0))
      simpa using this, by
      have h9 := heap_alloc_new w (.cells #[.map none, .int .i64 0, .bool false] 43 (0, 0))
      exact ((bnew (Below.refl (w.alloc (.cells #[.map none, .int .i64 0, .bool false] 43)).heap.size _) _).block _ (by simp)).trans h9⟩
  clear ha hb hn h1 h2
  go_enter Try.func4, Try.ntmps4
  go_wp2_with fail
  go_loopw [28] (fun iv wr => ∃ i : Nat, i ≤ 2 ∧ iv = .int .i64 (i : Int) ∧ NoRow w wr (w.heap.size + 1) w.heap.size) (fun iv _ => 2 - (intOf iv).toNat)
  case atStart => exact ⟨0, by omega, rfl, HR0.out⟩
  case round =>
    obtain ⟨i, hi, rfl, hr⟩ := hrel
    by_cases hlt : i < 2
    · obtain ⟨v, hv, hcell⟩ : ∃ v, NoD wr v ∧ wr.cell? ⟨w.heap.size + 1, i, none⟩ = some v := by
        have hc : i = 0 ∨ i = 1 := by omega
        rcases hc with rfl | rfl
        · exact ⟨_, hr.noD.1, cell_of_row wr _ 0 _ _ _ hr.r⟩
        · exact ⟨_, hr.noD.2, cell_of_row wr _ 1 _ _ _ hr.r⟩
      have p1 : decide ((i : Int) < 2) = true := by simp; omega
      have p2 : decide (i < 2) = true := by simp; omega
      have p3 : (i : Int) < 2 := by omega
      have p4 : (0 : Int) ≤ (i : Int) := by omega
      have HF := Lib.hid (nFuse wr v hv n)
      have hv2 : NoD (wr.alloc (.cells #[.int .i64 n] 3)) v := hv.below (bnew (Below.refl _ _) _) (Nat.le_refl _)
      have HC := Lib.hid (nCrash (wr.alloc (.cells #[.int .i64 n] 3)) v hv2 (some ⟨wr.heap.size, 0, none⟩) none 1 1 0 0)
      have HV := Lib.hid (And.intro hv2 (hr.more (bnew (Below.refl _ _) (.cells #[.int .i64 n] 3))))
      clear hr hv hv2
      go_wp2_with fail
      refine HF.out.mono ?_
      rintro e w1 ⟨rfl, rfl⟩
      go_wp2_with fail
      refine HC.out.mono ?_
      rintro e w5 ⟨rfl, hb5⟩
      have hv5 := HV.out.1.below hb5 (Nat.le_refl _)
      have HR5 : Hid (NoRow w w5 (w.heap.size + 1) w.heap.size) := Lib.hid (HV.out.2.more hb5)
      have H1 := Lib.hid (nStart w5 v hv5)
      have H2 := Lib.hid (nRead w5 v hv5 a)
      have H3 := Lib.hid (nRecords w5 v hv5 a)
      have H4 := Lib.hid (nAppend w5 v hv5 a b)
      have H5 := Lib.hid (nSync w5 v hv5 a)
      have H6 := Lib.hid (nRename w5 v hv5 a b)
      have H7 := Lib.hid (nDelete w5 v hv5 a)
      have H8 := Lib.hid (nList w5 v hv5)
      have H9 := Lib.hid (nFused w5 v hv5)
      have H10 := Lib.hid (nDown w5 v hv5)
      have H11 := Lib.hid (nTwin w5 v hv5)
      clear hv5 hb5 hcell
      go_wp2_with fail
      refine H1.out.mono ?_
      rintro e wx ⟨rfl, rfl⟩
      go_wp2_with fail
      refine H2.out.mono ?_
      rintro e wx ⟨rfl, rfl⟩
      go_wp2_with fail
      refine H3.out.mono ?_
      rintro e wx ⟨rfl, rfl⟩
      go_wp2_with fail
      refine H4.out.mono ?_
      rintro e wx ⟨rfl, rfl⟩
      go_wp2_with fail
      refine H5.out.mono ?_
      rintro e wx ⟨rfl, rfl⟩
      go_wp2_with fail
      refine H6.out.mono ?_
      rintro e wx ⟨rfl, rfl⟩
      go_wp2_with fail
      refine H7.out.mono ?_
      rintro e wx ⟨rfl, rfl⟩
      go_wp2_with fail
      refine H8.out.mono ?_
      rintro e wx ⟨rfl, rfl⟩
      go_wp2_with fail
      refine H9.out.mono ?_
      rintro e wx ⟨rfl, rfl⟩
      go_wp2_with fail
      refine H10.out.mono ?_
      rintro e wx ⟨rfl, rfl⟩
      go_wp2_with fail
      refine H11.out.mono ?_
      rintro e wx ⟨rfl, rfl⟩
      go_wp2_with fail
      go_roundw
      case rel => exact ⟨i + 1, by omega, by go_num, HR5.out⟩
      case measure => simp [intOf]; omega
    · have p1 : decide ((i : Int) < 2) = false := by simp; omega
      have p2 : decide (i < 2) = false := by simp; omega
      have p3 : ¬ (i : Int) < 2 := by omega
      have HR := Lib.hid hr
      clear hr
      go_wp2_with fail
      refine (HA.out _).mono ?_
      rintro e w1 ⟨rfl, hb1⟩
      have HB := Lib.hid (HR.out.more hb1)
      clear hb1
      go_wp2_with fail
      go_ret
      exact ⟨rfl, HB.out.b⟩
theorem diskNobody_walk (a : ByteArray) (ha : a.size ≤ maxLen) (b : ByteArray) (hb : b.size ≤ maxLen) (n : Int) (hn : (Lit.int .i64 n).wf = true) (w : World) :
    Calls Try.prog 4 #[.string a, .string b, .int .i64 n] w fun e w' => e = .returned (.bool true) ∧ Below w.heap.size w w' :=
  nobody_any a b n w (i64_bounds hn) ha hb
end Go.Proofs.Ytjmnoogaffjdiaa
