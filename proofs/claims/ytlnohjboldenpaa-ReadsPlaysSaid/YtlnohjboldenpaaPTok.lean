/-
  A token's eight bytes. No program is named here.
  Tokens held against each other.
-/
import Derived.Test.YtlnohjboldenpaaPWords
import Derived.ChangeKeysEq
import Derived.Laws.StructEq
set_option linter.unusedSimpArgs false
set_option linter.unusedVariables false
namespace Go.Proofs.Ytlnohjboldenpaa
theorem eight_of {l : List UInt8} (h : l.length = 8) : ∃ a0 a1 a2 a3 a4 a5 a6 a7, l = [a0, a1, a2, a3, a4, a5, a6, a7] := by
  match l, h with
  | [a0, a1, a2, a3, a4, a5, a6, a7], _ => exact ⟨a0, a1, a2, a3, a4, a5, a6, a7, rfl⟩
namespace Og
structure Tk where
  a0 : UInt8
  a1 : UInt8
  a2 : UInt8
  a3 : UInt8
  a4 : UInt8
  a5 : UInt8
  a6 : UInt8
  a7 : UInt8
  deriving DecidableEq
def Tk.l (t : Tk) : List UInt8 := [t.a0, t.a1, t.a2, t.a3, t.a4, t.a5, t.a6, t.a7]
def Tk.of (l : List UInt8) : Tk := ⟨l.getD 0 0, l.getD 1 0, l.getD 2 0, l.getD 3 0, l.getD 4 0, l.getD 5 0, l.getD 6 0, l.getD 7 0⟩
def Tk.zero : Tk := ⟨0, 0, 0, 0, 0, 0, 0, 0⟩
theorem Tk.of_l (t : Tk) : Tk.of t.l = t := rfl
theorem Tk.l_of {l : List UInt8} (h : l.length = 8) : (Tk.of l).l = l := by
  obtain ⟨a0, a1, a2, a3, a4, a5, a6, a7, rfl⟩ := eight_of h
  rfl
/-- The token whose bytes a list begins with, and what is left. -/
def rdT (l : List UInt8) : Option (Tk × List UInt8) := if 8 ≤ l.length then some (Tk.of (l.take 8), l.drop 8) else none
theorem rdT_iff (l : List UInt8) (t : Tk) (r : List UInt8) : rdT l = some (t, r) ↔ l = t.l ++ r := by
  unfold rdT
  constructor
  · intro h
    by_cases h8 : 8 ≤ l.length
    · rw [if_pos h8] at h
      simp only [Option.some.injEq, Prod.mk.injEq] at h
      obtain ⟨rfl, rfl⟩ := h
      rw [Tk.l_of (by rw [List.length_take]; omega), List.take_append_drop]
    · rw [if_neg h8] at h; cases h
  · rintro rfl
    rw [if_pos (by simp [Tk.l])]
    rfl
theorem Tk.inj {a b : Tk} (h : a.l = b.l) : a = b := by rw [← Tk.of_l a, ← Tk.of_l b, h]
end Og
def t8 (a0 a1 a2 a3 a4 a5 a6 a7 : UInt8) : Array Value := #[.int .u8 (a0.toNat : Int), .int .u8 (a1.toNat : Int), .int .u8 (a2.toNat : Int), .int .u8 (a3.toNat : Int), .int .u8 (a4.toNat : Int), .int .u8 (a5.toNat : Int), .int .u8 (a6.toNat : Int), .int .u8 (a7.toNat : Int)]
def tk8 (t : Og.Tk) : Array Value := t8 t.a0 t.a1 t.a2 t.a3 t.a4 t.a5 t.a6 t.a7
theorem bc8 (b0 b1 b2 b3 b4 b5 b6 b7 : UInt8) : (bc [b0, b1, b2, b3, b4, b5, b6, b7]).toArray = t8 b0 b1 b2 b3 b4 b5 b6 b7 := rfl
end Go.Proofs.Ytlnohjboldenpaa
namespace Go.Proofs.Ytlnohjboldenpaa
open Go.RowKit
theorem byteEq (d : Nat) (x y : Int) (W : World) : (Op.equalIn (d + 1) 5 (.int .u8 x) (.int .u8 y)).run Try.prog W = .ok (x == y) W := by
  simp [go_sem]
theorem tok_eq (d : Nat) (W : World) (x y : Og.Tk) : (Op.equalIn (d + 1 + 1) 47 (.agg (tk8 x)) (.agg (tk8 y))).run Try.prog W = .ok (decide (x = y)) W := by
  obtain ⟨i0, hi, hz0, hz1, hz2⟩ := info_parts Try.infoByte
  rw [run_equalIn_array W (d + 1) _ _ Try.underlying47 hi]
  unfold tk8 t8
  rw [show List.range 8 = [0, 1, 2, 3, 4, 5, 6, 7] from rfl]
  simp only [Op.eqItems]
  have hce : Try.prog.cellsOf 5 = 1 := by simp [Program.cellsOf, hi, hz1]
  rw [hce]
  simp [go_sem, byteEq]
  cases x; cases y
  simp only [Og.Tk.mk.injEq, ← UInt8.toNat_inj]
  repeat' split
  all_goals (simp_all <;> omega)
end Go.Proofs.Ytlnohjboldenpaa
