/-
  A token's eight cells as a text; a byte as a number of width 1.
-/
import Derived.Test.YtdcjhpnakbejkaaGreatDoorRTok
import Derived.Test.YtdcjhpnakbejkaaGreatDoorRCmd
import Derived.Test.YtdcjhpnakbejkaaGreatDoorRWords
set_option linter.unusedSimpArgs false
set_option linter.unusedVariables false
namespace Go.Proofs.YtdcjhpnakbejkaaGreatDoor
open Go.RowKit
theorem wid1 (n : Nat) : Nm.wid 1 n = [Nm.b8 (n % 256)] := by simp [Nm.wid]
theorem one_wid (n : Nat) (h : n < 256) : Nm.wid 1 n = Cm.one n := by
  rw [wid1, Nat.mod_eq_of_lt h]; rfl
/-- A token's eight cells, as a text. -/
theorem tok_text (W : World) (g off : Nat) (x : Og.Tk) (h0 : W.cell? ⟨g, off, none⟩ = some (.int .u8 (x.a0.toNat : Int))) (h1 : W.cell? ⟨g, off + 1, none⟩ = some (.int .u8 (x.a1.toNat : Int))) (h2 : W.cell? ⟨g, off + 2, none⟩ = some (.int .u8 (x.a2.toNat : Int))) (h3 : W.cell? ⟨g, off + 3, none⟩ = some (.int .u8 (x.a3.toNat : Int))) (h4 : W.cell? ⟨g, off + 4, none⟩ = some (.int .u8 (x.a4.toNat : Int))) (h5 : W.cell? ⟨g, off + 5, none⟩ = some (.int .u8 (x.a5.toNat : Int))) (h6 : W.cell? ⟨g, off + 6, none⟩ = some (.int .u8 (x.a6.toNat : Int))) (h7 : W.cell? ⟨g, off + 7, none⟩ = some (.int .u8 (x.a7.toNat : Int))) :
    (convert 153 9 (.slice (some ⟨g, off, none⟩) 8 8)).run Tryz.prog W = .ok (.string ⟨x.l.toArray⟩) W := by
  refine run_convert_bytes_back W 153 9 5 ⟨g, off, none⟩ 8 x.l Tryz.underlying153 Tryz.underlying5 Tryz.underlying9 (fun j hj => ?_)
  have hj : j < 8 := hj
  have : j = 0 ∨ j = 1 ∨ j = 2 ∨ j = 3 ∨ j = 4 ∨ j = 5 ∨ j = 6 ∨ j = 7 := by omega
  rcases this with rfl | rfl | rfl | rfl | rfl | rfl | rfl | rfl
  · exact h0
  · exact h1
  · exact h2
  · exact h3
  · exact h4
  · exact h5
  · exact h6
  · exact h7
end Go.Proofs.YtdcjhpnakbejkaaGreatDoor
