/-
  How arguments are opened: small numbers, and an array of 256 numbers.
-/
import Derived.Test.YtjnbkjfpbbjepaaOpen
import Derived.Test.YtjnbkjfpbbjepaaSumBase
namespace Go.Proofs.Ytjnbkjfpbbjepaa
open Go.ChangeShapes Go.WideShapes Go.ChangeAt Go.RowKit

theorem u8_nat {n : Int} (h : (Lit.int .u8 n).wf = true) : ∃ k : Nat, n = (k : Int) ∧ k < 256 := by
  have := bounds_u8 h
  exact ⟨n.toNat, by omega, by omega⟩
theorem u16_nat {n : Int} (h : (Lit.int .u16 n).wf = true) : ∃ k : Nat, n = (k : Int) ∧ k < 65536 := by
  have := bounds_u16 h
  exact ⟨n.toNat, by omega, by omega⟩
theorem u32_nat {n : Int} (h : (Lit.int .u32 n).wf = true) : ∃ k : Nat, n = (k : Int) ∧ k < 4294967296 := by
  have := bounds_u32 h
  exact ⟨n.toNat, by omega, by omega⟩

theorem okWide_array {P : Program} {w : World} {r : Reach} {base n : Nat} {t e : TypeId} {v : Value} (ht : P.underlying t = some (.array n e)) (h : Value.okWide P w r base t v) :
    ∃ cs, v = .agg cs ∧ cs.size = P.cellsOf t := by
  unfold Value.okWide at h
  rw [ht] at h
  obtain ⟨cs, rfl, hs, _⟩ := h
  exact ⟨cs, rfl, hs⟩

theorem open_marks {H : Type} {enc : TypeId × Value → H} {W : World} {cs : Array Value} {d : DataW H} {ps : List MemPlace} (h : DataW.Trod enc Try.prog W 0 (fun _ => true) true 23 (.agg cs) d ps) :
    ∀ i, i < 256 → ∃ n : Nat, n < 4294967296 ∧ cs[i]? = some (.int .u32 (n : Int)) := by
  intro i hi
  obtain ⟨fuel, hf⟩ := h
  obtain ⟨xs, m, _, _, _, hl, hat⟩ := DataW.trod_array Try.underlying23 hf
  have hx := hat i hi
  have he : Try.prog.cellsOf 22 = 1 := by kernel_rfl
  rw [he, List.getElem?_eq_getElem (by omega)] at hx
  obtain ⟨n, hc, _, hw⟩ := DataW.trod_int Try.underlying22 hx
  obtain ⟨k, rfl, hk⟩ := u32_nat hw
  refine ⟨k, hk, ?_⟩
  have e0 : (cs.toList.drop (i * 1)).take 1 = [Value.int .u32 (k : Int)] := hc
  rw [Nat.mul_one] at e0
  have e2 : (cs.toList.drop i)[0]? = some (Value.int .u32 (k : Int)) := by
    have := congrArg (fun l => l[0]?) e0
    simpa using this
  simpa using e2

theorem one_of_marks {cs : Array Value} (hs : cs.size = 256) (hv : ∀ i, i < 256 → ∃ n : Nat, n < 4294967296 ∧ cs[i]? = some (.int .u32 (n : Int))) : cs.all (·.oneCell') = true := by
  rw [Array.all_eq_true]
  intro i hi
  obtain ⟨n, _, h⟩ := hv i (by omega)
  rw [Array.getElem?_eq_getElem hi] at h
  injection h with h
  rw [h]; rfl
end Go.Proofs.Ytjnbkjfpbbjepaa
