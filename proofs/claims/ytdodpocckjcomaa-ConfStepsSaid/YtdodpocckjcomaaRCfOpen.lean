/-
  How layer 10's arguments are opened: small numbers, an array of six numbers, a slice of small numbers.
-/
import Derived.Test.YtdodpocckjcomaaROpen
import Derived.Test.YtdodpocckjcomaaRCfLevel
set_option linter.unusedSimpArgs false
set_option linter.unusedVariables false
namespace Go.Proofs.Ytdodpocckjcomaa
open Go.ChangeShapes Go.WideShapes Go.ChangeAt Go.RowKit
theorem c_u8 {n : Int} (h : (Lit.int .u8 n).wf = true) : ∃ k : Nat, n = (k : Int) ∧ k < 256 := by
  have := bounds_u8 h
  exact ⟨n.toNat, by omega, by omega⟩
theorem okWide_array {P : Program} {w : World} {r : Reach} {base n : Nat} {t e : TypeId} {v : Value} (ht : P.underlying t = some (.array n e)) (h : Value.okWide P w r base t v) :
    ∃ cs, v = .agg cs ∧ cs.size = P.cellsOf t := by
  unfold Value.okWide at h
  rw [ht] at h
  obtain ⟨cs, rfl, hs, _⟩ := h
  exact ⟨cs, rfl, hs⟩
theorem open_marks6 {H : Type} {enc : TypeId × Value → H} {W : World} {cs : Array Value} {d : DataW H} {ps : List MemPlace} (hs : cs.size = 6) (h : DataW.Trod enc Try.prog W 0 (fun _ => true) true 23 (.agg cs) d ps) : ∃ x, Mk cs x := by
  have key : ∀ i, i < 6 → ∃ n : Nat, n < Nm.top ∧ cs[i]? = some (.int .u64 (n : Int)) := by
    intro i hi
    obtain ⟨fuel, hf⟩ := h
    obtain ⟨xs, m, _, _, _, hl, hat⟩ := DataW.trod_array Try.underlying23 hf
    have hx := hat i hi
    have he : Try.prog.cellsOf 22 = 1 := by kernel_rfl
    rw [he, List.getElem?_eq_getElem (by omega)] at hx
    obtain ⟨n, hc, _, hw⟩ := DataW.trod_int Try.underlying22 hx
    obtain ⟨k, rfl, hk⟩ := u64_nat hw
    refine ⟨k, hk, ?_⟩
    have e0 : (cs.toList.drop (i * 1)).take 1 = [Value.int .u64 (k : Int)] := hc
    rw [Nat.mul_one] at e0
    have e2 : (cs.toList.drop i)[0]? = some (Value.int .u64 (k : Int)) := by
      have := congrArg (fun l => l[0]?) e0
      simpa using this
    simpa using e2
  refine ⟨fun n => (match cs[n]? with | some (.int _ q) => q.toNat | _ => 0), hs, fun n hn => ?_, fun n hn => ?_⟩
  · obtain ⟨k, _, hk⟩ := key n hn
    rw [hk]; simp
  · obtain ⟨k, hk1, hk⟩ := key n hn
    simp only [hk]
    unfold Nm.top at hk1
    simpa using hk1
theorem open_bs {H : Type} {enc : TypeId × Value → H} {W : World} {a : Option Addr} {len cap : Nat} {d : DataW H} {ps : List MemPlace} (h : DataW.Trod enc Try.prog W 0 (fun _ => true) true 24 (.slice a len cap) d ps) :
    ∃ ns : List Nat, len = ns.length ∧ Lies W a (nc ns) ∧ (∀ n ∈ ns, n < 256) ∧ len ≤ maxLen := by
  obtain ⟨fuel, hf⟩ := h
  rcases open_ints Try.underlying24 Try.underlying5 (by kernel_rfl) hf with ⟨hcs, _⟩ | ⟨x, l, c, zs, hcs, _, hl, hm, hz, _, hcell, hwz⟩
  · simp [Value.cells] at hcs
    obtain ⟨rfl, rfl, rfl⟩ := hcs
    exact ⟨[], rfl, .inl rfl, by simp, by simp [maxLen]⟩
  · simp [Value.cells] at hcs
    obtain ⟨rfl, rfl, rfl⟩ := hcs
    simp only [if_true] at hz
    have e : nc ((zs.take len).map Int.toNat) = (zs.take len).map (Value.int .u8) := by
      unfold nc
      rw [List.map_map]
      refine List.map_congr_left fun n hn => ?_
      obtain ⟨k, rfl, _⟩ := c_u8 (hwz n (List.mem_of_mem_take hn))
      simp
    refine ⟨(zs.take len).map Int.toNat, by simp; omega, lies_of fun i u hu => ?_, fun n hn => ?_, by omega⟩
    · rw [e] at hu
      obtain ⟨z, hz1, rfl⟩ : ∃ z, (zs.take len)[i]? = some z ∧ Value.int .u8 z = u := by rw [List.getElem?_map, Option.map_eq_some_iff] at hu; exact hu
      have hi : i < zs.length := by
        have := (List.getElem?_eq_some_iff.1 hz1).1
        simp at this; omega
      rw [hcell i hi]
      have : zs[i]? = some z := by
        rw [List.getElem?_take] at hz1
        split at hz1 <;> simp_all
      simp [List.getD, this]
    · obtain ⟨z, hz1, rfl⟩ := List.mem_map.1 hn
      obtain ⟨k, rfl, hk⟩ := c_u8 (hwz z (List.mem_of_mem_take hz1))
      simpa using hk
end Go.Proofs.Ytdodpocckjcomaa
