/-
  How acts and choices are opened as arguments.
-/
import Derived.Test.YtjmnoogaffjdiaaROpen
import Derived.Test.YtjmnoogaffjdiaaRDkBase
import Derived.Deep.Slices
set_option linter.unusedSimpArgs false
set_option linter.unusedVariables false
namespace Go.Proofs.Ytjmnoogaffjdiaa
open Go.ChangeShapes Go.WideShapes Go.ChangeAt Go.RowKit Go.Deep
set_option linter.unusedVariables false
set_option maxRecDepth 100000 in
theorem i64_bounds {n : Int} (h : (Lit.int .i64 n).wf = true) : -9223372036854775808 ≤ n ∧ n ≤ 9223372036854775807 := by
  simpa [Lit.wf, IntKind.min, IntKind.max, IntKind.signed, IntKind.bits] using h
set_option maxRecDepth 100000 in
theorem open_is {H : Type} {enc : TypeId × Value → H} {W : World} {fuel : Nat} {v : Value} {x : DataW H × List MemPlace} (h : DataW.trod enc Try.prog W 0 (fun _ => true) true fuel 34 [v] = some x) :
    ∃ (A : Option Addr) (cap : Nat) (ns : List Int), v = .slice A ns.length cap ∧ Lies W A (ic ns) ∧ (∀ n ∈ ns, -9223372036854775808 ≤ n ∧ n ≤ 9223372036854775807) ∧ ns.length ≤ maxLen := by
  rcases open_ints Try.underlying34 Try.underlying3 (by kernel_rfl) h with ⟨hcs, _⟩ | ⟨x, l, c, zs, hcs, _, hl, hm, hz, _, hcell, hwz⟩
  · obtain rfl : v = .slice none 0 0 := by simpa using hcs
    exact ⟨none, 0, [], rfl, .inl rfl, fun p hp => (by cases hp), (by simp [maxLen])⟩
  · obtain rfl : v = .slice (some x) l c := by simpa using hcs
    simp only [if_true] at hz
    have hlen : (zs.take l).length = l := by simp; omega
    refine ⟨some x, c, zs.take l, by rw [hlen], lies_of fun i u hu => ?_, fun n hn => i64_bounds (hwz n (List.mem_of_mem_take hn)), by omega⟩
    unfold ic at hu
    rw [List.getElem?_map, Option.map_eq_some_iff] at hu
    obtain ⟨z, hz1, rfl⟩ := hu
    have hi : i < zs.length := by
      have := (List.getElem?_eq_some_iff.1 hz1).1
      simp at this; omega
    rw [hcell i hi]
    have : zs[i]? = some z := by
      rw [List.getElem?_take] at hz1
      split at hz1 <;> simp_all
    simp [List.getD, this]
set_option maxRecDepth 100000 in
theorem open_choices {H : Type} {enc : TypeId × Value → H} {W : World} {fuel : Nat} {cs : List Value} {x : DataW H × List MemPlace} (h : DataW.trod enc Try.prog W 0 (fun _ => true) true fuel 36 cs = some x) :
    ∃ (ks ts : List Int) (K T : Option Addr) (kc tc : Nat), cs = [.slice K ks.length kc, .slice T ts.length tc] ∧ GivenC W ks ts K T := by
  obtain ⟨ys, n, _, _, hl, hyl, hf⟩ := DataW.trod_struct Try.underlying36 h
  have hC : Try.prog.cellsOf 36 = 2 := by kernel_rfl
  have hS : Try.prog.cellsOf 34 = 1 := by kernel_rfl
  rw [hC] at hl
  have hyn : ys.length = 2 := hyl
  obtain ⟨u, v, rfl⟩ : ∃ u v, cs = [u, v] := by
    match cs, hl with
    | [u, v], _ => exact ⟨u, v, rfl⟩
  have g0 : DataW.trod enc Try.prog W 0 (fun _ => true) true n 34 (([u, v].drop 0).take (Try.prog.cellsOf 34)) = ys[0]? := hf 0 _ rfl
  have g1 : DataW.trod enc Try.prog W 0 (fun _ => true) true n 34 (([u, v].drop 1).take (Try.prog.cellsOf 34)) = ys[1]? := hf 1 _ rfl
  rw [List.getElem?_eq_getElem (by omega), hS] at g0 g1
  obtain ⟨K, kc, ks, rfl, a1, a2, a3⟩ := open_is (v := u) g0
  obtain ⟨T, tc, ts, rfl, b1, b2, b3⟩ := open_is (v := v) g1
  exact ⟨ks, ts, K, T, kc, tc, rfl, a1, b1, a2, b2, a3, b3⟩
/-- Choices as an argument. -/
theorem open_crash {H : Type} {enc : TypeId × Value → H} {W : World} {cs : Array Value} {d : DataW H} {ps : List MemPlace} (h : DataW.Trod enc Try.prog W 0 (fun _ => true) true 36 (.agg cs) d ps) :
    ∃ (ks ts : List Int) (K T : Option Addr) (kc tc : Nat), cs = #[.slice K ks.length kc, .slice T ts.length tc] ∧ GivenC W ks ts K T := by
  obtain ⟨fuel, hf⟩ := h
  obtain ⟨ks, ts, K, T, kc, tc, hcs, gv⟩ := open_choices hf
  exact ⟨ks, ts, K, T, kc, tc, Array.toList_inj.1 hcs, gv⟩
set_option maxRecDepth 100000 in
theorem open_act {H : Type} {enc : TypeId × Value → H} {W : World} {fuel : Nat} {cs : List Value} {x : DataW H × List MemPlace} (h : DataW.trod enc Try.prog W 0 (fun _ => true) true fuel 38 cs = some x) :
    ∃ g : Ga, cs = ac1 g ∧ GivenA W g := by
  obtain ⟨ys, n, _, _, hl, hyl, hf⟩ := DataW.trod_struct Try.underlying38 h
  have hC : Try.prog.cellsOf 38 = 6 := by kernel_rfl
  have h8 : Try.prog.cellsOf 5 = 1 := by kernel_rfl
  have hs : Try.prog.cellsOf 9 = 1 := by kernel_rfl
  have hi : Try.prog.cellsOf 3 = 1 := by kernel_rfl
  have h2 : Try.prog.cellsOf 36 = 2 := by kernel_rfl
  rw [hC] at hl
  have hyn : ys.length = 5 := hyl
  obtain ⟨c0, c1, c2, c3, c4, c5, rfl⟩ : ∃ c0 c1 c2 c3 c4 c5, cs = [c0, c1, c2, c3, c4, c5] := by
    match cs, hl with
    | [c0, c1, c2, c3, c4, c5], _ => exact ⟨c0, c1, c2, c3, c4, c5, rfl⟩
  have g0 : DataW.trod enc Try.prog W 0 (fun _ => true) true n 5 (([c0, c1, c2, c3, c4, c5].drop 0).take (Try.prog.cellsOf 5)) = ys[0]? := hf 0 _ rfl
  have g1 : DataW.trod enc Try.prog W 0 (fun _ => true) true n 9 (([c0, c1, c2, c3, c4, c5].drop 1).take (Try.prog.cellsOf 9)) = ys[1]? := hf 1 _ rfl
  have g2 : DataW.trod enc Try.prog W 0 (fun _ => true) true n 9 (([c0, c1, c2, c3, c4, c5].drop 2).take (Try.prog.cellsOf 9)) = ys[2]? := hf 2 _ rfl
  have g3 : DataW.trod enc Try.prog W 0 (fun _ => true) true n 3 (([c0, c1, c2, c3, c4, c5].drop 3).take (Try.prog.cellsOf 3)) = ys[3]? := hf 3 _ rfl
  have g4 : DataW.trod enc Try.prog W 0 (fun _ => true) true n 36 (([c0, c1, c2, c3, c4, c5].drop 4).take (Try.prog.cellsOf 36)) = ys[4]? := hf 4 _ rfl
  rw [List.getElem?_eq_getElem (by omega)] at g0 g1 g2 g3 g4
  rw [h8] at g0
  rw [hs] at g1 g2
  rw [hi] at g3
  rw [h2] at g4
  obtain ⟨i0, hc0, _, wf0⟩ := DataW.trod_int (t := 5) Try.underlying5 g0
  obtain ⟨k0, rfl, z0⟩ := u8_nat wf0
  obtain ⟨s1, hc1, _, z1⟩ := DataW.trod_string (t := 9) Try.underlying9 g1
  obtain ⟨s2, hc2, _, z2⟩ := DataW.trod_string (t := 9) Try.underlying9 g2
  obtain ⟨i3, hc3, _, wf3⟩ := DataW.trod_int (t := 3) Try.underlying3 g3
  obtain ⟨ks, ts, K, T, kc, tc, hc4, gv⟩ := open_choices g4
  obtain rfl : c0 = .int .u8 (k0 : Int) := by simpa using hc0
  obtain rfl : c1 = .string s1 := by simpa using hc1
  obtain rfl : c2 = .string s2 := by simpa using hc2
  obtain rfl : c3 = .int .i64 i3 := by simpa using hc3
  obtain ⟨rfl, rfl⟩ : c4 = .slice K ks.length kc ∧ c5 = .slice T ts.length tc := by simpa using hc4
  exact ⟨⟨⟨k0, s1, s2, i3, ks, ts⟩, K, kc, T, tc⟩, rfl, z0, z1, z2, i64_bounds wf3, gv.kl, gv.tl, gv.kn, gv.tn, gv.km, gv.tm⟩

set_option maxRecDepth 100000 in
theorem open_acts {H : Type} {enc : TypeId × Value → H} {W : World} {a : Option Addr} {len cap : Nat} {d : DataW H} {ps : List MemPlace} (h : DataW.Trod enc Try.prog W 0 (fun _ => true) true 22 (.slice a len cap) d ps) :
    ∃ gs : List Ga, len = gs.length ∧ Lies W a (ac gs) ∧ (∀ g ∈ gs, GivenA W g) ∧ len ≤ maxLen := by
  obtain ⟨fuel, hf⟩ := h
  have hf : DataW.trod enc Try.prog W 0 (fun _ => true) true fuel 22 [.slice a len cap] = some (d, ps) := by simpa [Value.cells] using hf
  rcases open_slice Try.underlying22 hf with ⟨hcs, _⟩ | ⟨x, l, c, m, n, D, Pl, hcs, _, hl, hm, hmm, _, hi⟩
  · simp at hcs
    obtain ⟨rfl, rfl, rfl⟩ := hcs
    exact ⟨[], rfl, .inl rfl, fun p hp => (by cases hp), (by simp [maxLen])⟩
  simp at hcs
  obtain ⟨rfl, rfl, rfl⟩ := hcs
  simp only [if_true] at hmm
  have hC : Try.prog.cellsOf 38 = 6 := by kernel_rfl
  have key : ∀ i, ∃ g : Ga, i < len → (∀ j, j < 6 → W.cell? (x.add (6 * i + j)) = (ac1 g)[j]?) ∧ GivenA W g := by
    intro i
    by_cases hil : i < len
    case neg => exact ⟨Ga.none, fun h => absurd h hil⟩
    obtain ⟨cs', hc, ht⟩ := hi i (by omega)
    rw [hC] at hc
    obtain ⟨_, hcl, hat⟩ := World.cells?_some hc
    obtain ⟨g, he, gv⟩ := open_act ht
    refine ⟨g, fun _ => ⟨fun j hj => ?_, gv⟩⟩
    have := hat j (by omega)
    rw [he] at this
    rw [Nat.mul_comm 6 i, ← Go.Deep.add_add]
    exact this
  obtain ⟨F, hF⟩ := Classical.axiomOfChoice key
  have hlen : ((List.range len).map F).length = len := by simp
  refine ⟨(List.range len).map F, by rw [hlen], lies_of fun i u hu => ?_, fun p hp => ?_, by omega⟩
  · have hil : i < 6 * len := by
      have := (List.getElem?_eq_some_iff.1 hu).1
      rw [ac_length, hlen] at this; exact this
    have hk : i / 6 < len := by omega
    have h0 := ac_at ((List.range len).map F) (i / 6) (by rw [hlen]; exact hk) (i % 6) (by omega)
    have eF : ((List.range len).map F)[i / 6]'(by rw [hlen]; exact hk) = F (i / 6) := by simp
    rw [eF, Nat.div_add_mod i 6] at h0
    have h1 := (hF (i / 6) hk).1 (i % 6) (by omega)
    rw [Nat.div_add_mod i 6] at h1
    rw [h1, ← h0, hu]
  · obtain ⟨i, hi, rfl⟩ := List.mem_map.1 hp
    exact (hF i (List.mem_range.1 hi)).2
end Go.Proofs.Ytjmnoogaffjdiaa
