/-
  How messages are opened as arguments. WRITTEN BY wip/tools/gen_mgopen.py.
-/
import Derived.Test.YtpdahbfjbgcmgaaREnOpen
import Derived.Test.YtpdahbfjbgcmgaaRMgA
set_option linter.unusedSimpArgs false
set_option linter.unusedVariables false
namespace Go.Proofs.Ytpdahbfjbgcmgaa
open Go.ChangeShapes Go.WideShapes Go.ChangeAt Go.RowKit Go.Deep
set_option linter.unusedVariables false
/-- The cells of a struct, each of which is a field. -/
theorem struct_cell5 {H : Type} {enc : TypeId × Value → H} {P : Program} {w : World} {base : Nat} {spare : Nat → Bool} {held : Bool} {t : TypeId} {fs : Array Field} {fuel : Nat} {cs : List Value} {x : DataW H × List MemPlace} (hs : P.underlying t = some (.struct fs)) (hone : oneCellFields P fs = true) (hC : P.cellsOf t = fs.size)
    (h : DataW.trod enc P w base spare held fuel t cs = some x) : cs.length = fs.size ∧ ∃ n, ∀ (j : Nat) (f : Field), fs[j]? = some f → ∃ v y, cs[j]? = some v ∧ DataW.trod enc P w base spare held n f.type [v] = some y := by
  obtain ⟨ys, n, _, _, hl, hyl, hf⟩ := DataW.trod_struct hs h
  rw [hC] at hl
  refine ⟨hl, n, fun j f hj => ?_⟩
  obtain ⟨ho, hk⟩ := hone_of hone j f hj
  have hjl : j < fs.size := (Array.getElem?_eq_some_iff.1 hj).1
  have h1 := hf j f hj
  rw [ho, hk, List.getElem?_eq_getElem (by omega), List.drop_eq_getElem_cons (by omega)] at h1
  exact ⟨_, _, List.getElem?_eq_getElem (by omega), h1⟩
theorem open_ents {H : Type} {enc : TypeId × Value → H} {W : World} {fuel : Nat} {v : Value} {x : DataW H × List MemPlace} (h : DataW.trod enc Try.prog W 0 (fun _ => true) true fuel 61 [v] = some x) :
    ∃ (A : Option Addr) (cap : Nat) (es : List En.E), v = .slice A es.length cap ∧ Lies W A (ec es) ∧ (∀ e ∈ es, En.Fits e ∧ e.body.size ≤ maxLen) ∧ es.length ≤ maxLen ∧ (A = none → cap = 0) := by
  rcases open_slice Try.underlying61 h with ⟨hcs, _⟩ | ⟨a, len, cap, m, n, D, Pl, hcs, _, hl, hm, hmm, _, hi⟩
  · obtain rfl : v = .slice none 0 0 := by simpa using hcs
    exact ⟨none, 0, [], rfl, .inl rfl, fun p hp => (by cases hp), (by simp [maxLen]), fun _ => rfl⟩
  obtain rfl : v = .slice (some a) len cap := by simpa using hcs
  simp only [if_true] at hmm
  have hC : Try.prog.cellsOf 65 = 13 := by kernel_rfl
  have key : ∀ i, ∃ e : En.E, i < len → (∀ j, j < 13 → W.cell? (a.add (13 * i + j)) = (ec1 e)[j]?) ∧ (En.Fits e ∧ e.body.size ≤ maxLen) := by
    intro i
    by_cases hil : i < len
    case neg => exact ⟨En.zero, fun h => absurd h hil⟩
    obtain ⟨cs', hc, ht⟩ := hi i (by omega)
    rw [hC] at hc
    obtain ⟨_, hcl, hat⟩ := World.cells?_some hc
    obtain ⟨e, he, hf, hz⟩ := open_entry (cs := cs'.toArray) ⟨n, by simpa [Value.cells] using ht⟩
    have he2 : cs' = ec1 e := by rw [← ec1_toList, ← he]
    refine ⟨e, fun _ => ⟨fun j hj => ?_, hf, hz⟩⟩
    have := hat j (by omega)
    rw [he2] at this
    rw [Nat.mul_comm 13 i, ← Go.Deep.add_add]
    exact this
  obtain ⟨F, hF⟩ := Classical.axiomOfChoice key
  have hlen : ((List.range len).map F).length = len := by simp
  refine ⟨some a, cap, (List.range len).map F, by rw [hlen], lies_of fun i u hu => ?_, fun p hp => ?_, by rw [hlen]; omega, fun e => by cases e⟩
  · have hil : i < 13 * len := by
      have := (List.getElem?_eq_some_iff.1 hu).1
      rw [ec_length, hlen] at this; exact this
    have hk : i / 13 < len := by omega
    have h0 := ec_at ((List.range len).map F) (i / 13) (by rw [hlen]; exact hk) (i % 13) (by omega)
    have eF : ((List.range len).map F)[i / 13]'(by rw [hlen]; exact hk) = F (i / 13) := by simp
    rw [eF, Nat.div_add_mod i 13] at h0
    have h1 := (hF (i / 13) hk).1 (i % 13) (by omega)
    rw [Nat.div_add_mod i 13] at h1
    rw [h1, ← h0, hu]
  · obtain ⟨i, hi, rfl⟩ := List.mem_map.1 hp
    exact (hF i (List.mem_range.1 hi)).2
/-- A message that is handed in. -/
structure GivenM (W : World) (m : Mg.M) (A : Option Addr) (cap : Nat) : Prop where
  lies : Lies W A (ec m.ents)
  fits : Mg.Fits m
  body : m.body.size ≤ maxLen
  len : m.ents.length ≤ maxLen
  ents : ∀ e ∈ m.ents, e.body.size ≤ maxLen
  nil : A = none → cap = 0
set_option maxRecDepth 100000 in
theorem open_msg {H : Type} {enc : TypeId × Value → H} {W : World} {cs : Array Value} {d : DataW H} {ps : List MemPlace} (h : DataW.Trod enc Try.prog W 0 (fun _ => true) true 63 (.agg cs) d ps) :
    ∃ (m : Mg.M) (A : Option Addr) (cap : Nat), cs = msgC m A cap ∧ GivenM W m A cap := by
  obtain ⟨fuel, hf0⟩ := h
  obtain ⟨hl, n, hf⟩ := struct_cell5 Try.underlying63 (by kernel_rfl) (by kernel_rfl) hf0
  obtain ⟨v0, y0, hv0, ht0⟩ := hf 0 _ rfl
  obtain ⟨i0, hc0, _, wf0⟩ := DataW.trod_int (t := 5) Try.underlying5 ht0
  obtain ⟨k0, rfl, z0⟩ := u8_nat wf0
  obtain rfl : v0 = .int .u8 (k0 : Int) := by simpa using hc0
  obtain ⟨v1, y1, hv1, ht1⟩ := hf 1 _ rfl
  obtain ⟨i1, hc1, _, wf1⟩ := DataW.trod_int (t := 5) Try.underlying5 ht1
  obtain ⟨k1, rfl, z1⟩ := u8_nat wf1
  obtain rfl : v1 = .int .u8 (k1 : Int) := by simpa using hc1
  obtain ⟨v2, y2, hv2, ht2⟩ := hf 2 _ rfl
  obtain ⟨i2, hc2, _, wf2⟩ := DataW.trod_int (t := 5) Try.underlying5 ht2
  obtain ⟨k2, rfl, z2⟩ := u8_nat wf2
  obtain rfl : v2 = .int .u8 (k2 : Int) := by simpa using hc2
  obtain ⟨v3, y3, hv3, ht3⟩ := hf 3 _ rfl
  obtain ⟨i3, hc3, _, wf3⟩ := DataW.trod_int (t := 25) Try.underlying25 ht3
  obtain ⟨k3, rfl, z3⟩ := u64_nat wf3
  obtain rfl : v3 = .int .u64 (k3 : Int) := by simpa using hc3
  obtain ⟨v4, y4, hv4, ht4⟩ := hf 4 _ rfl
  obtain ⟨i4, hc4, _, wf4⟩ := DataW.trod_int (t := 25) Try.underlying25 ht4
  obtain ⟨k4, rfl, z4⟩ := u64_nat wf4
  obtain rfl : v4 = .int .u64 (k4 : Int) := by simpa using hc4
  obtain ⟨v5, y5, hv5, ht5⟩ := hf 5 _ rfl
  obtain ⟨i5, hc5, _, wf5⟩ := DataW.trod_int (t := 25) Try.underlying25 ht5
  obtain ⟨k5, rfl, z5⟩ := u64_nat wf5
  obtain rfl : v5 = .int .u64 (k5 : Int) := by simpa using hc5
  obtain ⟨v6, y6, hv6, ht6⟩ := hf 6 _ rfl
  obtain ⟨i6, hc6, _, wf6⟩ := DataW.trod_int (t := 25) Try.underlying25 ht6
  obtain ⟨k6, rfl, z6⟩ := u64_nat wf6
  obtain rfl : v6 = .int .u64 (k6 : Int) := by simpa using hc6
  obtain ⟨v7, y7, hv7, ht7⟩ := hf 7 _ rfl
  obtain ⟨i7, hc7, _, wf7⟩ := DataW.trod_int (t := 25) Try.underlying25 ht7
  obtain ⟨k7, rfl, z7⟩ := u64_nat wf7
  obtain rfl : v7 = .int .u64 (k7 : Int) := by simpa using hc7
  obtain ⟨v8, y8, hv8, ht8⟩ := hf 8 _ rfl
  obtain ⟨b8, hc8, _⟩ := DataW.trod_bool (t := 4) Try.underlying4 ht8
  obtain rfl : v8 = .bool b8 := by simpa using hc8
  obtain ⟨v9, y9, hv9, ht9⟩ := hf 9 _ rfl
  obtain ⟨i9, hc9, _, wf9⟩ := DataW.trod_int (t := 5) Try.underlying5 ht9
  obtain ⟨k9, rfl, z9⟩ := u8_nat wf9
  obtain rfl : v9 = .int .u8 (k9 : Int) := by simpa using hc9
  obtain ⟨v10, y10, hv10, ht10⟩ := hf 10 _ rfl
  obtain ⟨i10, hc10, _, wf10⟩ := DataW.trod_int (t := 5) Try.underlying5 ht10
  obtain ⟨k10, rfl, z10⟩ := u8_nat wf10
  obtain rfl : v10 = .int .u8 (k10 : Int) := by simpa using hc10
  obtain ⟨v11, y11, hv11, ht11⟩ := hf 11 _ rfl
  obtain ⟨A, cap, qs, rfl, hL, hq, hn, hnil⟩ := open_ents ht11
  obtain ⟨v12, y12, hv12, ht12⟩ := hf 12 _ rfl
  obtain ⟨s12, hc12, _, z12⟩ := DataW.trod_string (t := 9) Try.underlying9 ht12
  obtain rfl : v12 = .string s12 := by simpa using hc12
  refine ⟨⟨k0, k1, k2, k3, k4, k5, k6, k7, b8, k9, k10, qs, s12⟩, A, cap, ?_, hL, ⟨z0, z1, z2, z3, z4, z5, z6, z7, z9, z10, fun e he => (hq e he).1⟩, z12, hn, fun e he => (hq e he).2, hnil⟩
  have hs : cs.size = 13 := hl
  apply Array.ext_getElem?
  intro i
  by_cases hi : i < 13
  · have hall : i = 0 ∨ i = 1 ∨ i = 2 ∨ i = 3 ∨ i = 4 ∨ i = 5 ∨ i = 6 ∨ i = 7 ∨ i = 8 ∨ i = 9 ∨ i = 10 ∨ i = 11 ∨ i = 12 := by omega
    have key : ∀ j v, (Value.agg cs).cells.toList[j]? = some v → cs[j]? = some v := fun j v hv => by rw [← Array.getElem?_toList]; exact hv
    rcases hall with rfl | rfl | rfl | rfl | rfl | rfl | rfl | rfl | rfl | rfl | rfl | rfl | rfl
    · exact key _ _ hv0
    · exact key _ _ hv1
    · exact key _ _ hv2
    · exact key _ _ hv3
    · exact key _ _ hv4
    · exact key _ _ hv5
    · exact key _ _ hv6
    · exact key _ _ hv7
    · exact key _ _ hv8
    · exact key _ _ hv9
    · exact key _ _ hv10
    · exact key _ _ hv11
    · exact key _ _ hv12
  · rw [Array.getElem?_eq_none (by omega), Array.getElem?_eq_none (by simp [msgC]; omega)]
end Go.Proofs.Ytpdahbfjbgcmgaa
