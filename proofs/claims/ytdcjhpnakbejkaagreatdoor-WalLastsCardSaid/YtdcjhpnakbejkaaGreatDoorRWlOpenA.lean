/-
  How lists of lists of records are opened as arguments.
-/
import Derived.Test.YtdcjhpnakbejkaaGreatDoorROpK
set_option linter.unusedSimpArgs false
set_option linter.unusedVariables false
namespace Go.Proofs.YtdcjhpnakbejkaaGreatDoor
open Go.ChangeShapes Go.WideShapes Go.ChangeAt Go.RowKit Go.Deep
set_option linter.unusedVariables false
/-- A list of records where it lies. -/
structure Gl where
  A : Option Addr
  cap : Nat
  l : List Wl.R
def gv (g : Gl) : Value := .slice g.A g.l.length g.cap
def gvs (gs : List Gl) : List Value := gs.map gv
structure GivenG (W : World) (A : Option Addr) (gs : List Gl) : Prop where
  lies : Lies W A (gvs gs)
  all : ∀ g ∈ gs, GivenR W g.A g.l
  len : gs.length ≤ maxLen
theorem GivenG.below {W W' : World} {A : Option Addr} {gs : List Gl} (h : GivenG W A gs) (hb : Below W.heap.size W W') : GivenG W' A gs := ⟨h.lies.below hb, fun g hg => (h.all g hg).below hb, h.len⟩
theorem GivenG.cell {W : World} {A : Option Addr} {gs : List Gl} (h : GivenG W A gs) (k : Nat) (hk : k < gs.length) : ∃ b off, A = some ⟨b, off, none⟩ ∧ b < W.heap.size ∧ W.cell? ⟨b, off + k, none⟩ = some (gv gs[k]) := by
  rcases h.lies with h0 | ⟨b, off, rfl, hb, hc⟩
  · unfold gvs at h0
    rw [List.map_eq_nil_iff] at h0
    rw [h0] at hk
    exact absurd hk (Nat.not_lt_zero _)
  · exact ⟨b, off, rfl, hb, hc k _ (by unfold gvs; rw [List.getElem?_map, List.getElem?_eq_getElem hk]; rfl)⟩
set_option maxRecDepth 100000 in
theorem open8_adds {H : Type} {enc : TypeId × Value → H} {W : World} {a : Option Addr} {len cap : Nat} {d : DataW H} {ps : List MemPlace} (h : DataW.Trod enc Tryz.prog W 0 (fun _ => true) true 76 (.slice a len cap) d ps) :
    ∃ gs : List Gl, len = gs.length ∧ GivenG W a gs := by
  obtain ⟨fuel, hf⟩ := h
  have hf : DataW.trod enc Tryz.prog W 0 (fun _ => true) true fuel 76 [.slice a len cap] = some (d, ps) := by simpa [Value.cells] using hf
  rcases open_slice Tryz.underlying76 hf with ⟨hcs, _⟩ | ⟨x, l, c, m, n, D, Pl, hcs, _, hl, hm, hmm, _, hi⟩
  · simp at hcs
    obtain ⟨rfl, rfl, rfl⟩ := hcs
    exact ⟨[], rfl, .inl rfl, fun p hp => (by cases hp), (by simp [maxLen])⟩
  simp at hcs
  obtain ⟨rfl, rfl, rfl⟩ := hcs
  simp only [if_true] at hmm
  have hC : Tryz.prog.cellsOf 42 = 1 := by kernel_rfl
  have key : ∀ i, ∃ g : Gl, i < len → W.cell? (x.add i) = some (gv g) ∧ GivenR W g.A g.l := by
    intro i
    by_cases hil : i < len
    case neg => exact ⟨⟨none, 0, []⟩, fun h => absurd h hil⟩
    obtain ⟨cs', hc, ht⟩ := hi i (by omega)
    rw [hC] at hc
    obtain ⟨_, hcl, hat⟩ := World.cells?_some hc
    obtain ⟨v, rfl⟩ : ∃ v, cs' = [v] := by
      match cs', hcl with
      | [v], _ => exact ⟨v, rfl⟩
    obtain ⟨A, cp, l, e, g⟩ := open_recs1 ht
    refine ⟨⟨A, cp, l⟩, fun _ => ⟨?_, g⟩⟩
    have := hat 0 (by omega)
    rw [e] at this
    simpa [gv, Go.Deep.add_add] using this
  obtain ⟨F, hF⟩ := Classical.axiomOfChoice key
  have hlen : ((List.range len).map F).length = len := by simp
  refine ⟨(List.range len).map F, by rw [hlen], lies_of fun i u hu => ?_, fun p hp => ?_, by omega⟩
  · have hil : i < len := by
      have := (List.getElem?_eq_some_iff.1 hu).1
      unfold gvs at this
      rw [List.length_map, hlen] at this; exact this
    have h1 := (hF i hil).1
    rw [h1, ← hu]
    simp [gvs, hil]
  · obtain ⟨i, hi, rfl⟩ := List.mem_map.1 hp
    exact (hF i (List.mem_range.1 hi)).2
end Go.Proofs.YtdcjhpnakbejkaaGreatDoor
