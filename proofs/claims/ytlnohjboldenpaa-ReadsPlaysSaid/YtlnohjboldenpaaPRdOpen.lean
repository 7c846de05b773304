/-
  How layer 13's arguments are opened: acts.
-/
import Derived.Test.YtlnohjboldenpaaPLgOpen
import Derived.Test.YtlnohjboldenpaaPRdBase
set_option linter.unusedSimpArgs false
set_option linter.unusedVariables false
namespace Go.Proofs.Ytlnohjboldenpaa
open Go.ChangeShapes Go.WideShapes Go.ChangeAt Go.RowKit Go.Deep
set_option linter.unusedVariables false
/-- An act: what is done, and with which numbers. -/
structure Rda where
  op : Nat
  a : Nat
  b : Nat
structure RaFit (g : Rda) : Prop where
  op : g.op < 256
  a : g.a < Nm.top
  b : g.b < Nm.top
def ra1 (g : Rda) : List Value := [.int .u8 (g.op : Int), .int .u64 (g.a : Int), .int .u64 (g.b : Int)]
def ras (gs : List Rda) : List Value := (gs.map ra1).flatten
theorem ra1_length (g : Rda) : (ra1 g).length = 3 := rfl
theorem ras_length (es : List Rda) : (ras es).length = 3 * es.length := by
  induction es with
  | nil => rfl
  | cons e es ih =>
    have h : ras (e :: es) = ra1 e ++ ras es := rfl
    rw [h, List.length_append, ih, List.length_cons, ra1_length]; omega
theorem ras_at : ∀ (es : List Rda) (i : Nat) (h : i < es.length) (j : Nat), j < 3 → (ras es)[3 * i + j]? = (ra1 es[i])[j]?
  | e :: es, 0, _, j, hj => by
    show (ra1 e ++ ras es)[3 * 0 + j]? = _
    rw [List.getElem?_append_left (by rw [ra1_length]; omega)]
    congr 1; omega
  | e :: es, i + 1, h, j, hj => by
    have k := ras_at es i (by simpa using h) j hj
    show (ra1 e ++ ras es)[3 * (i + 1) + j]? = _
    rw [List.getElem?_append_right (by rw [ra1_length]; omega), ra1_length]
    have e2 : 3 * (i + 1) + j - 3 = 3 * i + j := by omega
    rw [e2, k]; rfl
theorem Lies.ra {w : World} {A : Option Addr} {es : List Rda} (h : Lies w A (ras es)) (i : Nat) (hi : i < es.length) : ∃ b off, A = some ⟨b, off, none⟩ ∧ b < w.heap.size ∧ w.cell? ⟨b, off + i * 3, none⟩ = some (.int .u8 ((es[i].op : Nat) : Int)) ∧ w.cell? ⟨b, off + i * 3 + 1, none⟩ = some (.int .u64 ((es[i].a : Nat) : Int)) ∧ w.cell? ⟨b, off + i * 3 + 2, none⟩ = some (.int .u64 ((es[i].b : Nat) : Int)) := by
  rcases h with h | ⟨b, off, rfl, hb, hc⟩
  · exfalso
    have := ras_length es
    rw [h] at this
    simp at this; omega
  · have key : ∀ j, j < 3 → ∀ v, (ra1 es[i])[j]? = some v → w.cell? ⟨b, off + (i * 3 + j), none⟩ = some v := fun j hj v hv => hc _ v (by rw [Nat.mul_comm]; exact (ras_at es i hi j hj).trans hv)
    exact ⟨b, off, rfl, hb, key 0 (by decide) _ rfl, by have := key 1 (by decide) _ rfl; rw [← Nat.add_assoc] at this; exact this, by have := key 2 (by decide) _ rfl; rw [← Nat.add_assoc] at this; exact this⟩
set_option maxRecDepth 100000 in
theorem open13_act1 {H : Type} {enc : TypeId × Value → H} {W : World} {fuel : Nat} {cs : List Value} {x : DataW H × List MemPlace} (h : DataW.trod enc Try.prog W 0 (fun _ => true) true fuel 90 cs = some x) :
    ∃ g : Rda, cs = ra1 g ∧ RaFit g := by
  obtain ⟨ys, n, _, _, hl, hyl, hf⟩ := DataW.trod_struct Try.underlying90 h
  have hC : Try.prog.cellsOf 90 = 3 := by kernel_rfl
  have z_u64 : Try.prog.cellsOf 22 = 1 := by kernel_rfl
  have z_u8 : Try.prog.cellsOf 5 = 1 := by kernel_rfl
  rw [hC] at hl
  have hyn : ys.length = 3 := hyl
  obtain ⟨c0, c1, c2, rfl⟩ : ∃ c0 c1 c2, cs = [c0, c1, c2] := by
    match cs, hl with
    | [c0, c1, c2], _ => exact ⟨c0, c1, c2, rfl⟩
  have g0 : DataW.trod enc Try.prog W 0 (fun _ => true) true n 5 (([c0, c1, c2].drop 0).take (Try.prog.cellsOf 5)) = ys[0]? := hf 0 _ rfl
  have g1 : DataW.trod enc Try.prog W 0 (fun _ => true) true n 22 (([c0, c1, c2].drop 1).take (Try.prog.cellsOf 22)) = ys[1]? := hf 1 _ rfl
  have g2 : DataW.trod enc Try.prog W 0 (fun _ => true) true n 22 (([c0, c1, c2].drop 2).take (Try.prog.cellsOf 22)) = ys[2]? := hf 2 _ rfl
  rw [List.getElem?_eq_getElem (by omega)] at g0 g1 g2
  rw [z_u64] at g1 g2
  rw [z_u8] at g0
  obtain ⟨i0, hc0, _, wf0⟩ := DataW.trod_int (t := 5) Try.underlying5 g0
  obtain ⟨k0, rfl, z0⟩ := u8_nat wf0
  obtain ⟨i1, hc1, _, wf1⟩ := DataW.trod_int (t := 22) Try.underlying22 g1
  obtain ⟨k1, rfl, z1⟩ := u64_nat wf1
  obtain ⟨i2, hc2, _, wf2⟩ := DataW.trod_int (t := 22) Try.underlying22 g2
  obtain ⟨k2, rfl, z2⟩ := u64_nat wf2
  obtain rfl : c0 = .int .u8 (k0 : Int) := by simpa using hc0
  obtain rfl : c1 = .int .u64 (k1 : Int) := by simpa using hc1
  obtain rfl : c2 = .int .u64 (k2 : Int) := by simpa using hc2
  exact ⟨⟨k0, k1, k2⟩, rfl, ⟨z0, z1, z2⟩⟩
set_option maxRecDepth 100000 in
theorem open13_acts {H : Type} {enc : TypeId × Value → H} {W : World} {a : Option Addr} {len cap : Nat} {d : DataW H} {ps : List MemPlace} (h : DataW.Trod enc Try.prog W 0 (fun _ => true) true 77 (.slice a len cap) d ps) :
    ∃ gs : List Rda, len = gs.length ∧ Lies W a (ras gs) ∧ (∀ g ∈ gs, RaFit g) ∧ len ≤ maxLen := by
  obtain ⟨fuel, hf⟩ := h
  have hf : DataW.trod enc Try.prog W 0 (fun _ => true) true fuel 77 [.slice a len cap] = some (d, ps) := by simpa [Value.cells] using hf
  rcases open_slice Try.underlying77 hf with ⟨hcs, _⟩ | ⟨x, l, c, m, n, D, Pl, hcs, _, hl, hm, hmm, _, hi⟩
  · simp at hcs
    obtain ⟨rfl, rfl, rfl⟩ := hcs
    exact ⟨[], rfl, .inl rfl, fun p hp => (by cases hp), (by simp [maxLen])⟩
  simp at hcs
  obtain ⟨rfl, rfl, rfl⟩ := hcs
  simp only [if_true] at hmm
  have hC : Try.prog.cellsOf 90 = 3 := by kernel_rfl
  have key : ∀ i, ∃ g : Rda, i < len → (∀ j, j < 3 → W.cell? (x.add (3 * i + j)) = (ra1 g)[j]?) ∧ RaFit g := by
    intro i
    by_cases hil : i < len
    case neg => exact ⟨⟨0, 0, 0⟩, fun h => absurd h hil⟩
    obtain ⟨cs', hc, ht⟩ := hi i (by omega)
    rw [hC] at hc
    obtain ⟨_, hcl, hat⟩ := World.cells?_some hc
    obtain ⟨g, he, gv⟩ := open13_act1 ht
    refine ⟨g, fun _ => ⟨fun j hj => ?_, gv⟩⟩
    have := hat j (by omega)
    rw [he] at this
    rw [Nat.mul_comm 3 i, ← Go.Deep.add_add]
    exact this
  obtain ⟨F, hF⟩ := Classical.axiomOfChoice key
  have hlen : ((List.range len).map F).length = len := by simp
  refine ⟨(List.range len).map F, by rw [hlen], lies_of fun i u hu => ?_, fun p hp => ?_, by omega⟩
  · have hil : i < 3 * len := by
      have := (List.getElem?_eq_some_iff.1 hu).1
      rw [ras_length, hlen] at this; exact this
    have hk : i / 3 < len := by omega
    have h0 := ras_at ((List.range len).map F) (i / 3) (by rw [hlen]; exact hk) (i % 3) (by omega)
    have eF : ((List.range len).map F)[i / 3]'(by rw [hlen]; exact hk) = F (i / 3) := by simp
    rw [eF, Nat.div_add_mod i 3] at h0
    have h1 := (hF (i / 3) hk).1 (i % 3) (by omega)
    rw [Nat.div_add_mod i 3] at h1
    rw [h1, ← h0, hu]
  · obtain ⟨i, hi, rfl⟩ := List.mem_map.1 hp
    exact (hF i (List.mem_range.1 hi)).2
end Go.Proofs.Ytlnohjboldenpaa
