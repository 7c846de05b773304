/-
  How layer 12's arguments are opened: a peer, acts. (gen_pgopen.py)
-/
import Derived.Test.YtlnohjboldenpaaRLgOpen
import Derived.Test.YtlnohjboldenpaaRPgCell
set_option linter.unusedSimpArgs false
set_option linter.unusedVariables false
namespace Go.Proofs.Ytlnohjboldenpaa
open Go.ChangeShapes Go.WideShapes Go.ChangeAt Go.RowKit Go.Deep
set_option linter.unusedVariables false

set_option maxRecDepth 100000 in
theorem open12_peer1 {H : Type} {enc : TypeId × Value → H} {W : World} {fuel : Nat} {cs : List Value} {x : DataW H × List MemPlace} (h : DataW.trod enc Try.prog W 0 (fun _ => true) true fuel 57 cs = some x) :
    ∃ p : Pg.P, cs = (pgC p).toList ∧ PgNum p := by
  obtain ⟨ys, n, _, _, hl, hyl, hf⟩ := DataW.trod_struct Try.underlying57 h
  have hC : Try.prog.cellsOf 57 = 5 := by kernel_rfl
  have z_u64 : Try.prog.cellsOf 22 = 1 := by kernel_rfl
  have z_u8 : Try.prog.cellsOf 5 = 1 := by kernel_rfl
  rw [hC] at hl
  have hyn : ys.length = 5 := hyl
  obtain ⟨c0, c1, c2, c3, c4, rfl⟩ : ∃ c0 c1 c2 c3 c4, cs = [c0, c1, c2, c3, c4] := by
    match cs, hl with
    | [c0, c1, c2, c3, c4], _ => exact ⟨c0, c1, c2, c3, c4, rfl⟩
  have g0 : DataW.trod enc Try.prog W 0 (fun _ => true) true n 22 (([c0, c1, c2, c3, c4].drop 0).take (Try.prog.cellsOf 22)) = ys[0]? := hf 0 _ rfl
  have g1 : DataW.trod enc Try.prog W 0 (fun _ => true) true n 22 (([c0, c1, c2, c3, c4].drop 1).take (Try.prog.cellsOf 22)) = ys[1]? := hf 1 _ rfl
  have g2 : DataW.trod enc Try.prog W 0 (fun _ => true) true n 22 (([c0, c1, c2, c3, c4].drop 2).take (Try.prog.cellsOf 22)) = ys[2]? := hf 2 _ rfl
  have g3 : DataW.trod enc Try.prog W 0 (fun _ => true) true n 22 (([c0, c1, c2, c3, c4].drop 3).take (Try.prog.cellsOf 22)) = ys[3]? := hf 3 _ rfl
  have g4 : DataW.trod enc Try.prog W 0 (fun _ => true) true n 5 (([c0, c1, c2, c3, c4].drop 4).take (Try.prog.cellsOf 5)) = ys[4]? := hf 4 _ rfl
  rw [List.getElem?_eq_getElem (by omega)] at g0 g1 g2 g3 g4
  rw [z_u64] at g0 g1 g2 g3
  rw [z_u8] at g4
  obtain ⟨i0, hc0, _, wf0⟩ := DataW.trod_int (t := 22) Try.underlying22 g0
  obtain ⟨k0, rfl, z0⟩ := u64_nat wf0
  obtain ⟨i1, hc1, _, wf1⟩ := DataW.trod_int (t := 22) Try.underlying22 g1
  obtain ⟨k1, rfl, z1⟩ := u64_nat wf1
  obtain ⟨i2, hc2, _, wf2⟩ := DataW.trod_int (t := 22) Try.underlying22 g2
  obtain ⟨k2, rfl, z2⟩ := u64_nat wf2
  obtain ⟨i3, hc3, _, wf3⟩ := DataW.trod_int (t := 22) Try.underlying22 g3
  obtain ⟨k3, rfl, z3⟩ := u64_nat wf3
  obtain ⟨i4, hc4, _, wf4⟩ := DataW.trod_int (t := 5) Try.underlying5 g4
  obtain ⟨k4, rfl, z4⟩ := u8_nat wf4
  obtain rfl : c0 = .int .u64 (k0 : Int) := by simpa using hc0
  obtain rfl : c1 = .int .u64 (k1 : Int) := by simpa using hc1
  obtain rfl : c2 = .int .u64 (k2 : Int) := by simpa using hc2
  obtain rfl : c3 = .int .u64 (k3 : Int) := by simpa using hc3
  obtain rfl : c4 = .int .u8 (k4 : Int) := by simpa using hc4
  exact ⟨⟨k0, k1, k2, k3, k4⟩, rfl, ⟨z0, z1, z2, z3, z4⟩⟩
set_option maxRecDepth 100000 in
theorem open12_act1 {H : Type} {enc : TypeId × Value → H} {W : World} {fuel : Nat} {cs : List Value} {x : DataW H × List MemPlace} (h : DataW.trod enc Try.prog W 0 (fun _ => true) true fuel 72 cs = some x) :
    ∃ g : Pg.A, cs = pa1 g ∧ Pg.AFit g := by
  obtain ⟨ys, n, _, _, hl, hyl, hf⟩ := DataW.trod_struct Try.underlying72 h
  have hC : Try.prog.cellsOf 72 = 5 := by kernel_rfl
  have z_bool : Try.prog.cellsOf 4 = 1 := by kernel_rfl
  have z_u64 : Try.prog.cellsOf 22 = 1 := by kernel_rfl
  have z_u8 : Try.prog.cellsOf 5 = 1 := by kernel_rfl
  rw [hC] at hl
  have hyn : ys.length = 5 := hyl
  obtain ⟨c0, c1, c2, c3, c4, rfl⟩ : ∃ c0 c1 c2 c3 c4, cs = [c0, c1, c2, c3, c4] := by
    match cs, hl with
    | [c0, c1, c2, c3, c4], _ => exact ⟨c0, c1, c2, c3, c4, rfl⟩
  have g0 : DataW.trod enc Try.prog W 0 (fun _ => true) true n 5 (([c0, c1, c2, c3, c4].drop 0).take (Try.prog.cellsOf 5)) = ys[0]? := hf 0 _ rfl
  have g1 : DataW.trod enc Try.prog W 0 (fun _ => true) true n 4 (([c0, c1, c2, c3, c4].drop 1).take (Try.prog.cellsOf 4)) = ys[1]? := hf 1 _ rfl
  have g2 : DataW.trod enc Try.prog W 0 (fun _ => true) true n 22 (([c0, c1, c2, c3, c4].drop 2).take (Try.prog.cellsOf 22)) = ys[2]? := hf 2 _ rfl
  have g3 : DataW.trod enc Try.prog W 0 (fun _ => true) true n 22 (([c0, c1, c2, c3, c4].drop 3).take (Try.prog.cellsOf 22)) = ys[3]? := hf 3 _ rfl
  have g4 : DataW.trod enc Try.prog W 0 (fun _ => true) true n 5 (([c0, c1, c2, c3, c4].drop 4).take (Try.prog.cellsOf 5)) = ys[4]? := hf 4 _ rfl
  rw [List.getElem?_eq_getElem (by omega)] at g0 g1 g2 g3 g4
  rw [z_bool] at g1
  rw [z_u64] at g2 g3
  rw [z_u8] at g0 g4
  obtain ⟨i0, hc0, _, wf0⟩ := DataW.trod_int (t := 5) Try.underlying5 g0
  obtain ⟨k0, rfl, z0⟩ := u8_nat wf0
  obtain ⟨k1, hc1, _⟩ := DataW.trod_bool (t := 4) Try.underlying4 g1
  obtain ⟨i2, hc2, _, wf2⟩ := DataW.trod_int (t := 22) Try.underlying22 g2
  obtain ⟨k2, rfl, z2⟩ := u64_nat wf2
  obtain ⟨i3, hc3, _, wf3⟩ := DataW.trod_int (t := 22) Try.underlying22 g3
  obtain ⟨k3, rfl, z3⟩ := u64_nat wf3
  obtain ⟨i4, hc4, _, wf4⟩ := DataW.trod_int (t := 5) Try.underlying5 g4
  obtain ⟨k4, rfl, z4⟩ := u8_nat wf4
  obtain rfl : c0 = .int .u8 (k0 : Int) := by simpa using hc0
  obtain rfl : c1 = .bool k1 := by simpa using hc1
  obtain rfl : c2 = .int .u64 (k2 : Int) := by simpa using hc2
  obtain rfl : c3 = .int .u64 (k3 : Int) := by simpa using hc3
  obtain rfl : c4 = .int .u8 (k4 : Int) := by simpa using hc4
  exact ⟨⟨k0, k1, k2, k3, k4⟩, rfl, ⟨z0, z2, z3, z4⟩⟩
theorem open12_peer {H : Type} {enc : TypeId × Value → H} {W : World} {cs : Array Value} {d : DataW H} {ps : List MemPlace} (h : DataW.Trod enc Try.prog W 0 (fun _ => true) true 57 (.agg cs) d ps) :
    ∃ p : Pg.P, cs = pgC p ∧ PgNum p := by
  obtain ⟨fuel, hf⟩ := h
  obtain ⟨g, hs, gv⟩ := open12_peer1 hf
  exact ⟨g, Array.toList_inj.1 hs, gv⟩
set_option maxRecDepth 100000 in
theorem open12_acts {H : Type} {enc : TypeId × Value → H} {W : World} {a : Option Addr} {len cap : Nat} {d : DataW H} {ps : List MemPlace} (h : DataW.Trod enc Try.prog W 0 (fun _ => true) true 68 (.slice a len cap) d ps) :
    ∃ gs : List Pg.A, len = gs.length ∧ Lies W a (pas gs) ∧ (∀ g ∈ gs, Pg.AFit g) ∧ len ≤ maxLen := by
  obtain ⟨fuel, hf⟩ := h
  have hf : DataW.trod enc Try.prog W 0 (fun _ => true) true fuel 68 [.slice a len cap] = some (d, ps) := by simpa [Value.cells] using hf
  rcases open_slice Try.underlying68 hf with ⟨hcs, _⟩ | ⟨x, l, c, m, n, D, Pl, hcs, _, hl, hm, hmm, _, hi⟩
  · simp at hcs
    obtain ⟨rfl, rfl, rfl⟩ := hcs
    exact ⟨[], rfl, .inl rfl, fun p hp => (by cases hp), (by simp [maxLen])⟩
  simp at hcs
  obtain ⟨rfl, rfl, rfl⟩ := hcs
  simp only [if_true] at hmm
  have hC : Try.prog.cellsOf 72 = 5 := by kernel_rfl
  have key : ∀ i, ∃ g : Pg.A, i < len → (∀ j, j < 5 → W.cell? (x.add (5 * i + j)) = (pa1 g)[j]?) ∧ Pg.AFit g := by
    intro i
    by_cases hil : i < len
    case neg => exact ⟨⟨0, false, 0, 0, 0⟩, fun h => absurd h hil⟩
    obtain ⟨cs', hc, ht⟩ := hi i (by omega)
    rw [hC] at hc
    obtain ⟨_, hcl, hat⟩ := World.cells?_some hc
    obtain ⟨g, he, gv⟩ := open12_act1 ht
    refine ⟨g, fun _ => ⟨fun j hj => ?_, gv⟩⟩
    have := hat j (by omega)
    rw [he] at this
    rw [Nat.mul_comm 5 i, ← Go.Deep.add_add]
    exact this
  obtain ⟨F, hF⟩ := Classical.axiomOfChoice key
  have hlen : ((List.range len).map F).length = len := by simp
  refine ⟨(List.range len).map F, by rw [hlen], lies_of fun i u hu => ?_, fun p hp => ?_, by omega⟩
  · have hil : i < 5 * len := by
      have := (List.getElem?_eq_some_iff.1 hu).1
      rw [pas_length, hlen] at this; exact this
    have hk : i / 5 < len := by omega
    have h0 := pas_at ((List.range len).map F) (i / 5) (by rw [hlen]; exact hk) (i % 5) (by omega)
    have eF : ((List.range len).map F)[i / 5]'(by rw [hlen]; exact hk) = F (i / 5) := by simp
    rw [eF, Nat.div_add_mod i 5] at h0
    have h1 := (hF (i / 5) hk).1 (i % 5) (by omega)
    rw [Nat.div_add_mod i 5] at h1
    rw [h1, ← h0, hu]
  · obtain ⟨i, hi, rfl⟩ := List.mem_map.1 hp
    exact (hF i (List.mem_range.1 hi)).2
end Go.Proofs.Ytlnohjboldenpaa
