/-
  Small words for opening arguments.
  How acts and choices are opened as arguments.
  How entries are opened as arguments. WRITTEN BY wip/tools/gen_enopen.py.
  How lists of records are opened as arguments.
-/
import Derived.Test.YtdcjhpnakbejkaaGreatDoorROpen
import Derived.Test.YtdcjhpnakbejkaaGreatDoorRDkB
import Derived.Test.YtdcjhpnakbejkaaGreatDoorREnA
import Derived.Test.YtdcjhpnakbejkaaGreatDoorRWlBase
import Derived.OpenShut
import Derived.Deep.Fields
import Derived.Deep.Slices
set_option linter.unusedSimpArgs false
set_option linter.unusedVariables false
namespace Go.Proofs.YtdcjhpnakbejkaaGreatDoor
open Go.ChangeShapes Go.WideShapes Go.ChangeAt Go.RowKit Go.Deep
set_option linter.unusedVariables false
theorem u8_nat {n : Int} (h : (Lit.int .u8 n).wf = true) : ∃ k : Nat, n = (k : Int) ∧ k < 256 := by
  have := bounds_u8 h
  exact ⟨n.toNat, by omega, by omega⟩
theorem u16_nat {n : Int} (h : (Lit.int .u16 n).wf = true) : ∃ k : Nat, n = (k : Int) ∧ k < 65536 := by
  have := bounds_u16 h
  exact ⟨n.toNat, by omega, by omega⟩
theorem drop_one {L : List Value} {k : Nat} {v : Value} (h : (L.drop k).take 1 = [v]) : L[k]? = some v := by
  have := congrArg (fun l => l[0]?) h
  simpa using this
theorem u8_byte {k : Nat} (h : k < 256) : ∃ a : UInt8, k = a.toNat := ⟨UInt8.ofNat k, by simp; omega⟩
end Go.Proofs.YtdcjhpnakbejkaaGreatDoor
namespace Go.Proofs.YtdcjhpnakbejkaaGreatDoor
open Go.ChangeShapes Go.WideShapes Go.ChangeAt Go.RowKit Go.Deep
set_option linter.unusedVariables false
set_option maxRecDepth 100000 in
theorem i64_bounds {n : Int} (h : (Lit.int .i64 n).wf = true) : -9223372036854775808 ≤ n ∧ n ≤ 9223372036854775807 := by
  simpa [Lit.wf, IntKind.min, IntKind.max, IntKind.signed, IntKind.bits] using h
set_option maxRecDepth 100000 in
theorem open_is {H : Type} {enc : TypeId × Value → H} {W : World} {fuel : Nat} {v : Value} {x : DataW H × List MemPlace} (h : DataW.trod enc Tryz.prog W 0 (fun _ => true) true fuel 43 [v] = some x) :
    ∃ (A : Option Addr) (cap : Nat) (ns : List Int), v = .slice A ns.length cap ∧ Lies W A (ic ns) ∧ (∀ n ∈ ns, -9223372036854775808 ≤ n ∧ n ≤ 9223372036854775807) ∧ ns.length ≤ maxLen := by
  rcases open_ints Tryz.underlying43 Tryz.underlying3 (by kernel_rfl) h with ⟨hcs, _⟩ | ⟨x, l, c, zs, hcs, _, hl, hm, hz, _, hcell, hwz⟩
  · obtain rfl : v = .slice none 0 0 := by simpa using hcs
    exact ⟨none, 0, [], rfl, .inl rfl, fun p hp => (by cases hp), (by simp [maxLen])⟩
  · obtain rfl : v = .slice (some x) l c := by simpa using hcs
    simp only [if_true] at hz
    have hlen : (zs.take l).length = l := by simp; omega
    refine ⟨some x, c, zs.take l, by rw [hlen], lies_of fun i u hu => ?_, fun n hn => i64_bounds (hwz n (List.mem_of_mem_take hn)), by omega⟩
    unfold ic at hu
    rw [List.getElem?_map, Option.map_eq_some_iff] at hu
    obtain ⟨z, hz1, rfl⟩ := hu
    have hi : i < zs.length := by
      have := (List.getElem?_eq_some_iff.1 hz1).1
      simp at this; omega
    rw [hcell i hi]
    have : zs[i]? = some z := by
      rw [List.getElem?_take] at hz1
      split at hz1 <;> simp_all
    simp [List.getD, this]
set_option maxRecDepth 100000 in
theorem open_choices {H : Type} {enc : TypeId × Value → H} {W : World} {fuel : Nat} {cs : List Value} {x : DataW H × List MemPlace} (h : DataW.trod enc Tryz.prog W 0 (fun _ => true) true fuel 45 cs = some x) :
    ∃ (ks ts : List Int) (K T : Option Addr) (kc tc : Nat), cs = [.slice K ks.length kc, .slice T ts.length tc] ∧ GivenC W ks ts K T := by
  obtain ⟨ys, n, _, _, hl, hyl, hf⟩ := DataW.trod_struct Tryz.underlying45 h
  have hC : Tryz.prog.cellsOf 45 = 2 := by kernel_rfl
  have hS : Tryz.prog.cellsOf 43 = 1 := by kernel_rfl
  rw [hC] at hl
  have hyn : ys.length = 2 := hyl
  obtain ⟨u, v, rfl⟩ : ∃ u v, cs = [u, v] := by
    match cs, hl with
    | [u, v], _ => exact ⟨u, v, rfl⟩
  have g0 : DataW.trod enc Tryz.prog W 0 (fun _ => true) true n 43 (([u, v].drop 0).take (Tryz.prog.cellsOf 43)) = ys[0]? := hf 0 _ rfl
  have g1 : DataW.trod enc Tryz.prog W 0 (fun _ => true) true n 43 (([u, v].drop 1).take (Tryz.prog.cellsOf 43)) = ys[1]? := hf 1 _ rfl
  rw [List.getElem?_eq_getElem (by omega), hS] at g0 g1
  obtain ⟨K, kc, ks, rfl, a1, a2, a3⟩ := open_is (v := u) g0
  obtain ⟨T, tc, ts, rfl, b1, b2, b3⟩ := open_is (v := v) g1
  exact ⟨ks, ts, K, T, kc, tc, rfl, a1, b1, a2, b2, a3, b3⟩
/-- Choices as an argument. -/
theorem open_crash {H : Type} {enc : TypeId × Value → H} {W : World} {cs : Array Value} {d : DataW H} {ps : List MemPlace} (h : DataW.Trod enc Tryz.prog W 0 (fun _ => true) true 45 (.agg cs) d ps) :
    ∃ (ks ts : List Int) (K T : Option Addr) (kc tc : Nat), cs = #[.slice K ks.length kc, .slice T ts.length tc] ∧ GivenC W ks ts K T := by
  obtain ⟨fuel, hf⟩ := h
  obtain ⟨ks, ts, K, T, kc, tc, hcs, gv⟩ := open_choices hf
  exact ⟨ks, ts, K, T, kc, tc, Array.toList_inj.1 hcs, gv⟩
set_option maxRecDepth 100000 in
theorem open_act {H : Type} {enc : TypeId × Value → H} {W : World} {fuel : Nat} {cs : List Value} {x : DataW H × List MemPlace} (h : DataW.trod enc Tryz.prog W 0 (fun _ => true) true fuel 47 cs = some x) :
    ∃ g : Ga, cs = ac1 g ∧ GivenA W g := by
  obtain ⟨ys, n, _, _, hl, hyl, hf⟩ := DataW.trod_struct Tryz.underlying47 h
  have hC : Tryz.prog.cellsOf 47 = 6 := by kernel_rfl
  have h8 : Tryz.prog.cellsOf 5 = 1 := by kernel_rfl
  have hs : Tryz.prog.cellsOf 9 = 1 := by kernel_rfl
  have hi : Tryz.prog.cellsOf 3 = 1 := by kernel_rfl
  have h2 : Tryz.prog.cellsOf 45 = 2 := by kernel_rfl
  rw [hC] at hl
  have hyn : ys.length = 5 := hyl
  obtain ⟨c0, c1, c2, c3, c4, c5, rfl⟩ : ∃ c0 c1 c2 c3 c4 c5, cs = [c0, c1, c2, c3, c4, c5] := by
    match cs, hl with
    | [c0, c1, c2, c3, c4, c5], _ => exact ⟨c0, c1, c2, c3, c4, c5, rfl⟩
  have g0 : DataW.trod enc Tryz.prog W 0 (fun _ => true) true n 5 (([c0, c1, c2, c3, c4, c5].drop 0).take (Tryz.prog.cellsOf 5)) = ys[0]? := hf 0 _ rfl
  have g1 : DataW.trod enc Tryz.prog W 0 (fun _ => true) true n 9 (([c0, c1, c2, c3, c4, c5].drop 1).take (Tryz.prog.cellsOf 9)) = ys[1]? := hf 1 _ rfl
  have g2 : DataW.trod enc Tryz.prog W 0 (fun _ => true) true n 9 (([c0, c1, c2, c3, c4, c5].drop 2).take (Tryz.prog.cellsOf 9)) = ys[2]? := hf 2 _ rfl
  have g3 : DataW.trod enc Tryz.prog W 0 (fun _ => true) true n 3 (([c0, c1, c2, c3, c4, c5].drop 3).take (Tryz.prog.cellsOf 3)) = ys[3]? := hf 3 _ rfl
  have g4 : DataW.trod enc Tryz.prog W 0 (fun _ => true) true n 45 (([c0, c1, c2, c3, c4, c5].drop 4).take (Tryz.prog.cellsOf 45)) = ys[4]? := hf 4 _ rfl
  rw [List.getElem?_eq_getElem (by omega)] at g0 g1 g2 g3 g4
  rw [h8] at g0
  rw [hs] at g1 g2
  rw [hi] at g3
  rw [h2] at g4
  obtain ⟨i0, hc0, _, wf0⟩ := DataW.trod_int (t := 5) Tryz.underlying5 g0
  obtain ⟨k0, rfl, z0⟩ := u8_nat wf0
  obtain ⟨s1, hc1, _, z1⟩ := DataW.trod_string (t := 9) Tryz.underlying9 g1
  obtain ⟨s2, hc2, _, z2⟩ := DataW.trod_string (t := 9) Tryz.underlying9 g2
  obtain ⟨i3, hc3, _, wf3⟩ := DataW.trod_int (t := 3) Tryz.underlying3 g3
  obtain ⟨ks, ts, K, T, kc, tc, hc4, gv⟩ := open_choices g4
  obtain rfl : c0 = .int .u8 (k0 : Int) := by simpa using hc0
  obtain rfl : c1 = .string s1 := by simpa using hc1
  obtain rfl : c2 = .string s2 := by simpa using hc2
  obtain rfl : c3 = .int .i64 i3 := by simpa using hc3
  obtain ⟨rfl, rfl⟩ : c4 = .slice K ks.length kc ∧ c5 = .slice T ts.length tc := by simpa using hc4
  exact ⟨⟨⟨k0, s1, s2, i3, ks, ts⟩, K, kc, T, tc⟩, rfl, z0, z1, z2, i64_bounds wf3, gv.kl, gv.tl, gv.kn, gv.tn, gv.km, gv.tm⟩

set_option maxRecDepth 100000 in
theorem open_acts {H : Type} {enc : TypeId × Value → H} {W : World} {a : Option Addr} {len cap : Nat} {d : DataW H} {ps : List MemPlace} (h : DataW.Trod enc Tryz.prog W 0 (fun _ => true) true 133 (.slice a len cap) d ps) :
    ∃ gs : List Ga, len = gs.length ∧ Lies W a (ac gs) ∧ (∀ g ∈ gs, GivenA W g) ∧ len ≤ maxLen := by
  obtain ⟨fuel, hf⟩ := h
  have hf : DataW.trod enc Tryz.prog W 0 (fun _ => true) true fuel 133 [.slice a len cap] = some (d, ps) := by simpa [Value.cells] using hf
  rcases open_slice Tryz.underlying133 hf with ⟨hcs, _⟩ | ⟨x, l, c, m, n, D, Pl, hcs, _, hl, hm, hmm, _, hi⟩
  · simp at hcs
    obtain ⟨rfl, rfl, rfl⟩ := hcs
    exact ⟨[], rfl, .inl rfl, fun p hp => (by cases hp), (by simp [maxLen])⟩
  simp at hcs
  obtain ⟨rfl, rfl, rfl⟩ := hcs
  simp only [if_true] at hmm
  have hC : Tryz.prog.cellsOf 47 = 6 := by kernel_rfl
  have key : ∀ i, ∃ g : Ga, i < len → (∀ j, j < 6 → W.cell? (x.add (6 * i + j)) = (ac1 g)[j]?) ∧ GivenA W g := by
    intro i
    by_cases hil : i < len
    case neg => exact ⟨Ga.none, fun h => absurd h hil⟩
    obtain ⟨cs', hc, ht⟩ := hi i (by omega)
    rw [hC] at hc
    obtain ⟨_, hcl, hat⟩ := World.cells?_some hc
    obtain ⟨g, he, gv⟩ := open_act ht
    refine ⟨g, fun _ => ⟨fun j hj => ?_, gv⟩⟩
    have := hat j (by omega)
    rw [he] at this
    rw [Nat.mul_comm 6 i, ← Go.Deep.add_add]
    exact this
  obtain ⟨F, hF⟩ := Classical.axiomOfChoice key
  have hlen : ((List.range len).map F).length = len := by simp
  refine ⟨(List.range len).map F, by rw [hlen], lies_of fun i u hu => ?_, fun p hp => ?_, by omega⟩
  · have hil : i < 6 * len := by
      have := (List.getElem?_eq_some_iff.1 hu).1
      rw [ac_length, hlen] at this; exact this
    have hk : i / 6 < len := by omega
    have h0 := ac_at ((List.range len).map F) (i / 6) (by rw [hlen]; exact hk) (i % 6) (by omega)
    have eF : ((List.range len).map F)[i / 6]'(by rw [hlen]; exact hk) = F (i / 6) := by simp
    rw [eF, Nat.div_add_mod i 6] at h0
    have h1 := (hF (i / 6) hk).1 (i % 6) (by omega)
    rw [Nat.div_add_mod i 6] at h1
    rw [h1, ← h0, hu]
  · obtain ⟨i, hi, rfl⟩ := List.mem_map.1 hp
    exact (hF i (List.mem_range.1 hi)).2
end Go.Proofs.YtdcjhpnakbejkaaGreatDoor
namespace Go.Proofs.YtdcjhpnakbejkaaGreatDoor
open Go.ChangeShapes Go.WideShapes Go.ChangeAt Go.RowKit Go.Deep
set_option maxRecDepth 100000 in
theorem open_entry {H : Type} {enc : TypeId × Value → H} {W : World} {cs : Array Value} {d : DataW H} {ps : List MemPlace} (h : DataW.Trod enc Tryz.prog W 0 (fun _ => true) true 60 (.agg cs) d ps) :
    ∃ e : En.E, cs = entC e ∧ En.Fits e ∧ e.body.size ≤ maxLen := by
  obtain ⟨fuel, hf0⟩ := h
  obtain ⟨ys, n, _, _, hl, hyl, hf⟩ := DataW.trod_struct Tryz.underlying60 hf0
  have hC : Tryz.prog.cellsOf 60 = 13 := by kernel_rfl
  have h5 : Tryz.prog.cellsOf 5 = 1 := by kernel_rfl
  have h6 : Tryz.prog.cellsOf 38 = 1 := by kernel_rfl
  have h9 : Tryz.prog.cellsOf 9 = 1 := by kernel_rfl
  have h31 : Tryz.prog.cellsOf 58 = 8 := by kernel_rfl
  rw [hC] at hl
  have hs : cs.size = 13 := hl
  have hy9 : ys.length = 6 := hyl
  obtain ⟨L, hL⟩ : ∃ L, L = (Value.agg cs).cells.toList := ⟨_, rfl⟩
  have hLc : ∀ j v, L[j]? = some v → cs[j]? = some v := fun j v hv => by rw [hL] at hv; rw [← Array.getElem?_toList]; exact hv
  rw [← hL] at hf
  have g0 : DataW.trod enc Tryz.prog W 0 (fun _ => true) true n 38 ((L.drop 0).take (Tryz.prog.cellsOf 38)) = ys[0]? := hf 0 _ rfl
  rw [List.getElem?_eq_getElem (by omega)] at g0
  rw [h6] at g0
  obtain ⟨i0, hc0, _, wf0⟩ := DataW.trod_int (t := 38) Tryz.underlying38 g0
  have e0 := hLc _ _ (drop_one hc0)
  obtain ⟨k0, rfl, z0⟩ := u64_nat wf0
  have g1 : DataW.trod enc Tryz.prog W 0 (fun _ => true) true n 38 ((L.drop 1).take (Tryz.prog.cellsOf 38)) = ys[1]? := hf 1 _ rfl
  rw [List.getElem?_eq_getElem (by omega)] at g1
  rw [h6] at g1
  obtain ⟨i1, hc1, _, wf1⟩ := DataW.trod_int (t := 38) Tryz.underlying38 g1
  have e1 := hLc _ _ (drop_one hc1)
  obtain ⟨k1, rfl, z1⟩ := u64_nat wf1
  have g2 : DataW.trod enc Tryz.prog W 0 (fun _ => true) true n 5 ((L.drop 2).take (Tryz.prog.cellsOf 5)) = ys[2]? := hf 2 _ rfl
  rw [List.getElem?_eq_getElem (by omega)] at g2
  rw [h5] at g2
  obtain ⟨i2, hc2, _, wf2⟩ := DataW.trod_int (t := 5) Tryz.underlying5 g2
  have e2 := hLc _ _ (drop_one hc2)
  obtain ⟨k2, rfl, z2⟩ := u8_nat wf2
  have g3 : DataW.trod enc Tryz.prog W 0 (fun _ => true) true n 5 ((L.drop 3).take (Tryz.prog.cellsOf 5)) = ys[3]? := hf 3 _ rfl
  rw [List.getElem?_eq_getElem (by omega)] at g3
  rw [h5] at g3
  obtain ⟨i3, hc3, _, wf3⟩ := DataW.trod_int (t := 5) Tryz.underlying5 g3
  have e3 := hLc _ _ (drop_one hc3)
  obtain ⟨k3, rfl, z3⟩ := u8_nat wf3
  have g4 : DataW.trod enc Tryz.prog W 0 (fun _ => true) true n 58 ((L.drop 4).take (Tryz.prog.cellsOf 58)) = ys[4]? := hf 4 _ rfl
  rw [List.getElem?_eq_getElem (by omega)] at g4
  rw [h31] at g4
  obtain ⟨xs, m, _, _, _, hxl, hat⟩ := DataW.trod_array Tryz.underlying58 g4
  have p0 := hat 0 (by omega)
  rw [h5, List.getElem?_eq_getElem (by omega)] at p0
  obtain ⟨u0, hd0, _, uw0⟩ := DataW.trod_int (t := 5) Tryz.underlying5 p0
  obtain ⟨v0, rfl, y0⟩ := u8_nat uw0
  obtain ⟨a0, rfl⟩ := u8_byte y0
  have t0 : cs[4]? = some _ := hLc 4 _ (by have := drop_one hd0; simpa using this)
  have p1 := hat 1 (by omega)
  rw [h5, List.getElem?_eq_getElem (by omega)] at p1
  obtain ⟨u1, hd1, _, uw1⟩ := DataW.trod_int (t := 5) Tryz.underlying5 p1
  obtain ⟨v1, rfl, y1⟩ := u8_nat uw1
  obtain ⟨a1, rfl⟩ := u8_byte y1
  have t1 : cs[5]? = some _ := hLc 5 _ (by have := drop_one hd1; simpa using this)
  have p2 := hat 2 (by omega)
  rw [h5, List.getElem?_eq_getElem (by omega)] at p2
  obtain ⟨u2, hd2, _, uw2⟩ := DataW.trod_int (t := 5) Tryz.underlying5 p2
  obtain ⟨v2, rfl, y2⟩ := u8_nat uw2
  obtain ⟨a2, rfl⟩ := u8_byte y2
  have t2 : cs[6]? = some _ := hLc 6 _ (by have := drop_one hd2; simpa using this)
  have p3 := hat 3 (by omega)
  rw [h5, List.getElem?_eq_getElem (by omega)] at p3
  obtain ⟨u3, hd3, _, uw3⟩ := DataW.trod_int (t := 5) Tryz.underlying5 p3
  obtain ⟨v3, rfl, y3⟩ := u8_nat uw3
  obtain ⟨a3, rfl⟩ := u8_byte y3
  have t3 : cs[7]? = some _ := hLc 7 _ (by have := drop_one hd3; simpa using this)
  have p4 := hat 4 (by omega)
  rw [h5, List.getElem?_eq_getElem (by omega)] at p4
  obtain ⟨u4, hd4, _, uw4⟩ := DataW.trod_int (t := 5) Tryz.underlying5 p4
  obtain ⟨v4, rfl, y4⟩ := u8_nat uw4
  obtain ⟨a4, rfl⟩ := u8_byte y4
  have t4 : cs[8]? = some _ := hLc 8 _ (by have := drop_one hd4; simpa using this)
  have p5 := hat 5 (by omega)
  rw [h5, List.getElem?_eq_getElem (by omega)] at p5
  obtain ⟨u5, hd5, _, uw5⟩ := DataW.trod_int (t := 5) Tryz.underlying5 p5
  obtain ⟨v5, rfl, y5⟩ := u8_nat uw5
  obtain ⟨a5, rfl⟩ := u8_byte y5
  have t5 : cs[9]? = some _ := hLc 9 _ (by have := drop_one hd5; simpa using this)
  have p6 := hat 6 (by omega)
  rw [h5, List.getElem?_eq_getElem (by omega)] at p6
  obtain ⟨u6, hd6, _, uw6⟩ := DataW.trod_int (t := 5) Tryz.underlying5 p6
  obtain ⟨v6, rfl, y6⟩ := u8_nat uw6
  obtain ⟨a6, rfl⟩ := u8_byte y6
  have t6 : cs[10]? = some _ := hLc 10 _ (by have := drop_one hd6; simpa using this)
  have p7 := hat 7 (by omega)
  rw [h5, List.getElem?_eq_getElem (by omega)] at p7
  obtain ⟨u7, hd7, _, uw7⟩ := DataW.trod_int (t := 5) Tryz.underlying5 p7
  obtain ⟨v7, rfl, y7⟩ := u8_nat uw7
  obtain ⟨a7, rfl⟩ := u8_byte y7
  have t7 : cs[11]? = some _ := hLc 11 _ (by have := drop_one hd7; simpa using this)
  have g5 : DataW.trod enc Tryz.prog W 0 (fun _ => true) true n 9 ((L.drop 12).take (Tryz.prog.cellsOf 9)) = ys[5]? := hf 5 _ rfl
  rw [List.getElem?_eq_getElem (by omega)] at g5
  rw [h9] at g5
  obtain ⟨s5, hc5, _, z5⟩ := DataW.trod_string (t := 9) Tryz.underlying9 g5
  have e5 := hLc _ _ (drop_one hc5)
  refine ⟨⟨k0, k1, k2, k3, ⟨a0, a1, a2, a3, a4, a5, a6, a7⟩, s5⟩, ?_, ⟨z0, z1, z2, z3⟩, z5⟩
  apply Array.ext_getElem?
  intro i
  by_cases hi : i < 13
  · have hall : i = 0 ∨ i = 1 ∨ i = 2 ∨ i = 3 ∨ i = 4 ∨ i = 5 ∨ i = 6 ∨ i = 7 ∨ i = 8 ∨ i = 9 ∨ i = 10 ∨ i = 11 ∨ i = 12 := by omega
    rcases hall with rfl | rfl | rfl | rfl | rfl | rfl | rfl | rfl | rfl | rfl | rfl | rfl | rfl
    · exact e0
    · exact e1
    · exact e2
    · exact e3
    · exact t0
    · exact t1
    · exact t2
    · exact t3
    · exact t4
    · exact t5
    · exact t6
    · exact t7
    · exact e5
  · rw [Array.getElem?_eq_none (by omega), Array.getElem?_eq_none (by simp [entC]; omega)]
end Go.Proofs.YtdcjhpnakbejkaaGreatDoor
namespace Go.Proofs.YtdcjhpnakbejkaaGreatDoor
open Go.ChangeShapes Go.WideShapes Go.ChangeAt Go.RowKit Go.Deep
set_option linter.unusedVariables false
/-- A list of records as an argument. -/
structure GivenR (W : World) (A : Option Addr) (l : List Wl.R) : Prop where
  lies : Lies W A (wrs l)
  fits : ∀ r ∈ l, Wl.Fits r
  len : l.length ≤ maxLen
theorem GivenR.below {W W' : World} {A : Option Addr} {l : List Wl.R} (h : GivenR W A l) (hb : Below W.heap.size W W') : GivenR W' A l := ⟨h.lies.below hb, h.fits, h.len⟩
theorem GivenR.nil (W : World) : GivenR W none [] := ⟨.inl rfl, fun r hr => (by cases hr), by simp [maxLen]⟩
set_option maxRecDepth 100000 in
theorem open_rec1 {H : Type} {enc : TypeId × Value → H} {W : World} {fuel : Nat} {cs : List Value} {x : DataW H × List MemPlace} (h : DataW.trod enc Tryz.prog W 0 (fun _ => true) true fuel 62 cs = some x) :
    ∃ r : Wl.R, cs = wr1 r ∧ Wl.Fits r := by
  obtain ⟨ys, n, _, _, hl, hyl, hf⟩ := DataW.trod_struct Tryz.underlying62 h
  have hC : Tryz.prog.cellsOf 62 = 16 := by kernel_rfl
  have h8 : Tryz.prog.cellsOf 5 = 1 := by kernel_rfl
  have h6 : Tryz.prog.cellsOf 38 = 1 := by kernel_rfl
  have hE : Tryz.prog.cellsOf 60 = 13 := by kernel_rfl
  rw [hC] at hl
  have hyn : ys.length = 4 := hyl
  obtain ⟨c0, c1, c2, c3, c4, c5, c6, c7, c8, c9, c10, c11, c12, c13, c14, c15, rfl⟩ : ∃ c0 c1 c2 c3 c4 c5 c6 c7 c8 c9 c10 c11 c12 c13 c14 c15, cs = [c0, c1, c2, c3, c4, c5, c6, c7, c8, c9, c10, c11, c12, c13, c14, c15] := by
    match cs, hl with
    | [c0, c1, c2, c3, c4, c5, c6, c7, c8, c9, c10, c11, c12, c13, c14, c15], _ => exact ⟨c0, c1, c2, c3, c4, c5, c6, c7, c8, c9, c10, c11, c12, c13, c14, c15, rfl⟩
  have g0 : DataW.trod enc Tryz.prog W 0 (fun _ => true) true n 5 (([c0, c1, c2, c3, c4, c5, c6, c7, c8, c9, c10, c11, c12, c13, c14, c15].drop 0).take (Tryz.prog.cellsOf 5)) = ys[0]? := hf 0 _ rfl
  have g1 : DataW.trod enc Tryz.prog W 0 (fun _ => true) true n 38 (([c0, c1, c2, c3, c4, c5, c6, c7, c8, c9, c10, c11, c12, c13, c14, c15].drop 1).take (Tryz.prog.cellsOf 38)) = ys[1]? := hf 1 _ rfl
  have g2 : DataW.trod enc Tryz.prog W 0 (fun _ => true) true n 5 (([c0, c1, c2, c3, c4, c5, c6, c7, c8, c9, c10, c11, c12, c13, c14, c15].drop 2).take (Tryz.prog.cellsOf 5)) = ys[2]? := hf 2 _ rfl
  have g3 : DataW.trod enc Tryz.prog W 0 (fun _ => true) true n 60 (([c0, c1, c2, c3, c4, c5, c6, c7, c8, c9, c10, c11, c12, c13, c14, c15].drop 3).take (Tryz.prog.cellsOf 60)) = ys[3]? := hf 3 _ rfl
  rw [List.getElem?_eq_getElem (by omega)] at g0 g1 g2 g3
  rw [h8] at g0 g2
  rw [h6] at g1
  rw [hE] at g3
  obtain ⟨i0, hc0, _, wf0⟩ := DataW.trod_int (t := 5) Tryz.underlying5 g0
  obtain ⟨k0, rfl, z0⟩ := u8_nat wf0
  obtain ⟨i1, hc1, _, wf1⟩ := DataW.trod_int (t := 38) Tryz.underlying38 g1
  obtain ⟨k1, rfl, z1⟩ := u64_nat wf1
  obtain ⟨i2, hc2, _, wf2⟩ := DataW.trod_int (t := 5) Tryz.underlying5 g2
  obtain ⟨k2, rfl, z2⟩ := u8_nat wf2
  obtain ⟨e, he, fe, fz⟩ := open_entry (cs := #[c3, c4, c5, c6, c7, c8, c9, c10, c11, c12, c13, c14, c15]) ⟨n, g3⟩
  have hel : [c3, c4, c5, c6, c7, c8, c9, c10, c11, c12, c13, c14, c15] = (entC e).toList := congrArg Array.toList he
  obtain rfl : c0 = .int .u8 (k0 : Int) := by simpa using hc0
  obtain rfl : c1 = .int .u64 (k1 : Int) := by simpa using hc1
  obtain rfl : c2 = .int .u8 (k2 : Int) := by simpa using hc2
  refine ⟨⟨k0, k1, k2, e⟩, ?_, z0, z1, z2, fe, ?_⟩
  · have hw : wr1 ⟨k0, k1, k2, e⟩ = [.int .u8 (k0 : Int), .int .u64 (k1 : Int), .int .u8 (k2 : Int)] ++ (entC e).toList := rfl
    rw [hw, ← hel]; rfl
  · exact Nat.lt_of_le_of_lt fz (by simp [maxLen, Nm.top])
set_option maxRecDepth 100000 in
theorem open_recs1 {H : Type} {enc : TypeId × Value → H} {W : World} {fuel : Nat} {v : Value} {x : DataW H × List MemPlace} (hf : DataW.trod enc Tryz.prog W 0 (fun _ => true) true fuel 42 [v] = some x) :
    ∃ (A : Option Addr) (cap : Nat) (l : List Wl.R), v = .slice A l.length cap ∧ GivenR W A l := by
  rcases open_slice Tryz.underlying42 hf with ⟨hcs, _⟩ | ⟨x, len, c, m, n, D, Pl, hcs, _, hl, hm, hmm, _, hi⟩
  · obtain rfl : v = .slice none 0 0 := by simpa using hcs
    exact ⟨none, 0, [], rfl, GivenR.nil W⟩
  obtain rfl : v = .slice (some x) len c := by simpa using hcs
  simp only [if_true] at hmm
  have hC : Tryz.prog.cellsOf 62 = 16 := by kernel_rfl
  have key : ∀ i, ∃ r : Wl.R, i < len → (∀ j, j < 16 → W.cell? (x.add (16 * i + j)) = (wr1 r)[j]?) ∧ Wl.Fits r := by
    intro i
    by_cases hil : i < len
    case neg => exact ⟨⟨0, 0, 0, En.zero⟩, fun h => absurd h hil⟩
    obtain ⟨cs', hc, ht⟩ := hi i (by omega)
    rw [hC] at hc
    obtain ⟨_, hcl, hat⟩ := World.cells?_some hc
    obtain ⟨g, he, gv⟩ := open_rec1 ht
    refine ⟨g, fun _ => ⟨fun j hj => ?_, gv⟩⟩
    have := hat j (by omega)
    rw [he] at this
    rw [Nat.mul_comm 16 i, ← Go.Deep.add_add]
    exact this
  obtain ⟨F, hF⟩ := Classical.axiomOfChoice key
  have hlen : ((List.range len).map F).length = len := by simp
  refine ⟨some x, c, (List.range len).map F, by rw [hlen], lies_of fun i u hu => ?_, fun p hp => ?_, by omega⟩
  · have hil : i < 16 * len := by
      have := (List.getElem?_eq_some_iff.1 hu).1
      rw [wrs_length, hlen] at this; exact this
    have hk : i / 16 < len := by omega
    have h0 := wrs_at ((List.range len).map F) (i / 16) (by rw [hlen]; exact hk) (i % 16) (by omega)
    have eF : ((List.range len).map F)[i / 16]'(by rw [hlen]; exact hk) = F (i / 16) := by simp
    rw [eF, Nat.div_add_mod i 16] at h0
    have h1 := (hF (i / 16) hk).1 (i % 16) (by omega)
    rw [Nat.div_add_mod i 16] at h1
    rw [h1, ← h0, hu]
  · obtain ⟨i, hi, rfl⟩ := List.mem_map.1 hp
    exact (hF i (List.mem_range.1 hi)).2
/-- A list of records as an argument. -/
theorem open8_recs {H : Type} {enc : TypeId × Value → H} {W : World} {a : Option Addr} {len cap : Nat} {d : DataW H} {ps : List MemPlace} (h : DataW.Trod enc Tryz.prog W 0 (fun _ => true) true 42 (.slice a len cap) d ps) :
    ∃ l : List Wl.R, len = l.length ∧ GivenR W a l := by
  obtain ⟨fuel, hf⟩ := h
  have hf : DataW.trod enc Tryz.prog W 0 (fun _ => true) true fuel 42 [.slice a len cap] = some (d, ps) := by simpa [Value.cells] using hf
  obtain ⟨A, c, l, e, g⟩ := open_recs1 hf
  injection e with e1 e2 e3
  subst e1
  exact ⟨l, e2, g⟩
end Go.Proofs.YtdcjhpnakbejkaaGreatDoor
