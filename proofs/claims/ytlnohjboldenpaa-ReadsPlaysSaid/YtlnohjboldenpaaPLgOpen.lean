/-
  How layer 11's arguments are opened: entries, acts, small numbers.
-/
import Derived.Test.YtlnohjboldenpaaPOpK
import Derived.Test.YtlnohjboldenpaaPEnRow
set_option linter.unusedSimpArgs false
set_option linter.unusedVariables false
namespace Go.Proofs.Ytlnohjboldenpaa
open Go.ChangeShapes Go.WideShapes Go.ChangeAt Go.RowKit Go.Deep
set_option linter.unusedVariables false
/-- Entries that are handed in. -/
structure GivenE (W : World) (A : Option Addr) (cap : Nat) (es : List En.E) : Prop where
  lies : Lies W A (ec es)
  fits : ∀ e ∈ es, En.Fits e ∧ e.body.size ≤ maxLen
  len : es.length ≤ maxLen
  nil : A = none → es.length = 0
  room : es.length ≤ cap
theorem GivenE.below {W W' : World} {A : Option Addr} {cap : Nat} {es : List En.E} (h : GivenE W A cap es) (hb : Below W.heap.size W W') : GivenE W' A cap es := ⟨h.lies.below hb, h.fits, h.len, h.nil, h.room⟩
set_option maxRecDepth 100000 in
theorem open11_ents1 {H : Type} {enc : TypeId × Value → H} {W : World} {fuel : Nat} {v : Value} {x : DataW H × List MemPlace} (h : DataW.trod enc Try.prog W 0 (fun _ => true) true fuel 23 [v] = some x) :
    ∃ (A : Option Addr) (cap : Nat) (es : List En.E), v = .slice A es.length cap ∧ GivenE W A cap es := by
  rcases open_slice Try.underlying23 h with ⟨hcs, _⟩ | ⟨a, len, cap, m, n, D, Pl, hcs, _, hl, hm, hmm, hx, hi⟩
  · obtain rfl : v = .slice none 0 0 := by simpa using hcs
    exact ⟨none, 0, [], rfl, .inl rfl, fun p hp => (by cases hp), (by simp [maxLen]), fun _ => rfl, Nat.le_refl _⟩
  obtain rfl : v = .slice (some a) len cap := by simpa using hcs
  simp only [if_true] at hmm
  have hC : Try.prog.cellsOf 49 = 13 := by kernel_rfl
  have key : ∀ i, ∃ e : En.E, i < len → (∀ j, j < 13 → W.cell? (a.add (13 * i + j)) = (ec1 e)[j]?) ∧ (En.Fits e ∧ e.body.size ≤ maxLen) := by
    intro i
    by_cases hil : i < len
    case neg => exact ⟨En.zero, fun h => absurd h hil⟩
    obtain ⟨cs', hc, ht⟩ := hi i (by omega)
    rw [hC] at hc
    obtain ⟨_, hcl, hat⟩ := World.cells?_some hc
    obtain ⟨e, he, hf, hz⟩ := open_entry (cs := cs'.toArray) ⟨n, by simpa [Value.cells] using ht⟩
    have he2 : cs' = ec1 e := by rw [← ec1_toList, ← he]
    refine ⟨e, fun _ => ⟨fun j hj => ?_, hf, hz⟩⟩
    have := hat j (by omega)
    rw [he2] at this
    rw [Nat.mul_comm 13 i, ← Go.Deep.add_add]
    exact this
  obtain ⟨F, hF⟩ := Classical.axiomOfChoice key
  have hlen : ((List.range len).map F).length = len := by simp
  refine ⟨some a, cap, (List.range len).map F, by rw [hlen], lies_of fun i u hu => ?_, fun p hp => ?_, by rw [hlen]; omega, (fun e => by cases e), by rw [hlen]; exact hl⟩
  · have hil : i < 13 * len := by
      have := (List.getElem?_eq_some_iff.1 hu).1
      rw [ec_length, hlen] at this; exact this
    have hk : i / 13 < len := by omega
    have h0 := ec_at ((List.range len).map F) (i / 13) (by rw [hlen]; exact hk) (i % 13) (by omega)
    have eF : ((List.range len).map F)[i / 13]'(by rw [hlen]; exact hk) = F (i / 13) := by simp
    rw [eF, Nat.div_add_mod i 13] at h0
    have h1 := (hF (i / 13) hk).1 (i % 13) (by omega)
    rw [Nat.div_add_mod i 13] at h1
    rw [h1, ← h0, hu]
  · obtain ⟨i, hi, rfl⟩ := List.mem_map.1 hp
    exact (hF i (List.mem_range.1 hi)).2
theorem open11_ents {H : Type} {enc : TypeId × Value → H} {W : World} {a : Option Addr} {len cap : Nat} {d : DataW H} {ps : List MemPlace} (h : DataW.Trod enc Try.prog W 0 (fun _ => true) true 23 (.slice a len cap) d ps) :
    ∃ es : List En.E, len = es.length ∧ GivenE W a cap es := by
  obtain ⟨fuel, hf⟩ := h
  have hf : DataW.trod enc Try.prog W 0 (fun _ => true) true fuel 23 [.slice a len cap] = some (d, ps) := by simpa [Value.cells] using hf
  obtain ⟨A, c, es, he, g⟩ := open11_ents1 hf
  injection he with e1 e2 e3
  subst e1 e3
  exact ⟨es, e2, g⟩
/-- Small numbers as cells. -/
def bn (ns : List Nat) : List Value := ns.map fun (n : Nat) => Value.int .u8 (n : Int)
theorem open11_bs {H : Type} {enc : TypeId × Value → H} {W : World} {a : Option Addr} {len cap : Nat} {d : DataW H} {ps : List MemPlace} (h : DataW.Trod enc Try.prog W 0 (fun _ => true) true 44 (.slice a len cap) d ps) :
    ∃ ns : List Nat, len = ns.length ∧ Lies W a (bn ns) ∧ (∀ n ∈ ns, n < 256) ∧ len ≤ maxLen := by
  obtain ⟨fuel, hf⟩ := h
  rcases open_ints Try.underlying44 Try.underlying5 (by kernel_rfl) hf with ⟨hcs, _⟩ | ⟨x, l, c, zs, hcs, _, hl, hm, hz, _, hcell, hwz⟩
  · simp [Value.cells] at hcs
    obtain ⟨rfl, rfl, rfl⟩ := hcs
    exact ⟨[], rfl, .inl rfl, by simp, by simp [maxLen]⟩
  · simp [Value.cells] at hcs
    obtain ⟨rfl, rfl, rfl⟩ := hcs
    simp only [if_true] at hz
    have e : bn ((zs.take len).map Int.toNat) = (zs.take len).map (Value.int .u8) := by
      unfold bn
      rw [List.map_map]
      refine List.map_congr_left fun n hn => ?_
      obtain ⟨k, rfl, _⟩ := u8_nat (hwz n (List.mem_of_mem_take hn))
      simp
    refine ⟨(zs.take len).map Int.toNat, by simp; omega, lies_of fun i u hu => ?_, fun n hn => ?_, by omega⟩
    · rw [e] at hu
      obtain ⟨z, hz1, rfl⟩ : ∃ z, (zs.take len)[i]? = some z ∧ Value.int .u8 z = u := by rw [List.getElem?_map, Option.map_eq_some_iff] at hu; exact hu
      have hi : i < zs.length := by
        have := (List.getElem?_eq_some_iff.1 hz1).1
        simp at this; omega
      rw [hcell i hi]
      have : zs[i]? = some z := by
        rw [List.getElem?_take] at hz1
        split at hz1 <;> simp_all
      simp [List.getD, this]
    · obtain ⟨z, hz1, rfl⟩ := List.mem_map.1 hn
      obtain ⟨k, rfl, hk⟩ := u8_nat (hwz z (List.mem_of_mem_take hz1))
      simpa using hk
/-- An act that is handed in, and where its entries lie. -/
structure Lga where
  op : Nat
  idx : Nat
  trm : Nat
  mem : Nat
  A : Option Addr
  cap : Nat
  es : List En.E
def Lga.none : Lga := ⟨0, 0, 0, 0, Option.none, 0, []⟩
def la1 (g : Lga) : List Value := [.int .u8 (g.op : Int), .int .u64 (g.idx : Int), .int .u64 (g.trm : Int), .int .u8 (g.mem : Int), .slice g.A g.es.length g.cap]
def las (gs : List Lga) : List Value := (gs.map la1).flatten
theorem la1_length (g : Lga) : (la1 g).length = 5 := rfl
theorem las_length (es : List Lga) : (las es).length = 5 * es.length := by
  induction es with
  | nil => rfl
  | cons e es ih =>
    have h : las (e :: es) = la1 e ++ las es := rfl
    rw [h, List.length_append, ih, List.length_cons, la1_length]; omega
theorem las_at : ∀ (es : List Lga) (i : Nat) (h : i < es.length) (j : Nat), j < 5 → (las es)[5 * i + j]? = (la1 es[i])[j]?
  | e :: es, 0, _, j, hj => by
    show (la1 e ++ las es)[5 * 0 + j]? = _
    rw [List.getElem?_append_left (by rw [la1_length]; omega)]
    congr 1; omega
  | e :: es, i + 1, h, j, hj => by
    have k := las_at es i (by simpa using h) j hj
    show (la1 e ++ las es)[5 * (i + 1) + j]? = _
    rw [List.getElem?_append_right (by rw [la1_length]; omega), la1_length]
    have e2 : 5 * (i + 1) + j - 5 = 5 * i + j := by omega
    rw [e2, k]; rfl
structure GivenLa (W : World) (g : Lga) : Prop where
  op : g.op < 256
  idx : g.idx < Nm.top
  trm : g.trm < Nm.top
  mem : g.mem < 256
  es : GivenE W g.A g.cap g.es
set_option maxRecDepth 100000 in
theorem open11_act1 {H : Type} {enc : TypeId × Value → H} {W : World} {fuel : Nat} {cs : List Value} {x : DataW H × List MemPlace} (h : DataW.trod enc Try.prog W 0 (fun _ => true) true fuel 38 cs = some x) :
    ∃ g : Lga, cs = la1 g ∧ GivenLa W g := by
  obtain ⟨ys, n, _, _, hl, hyl, hf⟩ := DataW.trod_struct Try.underlying38 h
  have hC : Try.prog.cellsOf 38 = 5 := by kernel_rfl
  have h8 : Try.prog.cellsOf 5 = 1 := by kernel_rfl
  have h6 : Try.prog.cellsOf 22 = 1 := by kernel_rfl
  have hE : Try.prog.cellsOf 23 = 1 := by kernel_rfl
  rw [hC] at hl
  have hyn : ys.length = 5 := hyl
  obtain ⟨c0, c1, c2, c3, c4, rfl⟩ : ∃ c0 c1 c2 c3 c4, cs = [c0, c1, c2, c3, c4] := by
    match cs, hl with
    | [c0, c1, c2, c3, c4], _ => exact ⟨c0, c1, c2, c3, c4, rfl⟩
  have g0 : DataW.trod enc Try.prog W 0 (fun _ => true) true n 5 (([c0, c1, c2, c3, c4].drop 0).take (Try.prog.cellsOf 5)) = ys[0]? := hf 0 _ rfl
  have g1 : DataW.trod enc Try.prog W 0 (fun _ => true) true n 22 (([c0, c1, c2, c3, c4].drop 1).take (Try.prog.cellsOf 22)) = ys[1]? := hf 1 _ rfl
  have g2 : DataW.trod enc Try.prog W 0 (fun _ => true) true n 22 (([c0, c1, c2, c3, c4].drop 2).take (Try.prog.cellsOf 22)) = ys[2]? := hf 2 _ rfl
  have g3 : DataW.trod enc Try.prog W 0 (fun _ => true) true n 5 (([c0, c1, c2, c3, c4].drop 3).take (Try.prog.cellsOf 5)) = ys[3]? := hf 3 _ rfl
  have g4 : DataW.trod enc Try.prog W 0 (fun _ => true) true n 23 (([c0, c1, c2, c3, c4].drop 4).take (Try.prog.cellsOf 23)) = ys[4]? := hf 4 _ rfl
  rw [List.getElem?_eq_getElem (by omega)] at g0 g1 g2 g3 g4
  rw [h8] at g0 g3
  rw [h6] at g1 g2
  rw [hE] at g4
  obtain ⟨i0, hc0, _, wf0⟩ := DataW.trod_int (t := 5) Try.underlying5 g0
  obtain ⟨k0, rfl, z0⟩ := u8_nat wf0
  obtain ⟨i1, hc1, _, wf1⟩ := DataW.trod_int (t := 22) Try.underlying22 g1
  obtain ⟨k1, rfl, z1⟩ := u64_nat wf1
  obtain ⟨i2, hc2, _, wf2⟩ := DataW.trod_int (t := 22) Try.underlying22 g2
  obtain ⟨k2, rfl, z2⟩ := u64_nat wf2
  obtain ⟨i3, hc3, _, wf3⟩ := DataW.trod_int (t := 5) Try.underlying5 g3
  obtain ⟨k3, rfl, z3⟩ := u8_nat wf3
  obtain ⟨A, cap, es, he, ge⟩ := open11_ents1 (v := c4) g4
  obtain rfl : c0 = .int .u8 (k0 : Int) := by simpa using hc0
  obtain rfl : c1 = .int .u64 (k1 : Int) := by simpa using hc1
  obtain rfl : c2 = .int .u64 (k2 : Int) := by simpa using hc2
  obtain rfl : c3 = .int .u8 (k3 : Int) := by simpa using hc3
  subst he
  exact ⟨⟨k0, k1, k2, k3, A, cap, es⟩, rfl, z0, z1, z2, z3, ge⟩
theorem open11_act {H : Type} {enc : TypeId × Value → H} {W : World} {cs : Array Value} {d : DataW H} {ps : List MemPlace} (h : DataW.Trod enc Try.prog W 0 (fun _ => true) true 38 (.agg cs) d ps) :
    ∃ g : Lga, cs = (la1 g).toArray ∧ GivenLa W g := by
  obtain ⟨fuel, hf⟩ := h
  obtain ⟨g, hs, gv⟩ := open11_act1 hf
  exact ⟨g, Array.toList_inj.1 hs, gv⟩
set_option maxRecDepth 100000 in
theorem open11_acts {H : Type} {enc : TypeId × Value → H} {W : World} {a : Option Addr} {len cap : Nat} {d : DataW H} {ps : List MemPlace} (h : DataW.Trod enc Try.prog W 0 (fun _ => true) true 24 (.slice a len cap) d ps) :
    ∃ gs : List Lga, len = gs.length ∧ Lies W a (las gs) ∧ (∀ g ∈ gs, GivenLa W g) ∧ len ≤ maxLen := by
  obtain ⟨fuel, hf⟩ := h
  have hf : DataW.trod enc Try.prog W 0 (fun _ => true) true fuel 24 [.slice a len cap] = some (d, ps) := by simpa [Value.cells] using hf
  rcases open_slice Try.underlying24 hf with ⟨hcs, _⟩ | ⟨x, l, c, m, n, D, Pl, hcs, _, hl, hm, hmm, _, hi⟩
  · simp at hcs
    obtain ⟨rfl, rfl, rfl⟩ := hcs
    exact ⟨[], rfl, .inl rfl, fun p hp => (by cases hp), (by simp [maxLen])⟩
  simp at hcs
  obtain ⟨rfl, rfl, rfl⟩ := hcs
  simp only [if_true] at hmm
  have hC : Try.prog.cellsOf 38 = 5 := by kernel_rfl
  have key : ∀ i, ∃ g : Lga, i < len → (∀ j, j < 5 → W.cell? (x.add (5 * i + j)) = (la1 g)[j]?) ∧ GivenLa W g := by
    intro i
    by_cases hil : i < len
    case neg => exact ⟨Lga.none, fun h => absurd h hil⟩
    obtain ⟨cs', hc, ht⟩ := hi i (by omega)
    rw [hC] at hc
    obtain ⟨_, hcl, hat⟩ := World.cells?_some hc
    obtain ⟨g, he, gv⟩ := open11_act1 ht
    refine ⟨g, fun _ => ⟨fun j hj => ?_, gv⟩⟩
    have := hat j (by omega)
    rw [he] at this
    rw [Nat.mul_comm 5 i, ← Go.Deep.add_add]
    exact this
  obtain ⟨F, hF⟩ := Classical.axiomOfChoice key
  have hlen : ((List.range len).map F).length = len := by simp
  refine ⟨(List.range len).map F, by rw [hlen], lies_of fun i u hu => ?_, fun p hp => ?_, by omega⟩
  · have hil : i < 5 * len := by
      have := (List.getElem?_eq_some_iff.1 hu).1
      rw [las_length, hlen] at this; exact this
    have hk : i / 5 < len := by omega
    have h0 := las_at ((List.range len).map F) (i / 5) (by rw [hlen]; exact hk) (i % 5) (by omega)
    have eF : ((List.range len).map F)[i / 5]'(by rw [hlen]; exact hk) = F (i / 5) := by simp
    rw [eF, Nat.div_add_mod i 5] at h0
    have h1 := (hF (i / 5) hk).1 (i % 5) (by omega)
    rw [Nat.div_add_mod i 5] at h1
    rw [h1, ← h0, hu]
  · obtain ⟨i, hi, rfl⟩ := List.mem_map.1 hp
    exact (hF i (List.mem_range.1 hi)).2
end Go.Proofs.Ytlnohjboldenpaa
