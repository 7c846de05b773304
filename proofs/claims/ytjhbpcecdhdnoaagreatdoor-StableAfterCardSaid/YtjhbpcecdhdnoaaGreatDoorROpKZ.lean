/-
  Small words for opening arguments.
  How acts and choices are opened as arguments.
  How entries are opened as arguments. WRITTEN BY wip/tools/gen_enopen.py.
  How lists of records are opened as arguments.
  How a snapshot, what is kept, and stable's acts are opened as arguments.
-/
import Derived.Test.YtjhbpcecdhdnoaaGreatDoorRStRightZ
import Derived.Test.YtjhbpcecdhdnoaaGreatDoorRWlBaseZ
import Derived.Test.YtjhbpcecdhdnoaaGreatDoorREnA
import Derived.Test.YtjhbpcecdhdnoaaGreatDoorRStSaveZ
import Derived.OpenShut
import Derived.Deep.Fields
import Derived.Deep.Slices
import Derived.SizedLaws
set_option linter.unusedSimpArgs false
set_option linter.unusedVariables false
namespace Go.Proofs.YtjhbpcecdhdnoaaGreatDoor
open Go.ChangeShapes Go.WideShapes Go.ChangeAt Go.RowKit Go.Deep
set_option linter.unusedVariables false
theorem u8_nat {n : Int} (h : (Lit.int .u8 n).wf = true) : ∃ k : Nat, n = (k : Int) ∧ k < 256 := by
  have := bounds_u8 h
  exact ⟨n.toNat, by omega, by omega⟩
theorem drop_one {L : List Value} {k : Nat} {v : Value} (h : (L.drop k).take 1 = [v]) : L[k]? = some v := by
  have := congrArg (fun l => l[0]?) h
  simpa using this
theorem u8_byte {k : Nat} (h : k < 256) : ∃ a : UInt8, k = a.toNat := ⟨UInt8.ofNat k, by simp; omega⟩
end Go.Proofs.YtjhbpcecdhdnoaaGreatDoor
namespace Go.Proofs.YtjhbpcecdhdnoaaGreatDoor
open Go.ChangeShapes Go.WideShapes Go.ChangeAt Go.RowKit Go.Deep
set_option linter.unusedVariables false
end Go.Proofs.YtjhbpcecdhdnoaaGreatDoor
namespace Go.Proofs.YtjhbpcecdhdnoaaGreatDoor
open Go.ChangeShapes Go.WideShapes Go.ChangeAt Go.RowKit Go.Deep
set_option maxRecDepth 100000 in
theorem open_entry {H : Type} {enc : TypeId × Value → H} {W : World} {cs : Array Value} {d : DataW H} {ps : List MemPlace} (h : DataW.Trod enc Tryz.prog W 0 (fun _ => true) true 88 (.agg cs) d ps) :
    ∃ e : En.E, cs = entC e ∧ En.Fits e ∧ e.body.size ≤ maxLen := by
  obtain ⟨fuel, hf0⟩ := h
  obtain ⟨ys, n, _, _, hl, hyl, hf⟩ := DataW.trod_struct Tryz.underlying88 hf0
  have hC : Tryz.prog.cellsOf 88 = 13 := by kernel_rfl
  have h5 : Tryz.prog.cellsOf 5 = 1 := by kernel_rfl
  have h6 : Tryz.prog.cellsOf 38 = 1 := by kernel_rfl
  have h9 : Tryz.prog.cellsOf 9 = 1 := by kernel_rfl
  have h31 : Tryz.prog.cellsOf 86 = 8 := by kernel_rfl
  rw [hC] at hl
  have hs : cs.size = 13 := hl
  have hy9 : ys.length = 6 := hyl
  obtain ⟨L, hL⟩ : ∃ L, L = (Value.agg cs).cells.toList := ⟨_, rfl⟩
  have hLc : ∀ j v, L[j]? = some v → cs[j]? = some v := fun j v hv => by rw [hL] at hv; rw [← Array.getElem?_toList]; exact hv
  rw [← hL] at hf
  have g0 : DataW.trod enc Tryz.prog W 0 (fun _ => true) true n 38 ((L.drop 0).take (Tryz.prog.cellsOf 38)) = ys[0]? := hf 0 _ rfl
  rw [List.getElem?_eq_getElem (by omega)] at g0
  rw [h6] at g0
  obtain ⟨i0, hc0, _, wf0⟩ := DataW.trod_int (t := 38) Tryz.underlying38 g0
  have e0 := hLc _ _ (drop_one hc0)
  obtain ⟨k0, rfl, z0⟩ := u64_nat wf0
  have g1 : DataW.trod enc Tryz.prog W 0 (fun _ => true) true n 38 ((L.drop 1).take (Tryz.prog.cellsOf 38)) = ys[1]? := hf 1 _ rfl
  rw [List.getElem?_eq_getElem (by omega)] at g1
  rw [h6] at g1
  obtain ⟨i1, hc1, _, wf1⟩ := DataW.trod_int (t := 38) Tryz.underlying38 g1
  have e1 := hLc _ _ (drop_one hc1)
  obtain ⟨k1, rfl, z1⟩ := u64_nat wf1
  have g2 : DataW.trod enc Tryz.prog W 0 (fun _ => true) true n 5 ((L.drop 2).take (Tryz.prog.cellsOf 5)) = ys[2]? := hf 2 _ rfl
  rw [List.getElem?_eq_getElem (by omega)] at g2
  rw [h5] at g2
  obtain ⟨i2, hc2, _, wf2⟩ := DataW.trod_int (t := 5) Tryz.underlying5 g2
  have e2 := hLc _ _ (drop_one hc2)
  obtain ⟨k2, rfl, z2⟩ := u8_nat wf2
  have g3 : DataW.trod enc Tryz.prog W 0 (fun _ => true) true n 5 ((L.drop 3).take (Tryz.prog.cellsOf 5)) = ys[3]? := hf 3 _ rfl
  rw [List.getElem?_eq_getElem (by omega)] at g3
  rw [h5] at g3
  obtain ⟨i3, hc3, _, wf3⟩ := DataW.trod_int (t := 5) Tryz.underlying5 g3
  have e3 := hLc _ _ (drop_one hc3)
  obtain ⟨k3, rfl, z3⟩ := u8_nat wf3
  have g4 : DataW.trod enc Tryz.prog W 0 (fun _ => true) true n 86 ((L.drop 4).take (Tryz.prog.cellsOf 86)) = ys[4]? := hf 4 _ rfl
  rw [List.getElem?_eq_getElem (by omega)] at g4
  rw [h31] at g4
  obtain ⟨xs, m, _, _, _, hxl, hat⟩ := DataW.trod_array Tryz.underlying86 g4
  have p0 := hat 0 (by omega)
  rw [h5, List.getElem?_eq_getElem (by omega)] at p0
  obtain ⟨u0, hd0, _, uw0⟩ := DataW.trod_int (t := 5) Tryz.underlying5 p0
  obtain ⟨v0, rfl, y0⟩ := u8_nat uw0
  obtain ⟨a0, rfl⟩ := u8_byte y0
  have t0 : cs[4]? = some _ := hLc 4 _ (by have := drop_one hd0; simpa using this)
  have p1 := hat 1 (by omega)
  rw [h5, List.getElem?_eq_getElem (by omega)] at p1
  obtain ⟨u1, hd1, _, uw1⟩ := DataW.trod_int (t := 5) Tryz.underlying5 p1
  obtain ⟨v1, rfl, y1⟩ := u8_nat uw1
  obtain ⟨a1, rfl⟩ := u8_byte y1
  have t1 : cs[5]? = some _ := hLc 5 _ (by have := drop_one hd1; simpa using this)
  have p2 := hat 2 (by omega)
  rw [h5, List.getElem?_eq_getElem (by omega)] at p2
  obtain ⟨u2, hd2, _, uw2⟩ := DataW.trod_int (t := 5) Tryz.underlying5 p2
  obtain ⟨v2, rfl, y2⟩ := u8_nat uw2
  obtain ⟨a2, rfl⟩ := u8_byte y2
  have t2 : cs[6]? = some _ := hLc 6 _ (by have := drop_one hd2; simpa using this)
  have p3 := hat 3 (by omega)
  rw [h5, List.getElem?_eq_getElem (by omega)] at p3
  obtain ⟨u3, hd3, _, uw3⟩ := DataW.trod_int (t := 5) Tryz.underlying5 p3
  obtain ⟨v3, rfl, y3⟩ := u8_nat uw3
  obtain ⟨a3, rfl⟩ := u8_byte y3
  have t3 : cs[7]? = some _ := hLc 7 _ (by have := drop_one hd3; simpa using this)
  have p4 := hat 4 (by omega)
  rw [h5, List.getElem?_eq_getElem (by omega)] at p4
  obtain ⟨u4, hd4, _, uw4⟩ := DataW.trod_int (t := 5) Tryz.underlying5 p4
  obtain ⟨v4, rfl, y4⟩ := u8_nat uw4
  obtain ⟨a4, rfl⟩ := u8_byte y4
  have t4 : cs[8]? = some _ := hLc 8 _ (by have := drop_one hd4; simpa using this)
  have p5 := hat 5 (by omega)
  rw [h5, List.getElem?_eq_getElem (by omega)] at p5
  obtain ⟨u5, hd5, _, uw5⟩ := DataW.trod_int (t := 5) Tryz.underlying5 p5
  obtain ⟨v5, rfl, y5⟩ := u8_nat uw5
  obtain ⟨a5, rfl⟩ := u8_byte y5
  have t5 : cs[9]? = some _ := hLc 9 _ (by have := drop_one hd5; simpa using this)
  have p6 := hat 6 (by omega)
  rw [h5, List.getElem?_eq_getElem (by omega)] at p6
  obtain ⟨u6, hd6, _, uw6⟩ := DataW.trod_int (t := 5) Tryz.underlying5 p6
  obtain ⟨v6, rfl, y6⟩ := u8_nat uw6
  obtain ⟨a6, rfl⟩ := u8_byte y6
  have t6 : cs[10]? = some _ := hLc 10 _ (by have := drop_one hd6; simpa using this)
  have p7 := hat 7 (by omega)
  rw [h5, List.getElem?_eq_getElem (by omega)] at p7
  obtain ⟨u7, hd7, _, uw7⟩ := DataW.trod_int (t := 5) Tryz.underlying5 p7
  obtain ⟨v7, rfl, y7⟩ := u8_nat uw7
  obtain ⟨a7, rfl⟩ := u8_byte y7
  have t7 : cs[11]? = some _ := hLc 11 _ (by have := drop_one hd7; simpa using this)
  have g5 : DataW.trod enc Tryz.prog W 0 (fun _ => true) true n 9 ((L.drop 12).take (Tryz.prog.cellsOf 9)) = ys[5]? := hf 5 _ rfl
  rw [List.getElem?_eq_getElem (by omega)] at g5
  rw [h9] at g5
  obtain ⟨s5, hc5, _, z5⟩ := DataW.trod_string (t := 9) Tryz.underlying9 g5
  have e5 := hLc _ _ (drop_one hc5)
  refine ⟨⟨k0, k1, k2, k3, ⟨a0, a1, a2, a3, a4, a5, a6, a7⟩, s5⟩, ?_, ⟨z0, z1, z2, z3⟩, z5⟩
  apply Array.ext_getElem?
  intro i
  by_cases hi : i < 13
  · have hall : i = 0 ∨ i = 1 ∨ i = 2 ∨ i = 3 ∨ i = 4 ∨ i = 5 ∨ i = 6 ∨ i = 7 ∨ i = 8 ∨ i = 9 ∨ i = 10 ∨ i = 11 ∨ i = 12 := by omega
    rcases hall with rfl | rfl | rfl | rfl | rfl | rfl | rfl | rfl | rfl | rfl | rfl | rfl | rfl
    · exact e0
    · exact e1
    · exact e2
    · exact e3
    · exact t0
    · exact t1
    · exact t2
    · exact t3
    · exact t4
    · exact t5
    · exact t6
    · exact t7
    · exact e5
  · rw [Array.getElem?_eq_none (by omega), Array.getElem?_eq_none (by simp [entC]; omega)]
end Go.Proofs.YtjhbpcecdhdnoaaGreatDoor
namespace Go.Proofs.YtjhbpcecdhdnoaaGreatDoor
open Go.ChangeShapes Go.WideShapes Go.ChangeAt Go.RowKit Go.Deep
set_option linter.unusedVariables false
structure GivenR (W : World) (A : Option Addr) (l : List Wl.R) : Prop where
  lies : Lies W A (wrs l)
  fits : ∀ r ∈ l, Wl.Fits r
  len : l.length ≤ maxLen
theorem GivenR.below {W W' : World} {A : Option Addr} {l : List Wl.R} (h : GivenR W A l) (hb : Below W.heap.size W W') : GivenR W' A l := ⟨h.lies.below hb, h.fits, h.len⟩
theorem GivenR.nil (W : World) : GivenR W none [] := ⟨.inl rfl, fun r hr => (by cases hr), by simp [maxLen]⟩
set_option maxRecDepth 100000 in
theorem open_rec1 {H : Type} {enc : TypeId × Value → H} {W : World} {fuel : Nat} {cs : List Value} {x : DataW H × List MemPlace} (h : DataW.trod enc Tryz.prog W 0 (fun _ => true) true fuel 90 cs = some x) :
    ∃ r : Wl.R, cs = wr1 r ∧ Wl.Fits r := by
  obtain ⟨ys, n, _, _, hl, hyl, hf⟩ := DataW.trod_struct Tryz.underlying90 h
  have hC : Tryz.prog.cellsOf 90 = 16 := by kernel_rfl
  have h8 : Tryz.prog.cellsOf 5 = 1 := by kernel_rfl
  have h6 : Tryz.prog.cellsOf 38 = 1 := by kernel_rfl
  have hE : Tryz.prog.cellsOf 88 = 13 := by kernel_rfl
  rw [hC] at hl
  have hyn : ys.length = 4 := hyl
  obtain ⟨c0, c1, c2, c3, c4, c5, c6, c7, c8, c9, c10, c11, c12, c13, c14, c15, rfl⟩ : ∃ c0 c1 c2 c3 c4 c5 c6 c7 c8 c9 c10 c11 c12 c13 c14 c15, cs = [c0, c1, c2, c3, c4, c5, c6, c7, c8, c9, c10, c11, c12, c13, c14, c15] := by
    match cs, hl with
    | [c0, c1, c2, c3, c4, c5, c6, c7, c8, c9, c10, c11, c12, c13, c14, c15], _ => exact ⟨c0, c1, c2, c3, c4, c5, c6, c7, c8, c9, c10, c11, c12, c13, c14, c15, rfl⟩
  have g0 : DataW.trod enc Tryz.prog W 0 (fun _ => true) true n 5 (([c0, c1, c2, c3, c4, c5, c6, c7, c8, c9, c10, c11, c12, c13, c14, c15].drop 0).take (Tryz.prog.cellsOf 5)) = ys[0]? := hf 0 _ rfl
  have g1 : DataW.trod enc Tryz.prog W 0 (fun _ => true) true n 38 (([c0, c1, c2, c3, c4, c5, c6, c7, c8, c9, c10, c11, c12, c13, c14, c15].drop 1).take (Tryz.prog.cellsOf 38)) = ys[1]? := hf 1 _ rfl
  have g2 : DataW.trod enc Tryz.prog W 0 (fun _ => true) true n 5 (([c0, c1, c2, c3, c4, c5, c6, c7, c8, c9, c10, c11, c12, c13, c14, c15].drop 2).take (Tryz.prog.cellsOf 5)) = ys[2]? := hf 2 _ rfl
  have g3 : DataW.trod enc Tryz.prog W 0 (fun _ => true) true n 88 (([c0, c1, c2, c3, c4, c5, c6, c7, c8, c9, c10, c11, c12, c13, c14, c15].drop 3).take (Tryz.prog.cellsOf 88)) = ys[3]? := hf 3 _ rfl
  rw [List.getElem?_eq_getElem (by omega)] at g0 g1 g2 g3
  rw [h8] at g0 g2
  rw [h6] at g1
  rw [hE] at g3
  obtain ⟨i0, hc0, _, wf0⟩ := DataW.trod_int (t := 5) Tryz.underlying5 g0
  obtain ⟨k0, rfl, z0⟩ := u8_nat wf0
  obtain ⟨i1, hc1, _, wf1⟩ := DataW.trod_int (t := 38) Tryz.underlying38 g1
  obtain ⟨k1, rfl, z1⟩ := u64_nat wf1
  obtain ⟨i2, hc2, _, wf2⟩ := DataW.trod_int (t := 5) Tryz.underlying5 g2
  obtain ⟨k2, rfl, z2⟩ := u8_nat wf2
  obtain ⟨e, he, fe, fz⟩ := open_entry (cs := #[c3, c4, c5, c6, c7, c8, c9, c10, c11, c12, c13, c14, c15]) ⟨n, g3⟩
  have hel : [c3, c4, c5, c6, c7, c8, c9, c10, c11, c12, c13, c14, c15] = (entC e).toList := congrArg Array.toList he
  obtain rfl : c0 = .int .u8 (k0 : Int) := by simpa using hc0
  obtain rfl : c1 = .int .u64 (k1 : Int) := by simpa using hc1
  obtain rfl : c2 = .int .u8 (k2 : Int) := by simpa using hc2
  refine ⟨⟨k0, k1, k2, e⟩, ?_, z0, z1, z2, fe, ?_⟩
  · have hw : wr1 ⟨k0, k1, k2, e⟩ = [.int .u8 (k0 : Int), .int .u64 (k1 : Int), .int .u8 (k2 : Int)] ++ (entC e).toList := rfl
    rw [hw, ← hel]; rfl
  · exact Nat.lt_of_le_of_lt fz (by simp [maxLen, Nm.top])
set_option maxRecDepth 100000 in
theorem open_recs1 {H : Type} {enc : TypeId × Value → H} {W : World} {fuel : Nat} {v : Value} {x : DataW H × List MemPlace} (hf : DataW.trod enc Tryz.prog W 0 (fun _ => true) true fuel 42 [v] = some x) :
    ∃ (A : Option Addr) (cap : Nat) (l : List Wl.R), v = .slice A l.length cap ∧ GivenR W A l := by
  rcases open_slice Tryz.underlying42 hf with ⟨hcs, _⟩ | ⟨x, len, c, m, n, D, Pl, hcs, _, hl, hm, hmm, _, hi⟩
  · obtain rfl : v = .slice none 0 0 := by simpa using hcs
    exact ⟨none, 0, [], rfl, GivenR.nil W⟩
  obtain rfl : v = .slice (some x) len c := by simpa using hcs
  simp only [if_true] at hmm
  have hC : Tryz.prog.cellsOf 90 = 16 := by kernel_rfl
  have key : ∀ i, ∃ r : Wl.R, i < len → (∀ j, j < 16 → W.cell? (x.add (16 * i + j)) = (wr1 r)[j]?) ∧ Wl.Fits r := by
    intro i
    by_cases hil : i < len
    case neg => exact ⟨⟨0, 0, 0, En.zero⟩, fun h => absurd h hil⟩
    obtain ⟨cs', hc, ht⟩ := hi i (by omega)
    rw [hC] at hc
    obtain ⟨_, hcl, hat⟩ := World.cells?_some hc
    obtain ⟨g, he, gv⟩ := open_rec1 ht
    refine ⟨g, fun _ => ⟨fun j hj => ?_, gv⟩⟩
    have := hat j (by omega)
    rw [he] at this
    rw [Nat.mul_comm 16 i, ← Go.Deep.add_add]
    exact this
  obtain ⟨F, hF⟩ := Classical.axiomOfChoice key
  have hlen : ((List.range len).map F).length = len := by simp
  refine ⟨some x, c, (List.range len).map F, by rw [hlen], lies_of fun i u hu => ?_, fun p hp => ?_, by omega⟩
  · have hil : i < 16 * len := by
      have := (List.getElem?_eq_some_iff.1 hu).1
      rw [wrs_length, hlen] at this; exact this
    have hk : i / 16 < len := by omega
    have h0 := wrs_at ((List.range len).map F) (i / 16) (by rw [hlen]; exact hk) (i % 16) (by omega)
    have eF : ((List.range len).map F)[i / 16]'(by rw [hlen]; exact hk) = F (i / 16) := by simp
    rw [eF, Nat.div_add_mod i 16] at h0
    have h1 := (hF (i / 16) hk).1 (i % 16) (by omega)
    rw [Nat.div_add_mod i 16] at h1
    rw [h1, ← h0, hu]
  · obtain ⟨i, hi, rfl⟩ := List.mem_map.1 hp
    exact (hF i (List.mem_range.1 hi)).2
theorem open8_recs {H : Type} {enc : TypeId × Value → H} {W : World} {a : Option Addr} {len cap : Nat} {d : DataW H} {ps : List MemPlace} (h : DataW.Trod enc Tryz.prog W 0 (fun _ => true) true 42 (.slice a len cap) d ps) :
    ∃ l : List Wl.R, len = l.length ∧ GivenR W a l := by
  obtain ⟨fuel, hf⟩ := h
  have hf : DataW.trod enc Tryz.prog W 0 (fun _ => true) true fuel 42 [.slice a len cap] = some (d, ps) := by simpa [Value.cells] using hf
  obtain ⟨A, c, l, e, g⟩ := open_recs1 hf
  injection e with e1 e2 e3
  subst e1
  exact ⟨l, e2, g⟩
end Go.Proofs.YtjhbpcecdhdnoaaGreatDoor
namespace Go.Proofs.YtjhbpcecdhdnoaaGreatDoor
open Go.ChangeShapes Go.WideShapes Go.ChangeAt Go.RowKit Go.Deep
set_option linter.unusedVariables false
theorem weights_all {H : Type} {P : Program} {e : TypeId} : ∀ (l : List (DataW H)) {d : DataW H}, d ∈ l → ∀ n ∈ d.weights P e, n ∈ DataW.weightsAll P e l
  | d0 :: l, d, hd, n, hn => by
    simp only [DataW.weightsAll, List.mem_append]
    rcases List.mem_cons.1 hd with rfl | h
    · exact .inl hn
    · exact .inr (weights_all l h n hn)
theorem weights_slice {H : Type} {P : Program} {t e : TypeId} {els sp : List (DataW H)} (hu : P.underlying t = some (.slice e)) {B : Nat} (h : ∀ n ∈ (DataW.slice els sp).weights P t, n ≤ B) {d : DataW H} (hd : d ∈ els) : ∀ n ∈ d.weights P e, n ≤ B := fun n hn => h n (by
  simp only [DataW.weights, hu, List.mem_cons, List.mem_append]
  exact .inr (.inl (weights_all els hd n hn)))
theorem weights_struct {H : Type} {P : Program} {t u : TypeId} {fs : Array Field} {ds : List (DataW H)} (hu : P.underlying t = some (.struct fs)) {B : Nat} (h : ∀ n ∈ (DataW.agg ds).weights P t, n ≤ B) {d : DataW H} {j : Nat} (hj : (fs.toList.map (·.type))[j]? = some u) (hd : ds[j]? = some d) : ∀ n ∈ d.weights P u, n ≤ B := fun n hn => h n (by
  simp only [DataW.weights, hu]
  exact DataW.weights_mem_each hj hd n hn)
set_option maxRecDepth 100000 in
theorem entry_body {H : Type} {enc : TypeId × Value → H} {W : World} {fuel : Nat} {cs : List Value} {x : DataW H × List MemPlace} (h : DataW.trod enc Tryz.prog W 0 (fun _ => true) true fuel 88 cs = some x) {B : Nat} (hw : ∀ n ∈ x.1.weights Tryz.prog 88, n ≤ B) (e : En.E) (he : cs = ec1 e) : e.body.size ≤ B := by
  obtain ⟨ys, n, _, hx, hl, hyl, hf⟩ := DataW.trod_struct Tryz.underlying88 h
  have h9 : Tryz.prog.cellsOf 9 = 1 := by kernel_rfl
  have hy9 : ys.length = 6 := hyl
  have g5 : DataW.trod enc Tryz.prog W 0 (fun _ => true) true n 9 ((cs.drop 12).take (Tryz.prog.cellsOf 9)) = ys[5]? := hf 5 _ rfl
  rw [List.getElem?_eq_getElem (by omega)] at g5
  rw [h9] at g5
  obtain ⟨s5, hc5, hx5, _⟩ := DataW.trod_string (t := 9) Tryz.underlying9 g5
  rw [he] at hc5
  have e5 : [Value.string e.body] = [Value.string s5] := hc5
  injection e5 with e5 _
  injection e5 with e5
  rw [hx] at hw
  have := weights_struct (u := 9) (d := ys[5].1) (j := 5) Tryz.underlying88 hw rfl (by rw [List.getElem?_map, List.getElem?_eq_getElem (by omega)]; rfl) s5.data.toList.length (by rw [hx5]; simp [DataW.weights])
  rw [e5]
  rw [Array.length_toList] at this
  exact this
theorem open9_ents {H : Type} {enc : TypeId × Value → H} {W : World} {fuel : Nat} {v : Value} {x : DataW H × List MemPlace} (h : DataW.trod enc Tryz.prog W 0 (fun _ => true) true fuel 56 [v] = some x) {B : Nat} (hw : ∀ n ∈ x.1.weights Tryz.prog 56, n ≤ B) :
    ∃ (A : Option Addr) (cap : Nat) (es : List En.E), v = .slice A es.length cap ∧ Lies W A (ec es) ∧ (∀ e ∈ es, En.Fits e ∧ e.body.size ≤ B) ∧ es.length ≤ maxLen ∧ (A = none → cap = 0) := by
  rcases open_slice Tryz.underlying56 h with ⟨hcs, _⟩ | ⟨a, len, cap, m, n, D, Pl, hcs, _, hl, hm, hmm, hx, hi⟩
  · obtain rfl : v = .slice none 0 0 := by simpa using hcs
    exact ⟨none, 0, [], rfl, .inl rfl, fun p hp => (by cases hp), (by simp [maxLen]), fun _ => rfl⟩
  obtain rfl : v = .slice (some a) len cap := by simpa using hcs
  simp only [if_true] at hmm
  have hC : Tryz.prog.cellsOf 88 = 13 := by kernel_rfl
  have key : ∀ i, ∃ e : En.E, i < len → (∀ j, j < 13 → W.cell? (a.add (13 * i + j)) = (ec1 e)[j]?) ∧ (En.Fits e ∧ e.body.size ≤ B) := by
    intro i
    by_cases hil : i < len
    case neg => exact ⟨En.zero, fun h => absurd h hil⟩
    obtain ⟨cs', hc, ht⟩ := hi i (by omega)
    rw [hC] at hc
    obtain ⟨_, hcl, hat⟩ := World.cells?_some hc
    obtain ⟨e, he, hf, _⟩ := open_entry (cs := cs'.toArray) ⟨n, by simpa [Value.cells] using ht⟩
    have he2 : cs' = ec1 e := by rw [← ec1_toList, ← he]
    have hz : e.body.size ≤ B := entry_body ht (weights_slice Tryz.underlying56 (by rw [hx] at hw; exact hw) (List.mem_map.2 ⟨i, List.mem_range.2 hil, rfl⟩)) e he2
    refine ⟨e, fun _ => ⟨fun j hj => ?_, hf, hz⟩⟩
    have := hat j (by omega)
    rw [he2] at this
    rw [Nat.mul_comm 13 i, ← Go.Deep.add_add]
    exact this
  obtain ⟨F, hF⟩ := Classical.axiomOfChoice key
  have hlen : ((List.range len).map F).length = len := by simp
  refine ⟨some a, cap, (List.range len).map F, by rw [hlen], lies_of fun i u hu => ?_, fun p hp => ?_, by rw [hlen]; omega, fun e => by cases e⟩
  · have hil : i < 13 * len := by
      have := (List.getElem?_eq_some_iff.1 hu).1
      rw [ec_length, hlen] at this; exact this
    have hk : i / 13 < len := by omega
    have h0 := ec_at ((List.range len).map F) (i / 13) (by rw [hlen]; exact hk) (i % 13) (by omega)
    have eF : ((List.range len).map F)[i / 13]'(by rw [hlen]; exact hk) = F (i / 13) := by simp
    rw [eF, Nat.div_add_mod i 13] at h0
    have h1 := (hF (i / 13) hk).1 (i % 13) (by omega)
    rw [Nat.div_add_mod i 13] at h1
    rw [h1, ← h0, hu]
  · obtain ⟨i, hi, rfl⟩ := List.mem_map.1 hp
    exact (hF i (List.mem_range.1 hi)).2
structure GivenS (s : St.Sn) : Prop where
  idx : s.idx < Nm.top
  trm : s.trm < Nm.top
  mem : s.mem < 256
  len : s.sec.length = 5
  sec : ∀ i, i < 5 → (St.sx s i).size ≤ maxLen
set_option maxRecDepth 100000 in
theorem open9_snap1 {H : Type} {enc : TypeId × Value → H} {W : World} {fuel : Nat} {cs : List Value} {x : DataW H × List MemPlace} (h : DataW.trod enc Tryz.prog W 0 (fun _ => true) true fuel 55 cs = some x) :
    ∃ s : St.Sn, cs = (snC s).toList ∧ GivenS s := by
  obtain ⟨ys, n, _, _, hl, hyl, hf⟩ := DataW.trod_struct Tryz.underlying55 h
  have hC : Tryz.prog.cellsOf 55 = 8 := by kernel_rfl
  have h8 : Tryz.prog.cellsOf 5 = 1 := by kernel_rfl
  have h6 : Tryz.prog.cellsOf 38 = 1 := by kernel_rfl
  have h5 : Tryz.prog.cellsOf 53 = 5 := by kernel_rfl
  have hs : Tryz.prog.cellsOf 9 = 1 := by kernel_rfl
  rw [hC] at hl
  have hyn : ys.length = 4 := hyl
  obtain ⟨c0, c1, c2, c3, c4, c5, c6, c7, rfl⟩ : ∃ c0 c1 c2 c3 c4 c5 c6 c7, cs = [c0, c1, c2, c3, c4, c5, c6, c7] := by
    match cs, hl with
    | [c0, c1, c2, c3, c4, c5, c6, c7], _ => exact ⟨c0, c1, c2, c3, c4, c5, c6, c7, rfl⟩
  have g0 : DataW.trod enc Tryz.prog W 0 (fun _ => true) true n 38 (([c0, c1, c2, c3, c4, c5, c6, c7].drop 0).take (Tryz.prog.cellsOf 38)) = ys[0]? := hf 0 _ rfl
  have g1 : DataW.trod enc Tryz.prog W 0 (fun _ => true) true n 38 (([c0, c1, c2, c3, c4, c5, c6, c7].drop 1).take (Tryz.prog.cellsOf 38)) = ys[1]? := hf 1 _ rfl
  have g2 : DataW.trod enc Tryz.prog W 0 (fun _ => true) true n 5 (([c0, c1, c2, c3, c4, c5, c6, c7].drop 2).take (Tryz.prog.cellsOf 5)) = ys[2]? := hf 2 _ rfl
  have g3 : DataW.trod enc Tryz.prog W 0 (fun _ => true) true n 53 (([c0, c1, c2, c3, c4, c5, c6, c7].drop 3).take (Tryz.prog.cellsOf 53)) = ys[3]? := hf 3 _ rfl
  rw [List.getElem?_eq_getElem (by omega)] at g0 g1 g2 g3
  rw [h8] at g2
  rw [h6] at g0 g1
  rw [h5] at g3
  obtain ⟨i0, hc0, _, wf0⟩ := DataW.trod_int (t := 38) Tryz.underlying38 g0
  obtain ⟨k0, rfl, z0⟩ := u64_nat wf0
  obtain ⟨i1, hc1, _, wf1⟩ := DataW.trod_int (t := 38) Tryz.underlying38 g1
  obtain ⟨k1, rfl, z1⟩ := u64_nat wf1
  obtain ⟨i2, hc2, _, wf2⟩ := DataW.trod_int (t := 5) Tryz.underlying5 g2
  obtain ⟨k2, rfl, z2⟩ := u8_nat wf2
  obtain ⟨xs, m, _, _, _, hxl, hat⟩ := DataW.trod_array Tryz.underlying53 g3
  have p0 := hat 0 (by omega)
  rw [hs, List.getElem?_eq_getElem (by omega)] at p0
  obtain ⟨s0, hd0, _, y0⟩ := DataW.trod_string (t := 9) Tryz.underlying9 p0
  have p1 := hat 1 (by omega)
  rw [hs, List.getElem?_eq_getElem (by omega)] at p1
  obtain ⟨s1, hd1, _, y1⟩ := DataW.trod_string (t := 9) Tryz.underlying9 p1
  have p2 := hat 2 (by omega)
  rw [hs, List.getElem?_eq_getElem (by omega)] at p2
  obtain ⟨s2, hd2, _, y2⟩ := DataW.trod_string (t := 9) Tryz.underlying9 p2
  have p3 := hat 3 (by omega)
  rw [hs, List.getElem?_eq_getElem (by omega)] at p3
  obtain ⟨s3, hd3, _, y3⟩ := DataW.trod_string (t := 9) Tryz.underlying9 p3
  have p4 := hat 4 (by omega)
  rw [hs, List.getElem?_eq_getElem (by omega)] at p4
  obtain ⟨s4, hd4, _, y4⟩ := DataW.trod_string (t := 9) Tryz.underlying9 p4
  obtain rfl : c0 = .int .u64 (k0 : Int) := by simpa using hc0
  obtain rfl : c1 = .int .u64 (k1 : Int) := by simpa using hc1
  obtain rfl : c2 = .int .u8 (k2 : Int) := by simpa using hc2
  obtain rfl : c3 = .string s0 := by simpa using hd0
  obtain rfl : c4 = .string s1 := by simpa using hd1
  obtain rfl : c5 = .string s2 := by simpa using hd2
  obtain rfl : c6 = .string s3 := by simpa using hd3
  obtain rfl : c7 = .string s4 := by simpa using hd4
  refine ⟨⟨k0, k1, k2, [s0, s1, s2, s3, s4]⟩, rfl, z0, z1, z2, rfl, fun i hi => ?_⟩
  rcases (show i = 0 ∨ i = 1 ∨ i = 2 ∨ i = 3 ∨ i = 4 by omega) with rfl | rfl | rfl | rfl | rfl
  · exact y0
  · exact y1
  · exact y2
  · exact y3
  · exact y4
theorem open9_snap {H : Type} {enc : TypeId × Value → H} {W : World} {cs : Array Value} {d : DataW H} {ps : List MemPlace} (h : DataW.Trod enc Tryz.prog W 0 (fun _ => true) true 55 (.agg cs) d ps) :
    ∃ s : St.Sn, cs = snC s ∧ GivenS s := by
  obtain ⟨fuel, hf⟩ := h
  obtain ⟨s, hs, g⟩ := open9_snap1 hf
  exact ⟨s, Array.toList_inj.1 hs, g⟩
structure GivenK (W : World) (k : St.K) (A : Option Addr) (c : Nat) : Prop where
  trm : k.trm < Nm.top
  vote : k.vote < 256
  snap : GivenS k.snap
  lies : Lies W A (ec k.ents)
  fits : ∀ e ∈ k.ents, En.Fits e ∧ e.body.size ≤ reachBytes
  len : k.ents.length ≤ maxLen
  form : A = none → c = 0
set_option maxRecDepth 100000 in
theorem open9_kept {H : Type} {enc : TypeId × Value → H} {W : World} {cs : Array Value} {d : DataW H} {ps : List MemPlace} (h : DataW.Trod enc Tryz.prog W 0 (fun _ => true) true 58 (.agg cs) d ps) (hw : ∀ n ∈ d.weights Tryz.prog 58, n ≤ reachBytes) :
    ∃ (k : St.K) (A : Option Addr) (c : Nat), cs = kC k (.slice A k.ents.length c) ∧ GivenK W k A c := by
  obtain ⟨fuel, hf0⟩ := h
  obtain ⟨ys, n, _, hx, hl, hyl, hf⟩ := DataW.trod_struct Tryz.underlying58 hf0
  have hC : Tryz.prog.cellsOf 58 = 11 := by kernel_rfl
  have h8 : Tryz.prog.cellsOf 5 = 1 := by kernel_rfl
  have h6 : Tryz.prog.cellsOf 38 = 1 := by kernel_rfl
  have hS : Tryz.prog.cellsOf 55 = 8 := by kernel_rfl
  have hE : Tryz.prog.cellsOf 56 = 1 := by kernel_rfl
  rw [hC] at hl
  have hyn : ys.length = 4 := hyl
  obtain ⟨L, hL⟩ : ∃ L, L = (Value.agg cs).cells.toList := ⟨_, rfl⟩
  rw [← hL] at hl hf
  obtain ⟨c0, c1, c2, c3, c4, c5, c6, c7, c8, c9, c10, rfl⟩ : ∃ c0 c1 c2 c3 c4 c5 c6 c7 c8 c9 c10, L = [c0, c1, c2, c3, c4, c5, c6, c7, c8, c9, c10] := by
    match L, hl with
    | [c0, c1, c2, c3, c4, c5, c6, c7, c8, c9, c10], _ => exact ⟨c0, c1, c2, c3, c4, c5, c6, c7, c8, c9, c10, rfl⟩
  have g0 : DataW.trod enc Tryz.prog W 0 (fun _ => true) true n 38 (([c0, c1, c2, c3, c4, c5, c6, c7, c8, c9, c10].drop 0).take (Tryz.prog.cellsOf 38)) = ys[0]? := hf 0 _ rfl
  have g1 : DataW.trod enc Tryz.prog W 0 (fun _ => true) true n 5 (([c0, c1, c2, c3, c4, c5, c6, c7, c8, c9, c10].drop 1).take (Tryz.prog.cellsOf 5)) = ys[1]? := hf 1 _ rfl
  have g2 : DataW.trod enc Tryz.prog W 0 (fun _ => true) true n 55 (([c0, c1, c2, c3, c4, c5, c6, c7, c8, c9, c10].drop 2).take (Tryz.prog.cellsOf 55)) = ys[2]? := hf 2 _ rfl
  have g3 : DataW.trod enc Tryz.prog W 0 (fun _ => true) true n 56 (([c0, c1, c2, c3, c4, c5, c6, c7, c8, c9, c10].drop 10).take (Tryz.prog.cellsOf 56)) = ys[3]? := hf 3 _ rfl
  rw [List.getElem?_eq_getElem (by omega)] at g0 g1 g2 g3
  rw [h6] at g0
  rw [h8] at g1
  rw [hS] at g2
  rw [hE] at g3
  obtain ⟨i0, hc0, _, wf0⟩ := DataW.trod_int (t := 38) Tryz.underlying38 g0
  obtain ⟨k0, rfl, z0⟩ := u64_nat wf0
  obtain ⟨i1, hc1, _, wf1⟩ := DataW.trod_int (t := 5) Tryz.underlying5 g1
  obtain ⟨k1, rfl, z1⟩ := u8_nat wf1
  obtain ⟨s, hs, gs⟩ := open9_snap1 g2
  have hs2 : [c2, c3, c4, c5, c6, c7, c8, c9] = (snC s).toList := hs
  obtain ⟨A, c, es, he, hlie, hfit, hlen, hnil⟩ := open9_ents (v := c10) g3 (weights_struct (u := 56) (d := ys[3].1) (j := 3) Tryz.underlying58 (by injection hx with hx1 _; rw [hx1] at hw; exact hw) rfl (by rw [List.getElem?_map, List.getElem?_eq_getElem (by omega)]; rfl))
  obtain rfl : c0 = .int .u64 (k0 : Int) := by simpa using hc0
  obtain rfl : c1 = .int .u8 (k1 : Int) := by simpa using hc1
  subst he
  refine ⟨⟨k0, k1, s, es⟩, A, c, Array.toList_inj.1 (Eq.trans (show cs.toList = (Value.agg cs).cells.toList from rfl) ?_), z0, z1, gs, hlie, hfit, hlen, ?_⟩
  · rw [← hL]
    have : (kC ⟨k0, k1, s, es⟩ (.slice A es.length c)).toList = [Value.int .u64 (k0 : Int), Value.int .u8 (k1 : Int)] ++ (snC s).toList ++ [Value.slice A es.length c] := rfl
    rw [this, ← hs2]; rfl
  · exact hnil
end Go.Proofs.YtjhbpcecdhdnoaaGreatDoor
