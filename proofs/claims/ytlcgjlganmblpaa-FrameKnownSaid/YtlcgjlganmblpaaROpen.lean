/-
  How arguments are opened: slices of numbers and of strings, as cells that lie in memory.
  Small words for opening arguments.
  How arguments are opened: commands, results. WRITTEN BY wip/tools/gen_open3.py.
  How operator's commands are opened as arguments. WRITTEN BY wip/tools/gen_oopen.py.
  How frames and replies are opened as arguments. WRITTEN BY wip/tools/gen_fropen.py.
-/
import Derived.Test.YtlcgjlganmblpaaRows
import Derived.Test.YtlcgjlganmblpaaRWords
import Derived.Test.YtlcgjlganmblpaaRCmd
import Derived.Test.YtlcgjlganmblpaaRRes
import Derived.Test.YtlcgjlganmblpaaROpB
import Derived.Test.YtlcgjlganmblpaaRFrA
import Derived.ProofKit
import Derived.OpenShut
import Derived.ShutString
import Derived.SliceStrings
import Derived.Carry
import Derived.Deep.Fields
set_option linter.unusedSimpArgs false
set_option linter.unusedVariables false
namespace Go.Proofs.Ytlcgjlganmblpaa
open Go.ChangeShapes Go.WideShapes Go.ChangeAt Go.RowKit
set_option linter.unusedVariables false

theorem own : ownKnob Try.prog.godebug = none := by kernel_rfl
theorem laidOut : laidOutB Try.prog = true := by kernel_rfl

theorem lies_of {w : World} {x : Addr} {vs : List Value} (hc : ∀ i u, vs[i]? = some u → w.cell? (x.add i) = some u) : Lies w (some x) vs := by
  rcases vs with _ | ⟨v, vs⟩
  · exact .inl rfl
  · obtain ⟨b, off, spot⟩ := x
    have h0 := hc 0 v rfl
    have hspot : spot = none := by simpa [Addr.add] using World.cell?_spot h0
    subst hspot
    refine .inr ⟨b, off, rfl, World.block_lt_of_cell? w ⟨b, off, none⟩ (by simpa [Addr.add] using h0), fun i u hu => ?_⟩
    have := hc i u hu
    have e : (⟨b, off, none⟩ : Addr).add i = ⟨b, off + i, none⟩ := by unfold Addr.add; split <;> simp_all
    rwa [e] at this

theorem u64_nat {n : Int} (h : (Lit.int .u64 n).wf = true) : ∃ k : Nat, n = (k : Int) ∧ k < Nm.top := by
  have hx : 0 ≤ n ∧ n ≤ 18446744073709551615 := by simpa [Lit.wf, IntKind.min, IntKind.max, IntKind.signed, IntKind.bits] using h
  exact ⟨n.toNat, by omega, by unfold Nm.top; omega⟩

theorem open_us {H : Type} {enc : TypeId × Value → H} {W : World} {a : Option Addr} {len cap : Nat} {d : DataW H} {ps : List MemPlace} (h : DataW.Trod enc Try.prog W 0 (fun _ => true) true 85 (.slice a len cap) d ps) :
    ∃ ns : List Nat, len = ns.length ∧ Lies W a (uc ns) ∧ (∀ n ∈ ns, n < Nm.top) ∧ len ≤ maxLen := by
  obtain ⟨fuel, hf⟩ := h
  rcases open_ints Try.underlying85 Try.underlying27 (by kernel_rfl) hf with ⟨hcs, _⟩ | ⟨x, l, c, zs, hcs, _, hl, hm, hz, _, hcell, hwz⟩
  · simp [Value.cells] at hcs
    obtain ⟨rfl, rfl, rfl⟩ := hcs
    exact ⟨[], rfl, .inl rfl, by simp, by simp [maxLen]⟩
  · simp [Value.cells] at hcs
    obtain ⟨rfl, rfl, rfl⟩ := hcs
    simp only [if_true] at hz
    have e : uc ((zs.take len).map Int.toNat) = (zs.take len).map (Value.int .u64) := by
      unfold uc
      rw [List.map_map]
      refine List.map_congr_left fun n hn => ?_
      obtain ⟨k, rfl, _⟩ := u64_nat (hwz n (List.mem_of_mem_take hn))
      simp
    refine ⟨(zs.take len).map Int.toNat, by simp; omega, lies_of fun i u hu => ?_, fun n hn => ?_, by omega⟩
    · rw [e] at hu
      obtain ⟨z, hz1, rfl⟩ : ∃ z, (zs.take len)[i]? = some z ∧ Value.int .u64 z = u := by rw [List.getElem?_map, Option.map_eq_some_iff] at hu; exact hu
      have hi : i < zs.length := by
        have := (List.getElem?_eq_some_iff.1 hz1).1
        simp at this; omega
      rw [hcell i hi]
      have : zs[i]? = some z := by
        rw [List.getElem?_take] at hz1
        split at hz1 <;> simp_all
      simp [List.getD, this]
    · obtain ⟨z, hz1, rfl⟩ := List.mem_map.1 hn
      obtain ⟨k, rfl, hk⟩ := u64_nat (hwz z (List.mem_of_mem_take hz1))
      simpa using hk

theorem open_ss {H : Type} {enc : TypeId × Value → H} {W : World} {a : Option Addr} {len cap : Nat} {d : DataW H} {ps : List MemPlace} (h : DataW.Trod enc Try.prog W 0 (fun _ => true) true 54 (.slice a len cap) d ps) :
    ∃ ss : List ByteArray, len = ss.length ∧ Lies W a (sc ss) ∧ (∀ s ∈ ss, s.size ≤ maxLen) ∧ len ≤ maxLen := by
  obtain ⟨fuel, hf⟩ := h
  rcases open_strings Try.underlying54 Try.underlying9 (by kernel_rfl) hf with ⟨hcs, _⟩ | ⟨x, l, c, zs, hcs, _, hl, hm, hz, _, hcell, hwz⟩
  · simp [Value.cells] at hcs
    obtain ⟨rfl, rfl, rfl⟩ := hcs
    exact ⟨[], rfl, .inl rfl, by simp, by simp [maxLen]⟩
  · simp [Value.cells] at hcs
    obtain ⟨rfl, rfl, rfl⟩ := hcs
    simp only [if_true] at hz
    refine ⟨zs.take len, by simp; omega, lies_of fun i u hu => ?_, fun n hn => hwz n (List.mem_of_mem_take hn), by omega⟩
    obtain ⟨z, hz1, rfl⟩ : ∃ z, (zs.take len)[i]? = some z ∧ Value.string z = u := by unfold sc at hu; rw [List.getElem?_map, Option.map_eq_some_iff] at hu; exact hu
    have hi : i < zs.length := by
      have := (List.getElem?_eq_some_iff.1 hz1).1
      simp at this; omega
    rw [hcell i hi]
    have : zs[i]? = some z := by
      rw [List.getElem?_take] at hz1
      split at hz1 <;> simp_all
    simp [List.getD, this]
end Go.Proofs.Ytlcgjlganmblpaa
namespace Go.Proofs.Ytlcgjlganmblpaa
open Go.ChangeShapes Go.WideShapes Go.ChangeAt Go.RowKit Go.Deep
set_option linter.unusedVariables false
theorem u8_nat {n : Int} (h : (Lit.int .u8 n).wf = true) : ∃ k : Nat, n = (k : Int) ∧ k < 256 := by
  have := bounds_u8 h
  exact ⟨n.toNat, by omega, by omega⟩
theorem u16_nat {n : Int} (h : (Lit.int .u16 n).wf = true) : ∃ k : Nat, n = (k : Int) ∧ k < 65536 := by
  have := bounds_u16 h
  exact ⟨n.toNat, by omega, by omega⟩
theorem drop_one {L : List Value} {k : Nat} {v : Value} (h : (L.drop k).take 1 = [v]) : L[k]? = some v := by
  have := congrArg (fun l => l[0]?) h
  simpa using this
theorem u8_byte {k : Nat} (h : k < 256) : ∃ a : UInt8, k = a.toNat := ⟨UInt8.ofNat k, by simp; omega⟩
end Go.Proofs.Ytlcgjlganmblpaa
namespace Go.Proofs.Ytlcgjlganmblpaa
open Go.ChangeShapes Go.WideShapes Go.ChangeAt Go.RowKit Go.Deep
set_option linter.unusedVariables false
/-- The cells of a struct, each of which is a field. -/
theorem struct_cell {H : Type} {enc : TypeId × Value → H} {P : Program} {w : World} {base : Nat} {spare : Nat → Bool} {held : Bool} {t : TypeId} {fs : Array Field} {fuel : Nat} {cs : List Value} {x : DataW H × List MemPlace} (hs : P.underlying t = some (.struct fs)) (hone : oneCellFields P fs = true) (hC : P.cellsOf t = fs.size)
    (h : DataW.trod enc P w base spare held fuel t cs = some x) : cs.length = fs.size ∧ ∃ n, ∀ (j : Nat) (f : Field), fs[j]? = some f → ∃ v y, cs[j]? = some v ∧ DataW.trod enc P w base spare held n f.type [v] = some y := by
  obtain ⟨ys, n, _, _, hl, hyl, hf⟩ := DataW.trod_struct hs h
  rw [hC] at hl
  refine ⟨hl, n, fun j f hj => ?_⟩
  obtain ⟨ho, hk⟩ := hone_of hone j f hj
  have hjl : j < fs.size := (Array.getElem?_eq_some_iff.1 hj).1
  have h1 := hf j f hj
  rw [ho, hk, List.getElem?_eq_getElem (by omega), List.drop_eq_getElem_cons (by omega)] at h1
  exact ⟨_, _, List.getElem?_eq_getElem (by omega), h1⟩
theorem at3 {a : Addr} {i j : Nat} : (a.add (i * 3)).add j = a.add (3 * i + j) := by
  rw [Nat.mul_comm]; exact Go.Deep.add_add a (3 * i) j

theorem open_parts {H : Type} {enc : TypeId × Value → H} {W : World} {fuel : Nat} {v : Value} {x : DataW H × List MemPlace} (h : DataW.trod enc Try.prog W 0 (fun _ => true) true fuel 28 [v] = some x) :
    ∃ (A : Option Addr) (cap : Nat) (ps : List Cm.Part), v = .slice A ps.length cap ∧ Lies W A (pc ps) ∧ (∀ p ∈ ps, p.op < 256 ∧ p.key.size ≤ maxLen ∧ p.val.size ≤ maxLen) ∧ ps.length ≤ maxLen ∧ (A = none → cap = 0) := by
  rcases open_slice Try.underlying28 h with ⟨hcs, _⟩ | ⟨a, len, cap, m, n, D, Pl, hcs, _, hl, hm, hmm, _, hi⟩
  · obtain rfl : v = .slice none 0 0 := by simpa using hcs
    exact ⟨none, 0, [], rfl, .inl rfl, fun p hp => (by cases hp), (by simp [maxLen]), fun _ => rfl⟩
  obtain rfl : v = .slice (some a) len cap := by simpa using hcs
  simp only [if_true] at hmm
  have hC : Try.prog.cellsOf 91 = 3 := by kernel_rfl
  have key : ∀ i, ∃ p : Cm.Part, i < len → (W.cell? (a.add (3 * i)) = some (.int .u8 (p.op : Int)) ∧ W.cell? (a.add (3 * i + 1)) = some (.string p.key) ∧ W.cell? (a.add (3 * i + 2)) = some (.string p.val)) ∧ (p.op < 256 ∧ p.key.size ≤ maxLen ∧ p.val.size ≤ maxLen) := by
    intro i
    by_cases hil : i < len
    case neg => exact ⟨⟨0, Cm.e0, Cm.e0⟩, fun h => absurd h hil⟩
    obtain ⟨cs', hc, ht⟩ := hi i (by omega)
    rw [hC] at hc
    obtain ⟨_, hcl, hat⟩ := World.cells?_some hc
    obtain ⟨_, n', hf⟩ := struct_cell Try.underlying91 (by kernel_rfl) hC ht
    obtain ⟨v0, y0, hv0, ht0⟩ := hf 0 _ rfl
    obtain ⟨v1, y1, hv1, ht1⟩ := hf 1 _ rfl
    obtain ⟨v2, y2, hv2, ht2⟩ := hf 2 _ rfl
    have c0 := (hat 0 (by omega)).trans hv0
    have c1 := (hat 1 (by omega)).trans hv1
    have c2 := (hat 2 (by omega)).trans hv2
    rw [at3] at c0 c1 c2
    obtain ⟨i0, hc0, _, wf0⟩ := DataW.trod_int (t := 5) Try.underlying5 ht0
    obtain ⟨k0, rfl, z0⟩ := u8_nat wf0
    obtain rfl : v0 = .int .u8 (k0 : Int) := by simpa using hc0
    obtain ⟨s1, hc1, _, z1⟩ := DataW.trod_string (t := 9) Try.underlying9 ht1
    obtain rfl : v1 = .string s1 := by simpa using hc1
    obtain ⟨s2, hc2, _, z2⟩ := DataW.trod_string (t := 9) Try.underlying9 ht2
    obtain rfl : v2 = .string s2 := by simpa using hc2
    exact ⟨⟨k0, s1, s2⟩, fun _ => ⟨⟨c0, c1, c2⟩, z0, z1, z2⟩⟩
  obtain ⟨F, hF⟩ := Classical.axiomOfChoice key
  have hlen : ((List.range len).map F).length = len := by simp
  refine ⟨some a, cap, (List.range len).map F, by rw [hlen], lies_of fun i u hu => ?_, fun p hp => ?_, by rw [hlen]; omega, fun e => by cases e⟩
  · have hil : i < 3 * len := by
      have := (List.getElem?_eq_some_iff.1 hu).1
      rw [pc_length, hlen] at this; exact this
    have hk : i / 3 < len := by omega
    obtain ⟨h0, h1, h2⟩ := pc_at ((List.range len).map F) (i / 3) (by rw [hlen]; exact hk)
    have eF : ((List.range len).map F)[i / 3]'(by rw [hlen]; exact hk) = F (i / 3) := by simp
    rw [eF] at h0 h1 h2
    obtain ⟨⟨c0, c1, c2⟩, _⟩ := hF (i / 3) hk
    obtain ⟨q, hq⟩ : ∃ q, i / 3 = q := ⟨_, rfl⟩
    rw [hq] at h0 h1 h2 c0 c1 c2
    have hmod : i = 3 * q ∨ i = 3 * q + 1 ∨ i = 3 * q + 2 := by omega
    rcases hmod with hr | hr | hr
    · subst hr
      exact c0.trans (h0.symm.trans hu)
    · subst hr
      exact c1.trans (h1.symm.trans hu)
    · subst hr
      exact c2.trans (h2.symm.trans hu)
  · obtain ⟨i, hi, rfl⟩ := List.mem_map.1 hp
    exact (hF i (List.mem_range.1 hi)).2

theorem open_rows {H : Type} {enc : TypeId × Value → H} {W : World} {fuel : Nat} {v : Value} {x : DataW H × List MemPlace} (h : DataW.trod enc Try.prog W 0 (fun _ => true) true fuel 35 [v] = some x) :
    ∃ (A : Option Addr) (cap : Nat) (ps : List Rs.Row), v = .slice A ps.length cap ∧ Lies W A (rc ps) ∧ (∀ p ∈ ps, p.ver < Nm.top ∧ p.key.size ≤ maxLen ∧ p.val.size ≤ maxLen) ∧ ps.length ≤ maxLen ∧ (A = none → cap = 0) := by
  rcases open_slice Try.underlying35 h with ⟨hcs, _⟩ | ⟨a, len, cap, m, n, D, Pl, hcs, _, hl, hm, hmm, _, hi⟩
  · obtain rfl : v = .slice none 0 0 := by simpa using hcs
    exact ⟨none, 0, [], rfl, .inl rfl, fun p hp => (by cases hp), (by simp [maxLen]), fun _ => rfl⟩
  obtain rfl : v = .slice (some a) len cap := by simpa using hcs
  simp only [if_true] at hmm
  have hC : Try.prog.cellsOf 78 = 3 := by kernel_rfl
  have key : ∀ i, ∃ p : Rs.Row, i < len → (W.cell? (a.add (3 * i)) = some (.string p.key) ∧ W.cell? (a.add (3 * i + 1)) = some (.string p.val) ∧ W.cell? (a.add (3 * i + 2)) = some (.int .u64 (p.ver : Int))) ∧ (p.ver < Nm.top ∧ p.key.size ≤ maxLen ∧ p.val.size ≤ maxLen) := by
    intro i
    by_cases hil : i < len
    case neg => exact ⟨⟨Cm.e0, Cm.e0, 0⟩, fun h => absurd h hil⟩
    obtain ⟨cs', hc, ht⟩ := hi i (by omega)
    rw [hC] at hc
    obtain ⟨_, hcl, hat⟩ := World.cells?_some hc
    obtain ⟨_, n', hf⟩ := struct_cell Try.underlying78 (by kernel_rfl) hC ht
    obtain ⟨v0, y0, hv0, ht0⟩ := hf 0 _ rfl
    obtain ⟨v1, y1, hv1, ht1⟩ := hf 1 _ rfl
    obtain ⟨v2, y2, hv2, ht2⟩ := hf 2 _ rfl
    have c0 := (hat 0 (by omega)).trans hv0
    have c1 := (hat 1 (by omega)).trans hv1
    have c2 := (hat 2 (by omega)).trans hv2
    rw [at3] at c0 c1 c2
    obtain ⟨s0, hc0, _, z0⟩ := DataW.trod_string (t := 9) Try.underlying9 ht0
    obtain rfl : v0 = .string s0 := by simpa using hc0
    obtain ⟨s1, hc1, _, z1⟩ := DataW.trod_string (t := 9) Try.underlying9 ht1
    obtain rfl : v1 = .string s1 := by simpa using hc1
    obtain ⟨i2, hc2, _, wf2⟩ := DataW.trod_int (t := 27) Try.underlying27 ht2
    obtain ⟨k2, rfl, z2⟩ := u64_nat wf2
    obtain rfl : v2 = .int .u64 (k2 : Int) := by simpa using hc2
    exact ⟨⟨s0, s1, k2⟩, fun _ => ⟨⟨c0, c1, c2⟩, z2, z0, z1⟩⟩
  obtain ⟨F, hF⟩ := Classical.axiomOfChoice key
  have hlen : ((List.range len).map F).length = len := by simp
  refine ⟨some a, cap, (List.range len).map F, by rw [hlen], lies_of fun i u hu => ?_, fun p hp => ?_, by rw [hlen]; omega, fun e => by cases e⟩
  · have hil : i < 3 * len := by
      have := (List.getElem?_eq_some_iff.1 hu).1
      rw [rc_length, hlen] at this; exact this
    have hk : i / 3 < len := by omega
    obtain ⟨h0, h1, h2⟩ := rc_at ((List.range len).map F) (i / 3) (by rw [hlen]; exact hk)
    have eF : ((List.range len).map F)[i / 3]'(by rw [hlen]; exact hk) = F (i / 3) := by simp
    rw [eF] at h0 h1 h2
    obtain ⟨⟨c0, c1, c2⟩, _⟩ := hF (i / 3) hk
    obtain ⟨q, hq⟩ : ∃ q, i / 3 = q := ⟨_, rfl⟩
    rw [hq] at h0 h1 h2 c0 c1 c2
    have hmod : i = 3 * q ∨ i = 3 * q + 1 ∨ i = 3 * q + 2 := by omega
    rcases hmod with hr | hr | hr
    · subst hr
      exact c0.trans (h0.symm.trans hu)
    · subst hr
      exact c1.trans (h1.symm.trans hu)
    · subst hr
      exact c2.trans (h2.symm.trans hu)
  · obtain ⟨i, hi, rfl⟩ := List.mem_map.1 hp
    exact (hF i (List.mem_range.1 hi)).2

/-- A command that is handed in. -/
structure Given (W : World) (c : Cm.Cmd) (A : Option Addr) (cap : Nat) : Prop where
  lies : Lies W A (pc c.parts)
  fits : Cm.Fits c
  key : c.key.size ≤ maxLen
  val : c.val.size ≤ maxLen
  exp : c.exp.size ≤ maxLen
  frm : c.frm.size ≤ maxLen
  tto : c.tto.size ≤ maxLen
  len : c.parts.length ≤ maxLen
  parts : ∀ p ∈ c.parts, p.key.size ≤ maxLen ∧ p.val.size ≤ maxLen
  nil : A = none → cap = 0
theorem open_cmd {H : Type} {enc : TypeId × Value → H} {W : World} {cs : Array Value} {d : DataW H} {ps : List MemPlace} (h : DataW.Trod enc Try.prog W 0 (fun _ => true) true 30 (.agg cs) d ps) :
    ∃ (c : Cm.Cmd) (A : Option Addr) (cap : Nat), cs = cmdC c A cap ∧ Given W c A cap := by
  obtain ⟨fuel, hf0⟩ := h
  obtain ⟨hl, n, hf⟩ := struct_cell Try.underlying30 (by kernel_rfl) (by kernel_rfl) hf0
  obtain ⟨v0, y0, hv0, ht0⟩ := hf 0 _ rfl
  obtain ⟨i0, hc0, _, wf0⟩ := DataW.trod_int (t := 5) Try.underlying5 ht0
  obtain ⟨k0, rfl, z0⟩ := u8_nat wf0
  obtain rfl : v0 = .int .u8 (k0 : Int) := by simpa using hc0
  obtain ⟨v1, y1, hv1, ht1⟩ := hf 1 _ rfl
  obtain ⟨i1, hc1, _, wf1⟩ := DataW.trod_int (t := 27) Try.underlying27 ht1
  obtain ⟨k1, rfl, z1⟩ := u64_nat wf1
  obtain rfl : v1 = .int .u64 (k1 : Int) := by simpa using hc1
  obtain ⟨v2, y2, hv2, ht2⟩ := hf 2 _ rfl
  obtain ⟨i2, hc2, _, wf2⟩ := DataW.trod_int (t := 27) Try.underlying27 ht2
  obtain ⟨k2, rfl, z2⟩ := u64_nat wf2
  obtain rfl : v2 = .int .u64 (k2 : Int) := by simpa using hc2
  obtain ⟨v3, y3, hv3, ht3⟩ := hf 3 _ rfl
  obtain ⟨s3, hc3, _, z3⟩ := DataW.trod_string (t := 9) Try.underlying9 ht3
  obtain rfl : v3 = .string s3 := by simpa using hc3
  obtain ⟨v4, y4, hv4, ht4⟩ := hf 4 _ rfl
  obtain ⟨s4, hc4, _, z4⟩ := DataW.trod_string (t := 9) Try.underlying9 ht4
  obtain rfl : v4 = .string s4 := by simpa using hc4
  obtain ⟨v5, y5, hv5, ht5⟩ := hf 5 _ rfl
  obtain ⟨s5, hc5, _, z5⟩ := DataW.trod_string (t := 9) Try.underlying9 ht5
  obtain rfl : v5 = .string s5 := by simpa using hc5
  obtain ⟨v6, y6, hv6, ht6⟩ := hf 6 _ rfl
  obtain ⟨s6, hc6, _, z6⟩ := DataW.trod_string (t := 9) Try.underlying9 ht6
  obtain rfl : v6 = .string s6 := by simpa using hc6
  obtain ⟨v7, y7, hv7, ht7⟩ := hf 7 _ rfl
  obtain ⟨s7, hc7, _, z7⟩ := DataW.trod_string (t := 9) Try.underlying9 ht7
  obtain rfl : v7 = .string s7 := by simpa using hc7
  obtain ⟨v8, y8, hv8, ht8⟩ := hf 8 _ rfl
  obtain ⟨i8, hc8, _, wf8⟩ := DataW.trod_int (t := 5) Try.underlying5 ht8
  obtain ⟨k8, rfl, z8⟩ := u8_nat wf8
  obtain rfl : v8 = .int .u8 (k8 : Int) := by simpa using hc8
  obtain ⟨v9, y9, hv9, ht9⟩ := hf 9 _ rfl
  obtain ⟨i9, hc9, _, wf9⟩ := DataW.trod_int (t := 27) Try.underlying27 ht9
  obtain ⟨k9, rfl, z9⟩ := u64_nat wf9
  obtain rfl : v9 = .int .u64 (k9 : Int) := by simpa using hc9
  obtain ⟨v10, y10, hv10, ht10⟩ := hf 10 _ rfl
  obtain ⟨i10, hc10, _, wf10⟩ := DataW.trod_int (t := 27) Try.underlying27 ht10
  obtain ⟨k10, rfl, z10⟩ := u64_nat wf10
  obtain rfl : v10 = .int .u64 (k10 : Int) := by simpa using hc10
  obtain ⟨v11, y11, hv11, ht11⟩ := hf 11 _ rfl
  obtain ⟨A, cap, qs, rfl, hL, hq, hn, hnil⟩ := open_parts ht11
  refine ⟨⟨k0, k1, k2, s3, s4, s5, s6, s7, k8, k9, k10, qs⟩, A, cap, ?_, hL, ⟨z0, z1, z2, z8, z9, z10, fun p hp => (hq p hp).1⟩, z3, z4, z5, z6, z7, hn, fun p hp => (hq p hp).2, hnil⟩
  have hs : cs.size = 12 := hl
  apply Array.ext_getElem?
  intro i
  by_cases hi : i < 12
  · have hall : i = 0 ∨ i = 1 ∨ i = 2 ∨ i = 3 ∨ i = 4 ∨ i = 5 ∨ i = 6 ∨ i = 7 ∨ i = 8 ∨ i = 9 ∨ i = 10 ∨ i = 11 := by omega
    have key : ∀ j v, (Value.agg cs).cells.toList[j]? = some v → cs[j]? = some v := fun j v hv => by rw [← Array.getElem?_toList]; exact hv
    rcases hall with rfl | rfl | rfl | rfl | rfl | rfl | rfl | rfl | rfl | rfl | rfl | rfl
    · exact key _ _ hv0
    · exact key _ _ hv1
    · exact key _ _ hv2
    · exact key _ _ hv3
    · exact key _ _ hv4
    · exact key _ _ hv5
    · exact key _ _ hv6
    · exact key _ _ hv7
    · exact key _ _ hv8
    · exact key _ _ hv9
    · exact key _ _ hv10
    · exact key _ _ hv11
  · rw [Array.getElem?_eq_none (by omega), Array.getElem?_eq_none (by simp [cmdC]; omega)]

/-- A result that is handed in. -/
structure GivenR (W : World) (r : Rs.Res) (A : Option Addr) (cap : Nat) : Prop where
  lies : Lies W A (rc r.rows)
  fits : RFits r
  val : r.val.size ≤ maxLen
  len : r.rows.length ≤ maxLen
  rows : ∀ p ∈ r.rows, p.key.size ≤ maxLen ∧ p.val.size ≤ maxLen
  nil : A = none → cap = 0
theorem open_res {H : Type} {enc : TypeId × Value → H} {W : World} {cs : Array Value} {d : DataW H} {ps : List MemPlace} (h : DataW.Trod enc Try.prog W 0 (fun _ => true) true 37 (.agg cs) d ps) :
    ∃ (r : Rs.Res) (A : Option Addr) (cap : Nat), cs = resC r A cap ∧ GivenR W r A cap := by
  obtain ⟨fuel, hf0⟩ := h
  obtain ⟨hl, n, hf⟩ := struct_cell Try.underlying37 (by kernel_rfl) (by kernel_rfl) hf0
  obtain ⟨v0, y0, hv0, ht0⟩ := hf 0 _ rfl
  obtain ⟨i0, hc0, _, wf0⟩ := DataW.trod_int (t := 5) Try.underlying5 ht0
  obtain ⟨k0, rfl, z0⟩ := u8_nat wf0
  obtain rfl : v0 = .int .u8 (k0 : Int) := by simpa using hc0
  obtain ⟨v1, y1, hv1, ht1⟩ := hf 1 _ rfl
  obtain ⟨i1, hc1, _, wf1⟩ := DataW.trod_int (t := 27) Try.underlying27 ht1
  obtain ⟨k1, rfl, z1⟩ := u64_nat wf1
  obtain rfl : v1 = .int .u64 (k1 : Int) := by simpa using hc1
  obtain ⟨v2, y2, hv2, ht2⟩ := hf 2 _ rfl
  obtain ⟨s2, hc2, _, z2⟩ := DataW.trod_string (t := 9) Try.underlying9 ht2
  obtain rfl : v2 = .string s2 := by simpa using hc2
  obtain ⟨v3, y3, hv3, ht3⟩ := hf 3 _ rfl
  obtain ⟨A, cap, qs, rfl, hL, hq, hn, hnil⟩ := open_rows ht3
  refine ⟨⟨k0, k1, s2, qs⟩, A, cap, ?_, hL, ⟨z0, z1, fun p hp => (hq p hp).1⟩, z2, hn, fun p hp => (hq p hp).2, hnil⟩
  have hs : cs.size = 4 := hl
  apply Array.ext_getElem?
  intro i
  by_cases hi : i < 4
  · have hall : i = 0 ∨ i = 1 ∨ i = 2 ∨ i = 3 := by omega
    have key : ∀ j v, (Value.agg cs).cells.toList[j]? = some v → cs[j]? = some v := fun j v hv => by rw [← Array.getElem?_toList]; exact hv
    rcases hall with rfl | rfl | rfl | rfl
    · exact key _ _ hv0
    · exact key _ _ hv1
    · exact key _ _ hv2
    · exact key _ _ hv3
  · rw [Array.getElem?_eq_none (by omega), Array.getElem?_eq_none (by simp [resC]; omega)]
end Go.Proofs.Ytlcgjlganmblpaa
namespace Go.Proofs.Ytlcgjlganmblpaa
open Go.ChangeShapes Go.WideShapes Go.ChangeAt Go.RowKit Go.Deep
theorem i64_in {n : Int} (h : (Lit.int .i64 n).wf = true) : -9223372036854775808 ≤ n ∧ n < 9223372036854775808 := by
  have := bounds_i64 h; omega
set_option maxRecDepth 100000 in
theorem open_oper {H : Type} {enc : TypeId × Value → H} {W : World} {cs : Array Value} {d : DataW H} {ps : List MemPlace} (h : DataW.Trod enc Try.prog W 0 (fun _ => true) true 26 (.agg cs) d ps) :
    ∃ c : Og.Oper, cs = operC c ∧ Og.Fits c := by
  obtain ⟨fuel, hf0⟩ := h
  obtain ⟨ys, n, _, _, hl, hyl, hf⟩ := DataW.trod_struct Try.underlying26 hf0
  have hC : Try.prog.cellsOf 26 = 16 := by kernel_rfl
  have h5 : Try.prog.cellsOf 5 = 1 := by kernel_rfl
  have h3 : Try.prog.cellsOf 3 = 1 := by kernel_rfl
  have h31 : Try.prog.cellsOf 23 = 8 := by kernel_rfl
  rw [hC] at hl
  have hs : cs.size = 16 := hl
  have hy9 : ys.length = 9 := hyl
  obtain ⟨L, hL⟩ : ∃ L, L = (Value.agg cs).cells.toList := ⟨_, rfl⟩
  have hLc : ∀ j v, L[j]? = some v → cs[j]? = some v := fun j v hv => by rw [hL] at hv; rw [← Array.getElem?_toList]; exact hv
  rw [← hL] at hf
  have g0 : DataW.trod enc Try.prog W 0 (fun _ => true) true n 5 ((L.drop 0).take (Try.prog.cellsOf 5)) = ys[0]? := hf 0 _ rfl
  rw [List.getElem?_eq_getElem (by omega)] at g0
  rw [h5] at g0
  obtain ⟨i0, hc0, _, wf0⟩ := DataW.trod_int (t := 5) Try.underlying5 g0
  have e0 := hLc _ _ (drop_one hc0)
  obtain ⟨k0, rfl, z0⟩ := u8_nat wf0
  have g1 : DataW.trod enc Try.prog W 0 (fun _ => true) true n 5 ((L.drop 1).take (Try.prog.cellsOf 5)) = ys[1]? := hf 1 _ rfl
  rw [List.getElem?_eq_getElem (by omega)] at g1
  rw [h5] at g1
  obtain ⟨i1, hc1, _, wf1⟩ := DataW.trod_int (t := 5) Try.underlying5 g1
  have e1 := hLc _ _ (drop_one hc1)
  obtain ⟨k1, rfl, z1⟩ := u8_nat wf1
  have g2 : DataW.trod enc Try.prog W 0 (fun _ => true) true n 23 ((L.drop 2).take (Try.prog.cellsOf 23)) = ys[2]? := hf 2 _ rfl
  rw [List.getElem?_eq_getElem (by omega)] at g2
  rw [h31] at g2
  obtain ⟨xs, m, _, _, _, hxl, hat⟩ := DataW.trod_array Try.underlying23 g2
  have p0 := hat 0 (by omega)
  rw [h5, List.getElem?_eq_getElem (by omega)] at p0
  obtain ⟨u0, hd0, _, uw0⟩ := DataW.trod_int (t := 5) Try.underlying5 p0
  obtain ⟨v0, rfl, y0⟩ := u8_nat uw0
  obtain ⟨a0, rfl⟩ := u8_byte y0
  have t0 : cs[2]? = some _ := hLc 2 _ (by have := drop_one hd0; simpa using this)
  have p1 := hat 1 (by omega)
  rw [h5, List.getElem?_eq_getElem (by omega)] at p1
  obtain ⟨u1, hd1, _, uw1⟩ := DataW.trod_int (t := 5) Try.underlying5 p1
  obtain ⟨v1, rfl, y1⟩ := u8_nat uw1
  obtain ⟨a1, rfl⟩ := u8_byte y1
  have t1 : cs[3]? = some _ := hLc 3 _ (by have := drop_one hd1; simpa using this)
  have p2 := hat 2 (by omega)
  rw [h5, List.getElem?_eq_getElem (by omega)] at p2
  obtain ⟨u2, hd2, _, uw2⟩ := DataW.trod_int (t := 5) Try.underlying5 p2
  obtain ⟨v2, rfl, y2⟩ := u8_nat uw2
  obtain ⟨a2, rfl⟩ := u8_byte y2
  have t2 : cs[4]? = some _ := hLc 4 _ (by have := drop_one hd2; simpa using this)
  have p3 := hat 3 (by omega)
  rw [h5, List.getElem?_eq_getElem (by omega)] at p3
  obtain ⟨u3, hd3, _, uw3⟩ := DataW.trod_int (t := 5) Try.underlying5 p3
  obtain ⟨v3, rfl, y3⟩ := u8_nat uw3
  obtain ⟨a3, rfl⟩ := u8_byte y3
  have t3 : cs[5]? = some _ := hLc 5 _ (by have := drop_one hd3; simpa using this)
  have p4 := hat 4 (by omega)
  rw [h5, List.getElem?_eq_getElem (by omega)] at p4
  obtain ⟨u4, hd4, _, uw4⟩ := DataW.trod_int (t := 5) Try.underlying5 p4
  obtain ⟨v4, rfl, y4⟩ := u8_nat uw4
  obtain ⟨a4, rfl⟩ := u8_byte y4
  have t4 : cs[6]? = some _ := hLc 6 _ (by have := drop_one hd4; simpa using this)
  have p5 := hat 5 (by omega)
  rw [h5, List.getElem?_eq_getElem (by omega)] at p5
  obtain ⟨u5, hd5, _, uw5⟩ := DataW.trod_int (t := 5) Try.underlying5 p5
  obtain ⟨v5, rfl, y5⟩ := u8_nat uw5
  obtain ⟨a5, rfl⟩ := u8_byte y5
  have t5 : cs[7]? = some _ := hLc 7 _ (by have := drop_one hd5; simpa using this)
  have p6 := hat 6 (by omega)
  rw [h5, List.getElem?_eq_getElem (by omega)] at p6
  obtain ⟨u6, hd6, _, uw6⟩ := DataW.trod_int (t := 5) Try.underlying5 p6
  obtain ⟨v6, rfl, y6⟩ := u8_nat uw6
  obtain ⟨a6, rfl⟩ := u8_byte y6
  have t6 : cs[8]? = some _ := hLc 8 _ (by have := drop_one hd6; simpa using this)
  have p7 := hat 7 (by omega)
  rw [h5, List.getElem?_eq_getElem (by omega)] at p7
  obtain ⟨u7, hd7, _, uw7⟩ := DataW.trod_int (t := 5) Try.underlying5 p7
  obtain ⟨v7, rfl, y7⟩ := u8_nat uw7
  obtain ⟨a7, rfl⟩ := u8_byte y7
  have t7 : cs[9]? = some _ := hLc 9 _ (by have := drop_one hd7; simpa using this)
  have g3 : DataW.trod enc Try.prog W 0 (fun _ => true) true n 5 ((L.drop 10).take (Try.prog.cellsOf 5)) = ys[3]? := hf 3 _ rfl
  rw [List.getElem?_eq_getElem (by omega)] at g3
  rw [h5] at g3
  obtain ⟨i3, hc3, _, wf3⟩ := DataW.trod_int (t := 5) Try.underlying5 g3
  have e3 := hLc _ _ (drop_one hc3)
  obtain ⟨k3, rfl, z3⟩ := u8_nat wf3
  have g4 : DataW.trod enc Try.prog W 0 (fun _ => true) true n 3 ((L.drop 11).take (Try.prog.cellsOf 3)) = ys[4]? := hf 4 _ rfl
  rw [List.getElem?_eq_getElem (by omega)] at g4
  rw [h3] at g4
  obtain ⟨i4, hc4, _, wf4⟩ := DataW.trod_int (t := 3) Try.underlying3 g4
  have e4 := hLc _ _ (drop_one hc4)
  have z4 := i64_in wf4
  have g5 : DataW.trod enc Try.prog W 0 (fun _ => true) true n 3 ((L.drop 12).take (Try.prog.cellsOf 3)) = ys[5]? := hf 5 _ rfl
  rw [List.getElem?_eq_getElem (by omega)] at g5
  rw [h3] at g5
  obtain ⟨i5, hc5, _, wf5⟩ := DataW.trod_int (t := 3) Try.underlying3 g5
  have e5 := hLc _ _ (drop_one hc5)
  have z5 := i64_in wf5
  have g6 : DataW.trod enc Try.prog W 0 (fun _ => true) true n 3 ((L.drop 13).take (Try.prog.cellsOf 3)) = ys[6]? := hf 6 _ rfl
  rw [List.getElem?_eq_getElem (by omega)] at g6
  rw [h3] at g6
  obtain ⟨i6, hc6, _, wf6⟩ := DataW.trod_int (t := 3) Try.underlying3 g6
  have e6 := hLc _ _ (drop_one hc6)
  have z6 := i64_in wf6
  have g7 : DataW.trod enc Try.prog W 0 (fun _ => true) true n 3 ((L.drop 14).take (Try.prog.cellsOf 3)) = ys[7]? := hf 7 _ rfl
  rw [List.getElem?_eq_getElem (by omega)] at g7
  rw [h3] at g7
  obtain ⟨i7, hc7, _, wf7⟩ := DataW.trod_int (t := 3) Try.underlying3 g7
  have e7 := hLc _ _ (drop_one hc7)
  have z7 := i64_in wf7
  have g8 : DataW.trod enc Try.prog W 0 (fun _ => true) true n 5 ((L.drop 15).take (Try.prog.cellsOf 5)) = ys[8]? := hf 8 _ rfl
  rw [List.getElem?_eq_getElem (by omega)] at g8
  rw [h5] at g8
  obtain ⟨i8, hc8, _, wf8⟩ := DataW.trod_int (t := 5) Try.underlying5 g8
  have e8 := hLc _ _ (drop_one hc8)
  obtain ⟨k8, rfl, z8⟩ := u8_nat wf8
  refine ⟨⟨k0, k1, ⟨a0, a1, a2, a3, a4, a5, a6, a7⟩, k3, i4, i5, i6, i7, k8⟩, ?_, ⟨z0, z1, z3, z8, z4, z5, z6, z7⟩⟩
  apply Array.ext_getElem?
  intro i
  by_cases hi : i < 16
  · have hall : i = 0 ∨ i = 1 ∨ i = 2 ∨ i = 3 ∨ i = 4 ∨ i = 5 ∨ i = 6 ∨ i = 7 ∨ i = 8 ∨ i = 9 ∨ i = 10 ∨ i = 11 ∨ i = 12 ∨ i = 13 ∨ i = 14 ∨ i = 15 := by omega
    rcases hall with rfl | rfl | rfl | rfl | rfl | rfl | rfl | rfl | rfl | rfl | rfl | rfl | rfl | rfl | rfl | rfl
    · exact e0
    · exact e1
    · exact t0
    · exact t1
    · exact t2
    · exact t3
    · exact t4
    · exact t5
    · exact t6
    · exact t7
    · exact e3
    · exact e4
    · exact e5
    · exact e6
    · exact e7
    · exact e8
  · rw [Array.getElem?_eq_none (by omega), Array.getElem?_eq_none (by simp [operC]; omega)]
end Go.Proofs.Ytlcgjlganmblpaa
namespace Go.Proofs.Ytlcgjlganmblpaa
open Go.ChangeShapes Go.WideShapes Go.ChangeAt Go.RowKit Go.Deep
theorem cut_at {α : Type} (L : List α) (i k : Nat) : L.drop i = (L.drop i).take k ++ L.drop (i + k) := by
  have := List.take_append_drop k (L.drop i)
  rw [List.drop_drop] at this
  exact this.symm
/-- A frame that is handed in. -/
structure GivenF (W : World) (f : Fr.F) (A : Option Addr) (cap : Nat) : Prop where
  lies : Lies W A (pc f.cmd.parts)
  fits : Fr.Fits f
  len : f.cmd.parts.length ≤ maxLen
  nil : A = none → cap = 0
/-- A reply that is handed in. -/
structure GivenP (W : World) (r : Fr.R) (A : Option Addr) (cap : Nat) : Prop where
  lies : Lies W A (rc r.res.rows)
  fit : Fr.RFit r
  rfits : RFits r.res
  len : r.res.rows.length ≤ maxLen
  nil : A = none → cap = 0
theorem frCut (f : Fr.F) (A : Option Addr) (cap : Nat) : (frC f A cap).toList = [.int .u8 (f.kind : Int)] ++ ((tk8 f.tok).toList ++ ((cmdC f.cmd A cap).toList ++ ((operC f.op).toList ++ []))) := by
  simp [frC, tk8, t8, cmdC, operC]
theorem rpCut (r : Fr.R) (A : Option Addr) (cap : Nat) : (rpC r A cap).toList = [.int .u8 (r.kind : Int)] ++ ([.int .u64 (r.ses : Int)] ++ ([.int .u64 (r.seq : Int)] ++ ([.int .u8 (r.lead : Int)] ++ ((resC r.res A cap).toList ++ [])))) := by
  simp [rpC, resC]
set_option maxRecDepth 100000 in
theorem open_frame {H : Type} {enc : TypeId × Value → H} {W : World} {cs : Array Value} {d : DataW H} {ps : List MemPlace} (h : DataW.Trod enc Try.prog W 0 (fun _ => true) true 32 (.agg cs) d ps) :
    ∃ (f : Fr.F) (A : Option Addr) (cap : Nat), cs = frC f A cap ∧ GivenF W f A cap := by
  obtain ⟨fuel, hf0⟩ := h
  obtain ⟨ys, n, _, _, hl, hyl, hf⟩ := DataW.trod_struct Try.underlying32 hf0
  have hC : Try.prog.cellsOf 32 = 37 := by kernel_rfl
  rw [hC] at hl
  have hs : cs.size = 37 := hl
  have hyn : ys.length = 4 := hyl
  obtain ⟨L, hL⟩ : ∃ L, L = cs.toList := ⟨_, rfl⟩
  have hLs : L.length = 37 := by rw [hL, Array.length_toList, hs]
  rw [show (Value.agg cs).cells.toList = L from hL.symm] at hf
  have g0 : DataW.trod enc Try.prog W 0 (fun _ => true) true n 5 ((L.drop 0).take (Try.prog.cellsOf 5)) = ys[0]? := hf 0 _ rfl
  rw [List.getElem?_eq_getElem (by omega), show Try.prog.cellsOf 5 = 1 by kernel_rfl] at g0
  obtain ⟨i0, hc0, _, wf0⟩ := DataW.trod_int (t := 5) Try.underlying5 g0
  obtain ⟨k0, rfl, z0⟩ := u8_nat wf0
  have g1 : DataW.trod enc Try.prog W 0 (fun _ => true) true n 23 ((L.drop 1).take (Try.prog.cellsOf 23)) = ys[1]? := hf 1 _ rfl
  rw [List.getElem?_eq_getElem (by omega), show Try.prog.cellsOf 23 = 8 by kernel_rfl] at g1
  obtain ⟨xs, m, _, _, htl, hxl, hat⟩ := DataW.trod_array Try.underlying23 g1
  have h5 : Try.prog.cellsOf 5 = 1 := by kernel_rfl
  obtain ⟨K, hK⟩ : ∃ K, K = (L.drop 1).take 8 := ⟨_, rfl⟩
  have hKs : K.length = 8 := by rw [hK, List.length_take, List.length_drop]; omega
  rw [← hK] at hat
  have p0 := hat 0 (by omega)
  rw [h5, List.getElem?_eq_getElem (by omega)] at p0
  obtain ⟨u0, hd0, _, uw0⟩ := DataW.trod_int (t := 5) Try.underlying5 p0
  obtain ⟨v0, rfl, y0⟩ := u8_nat uw0
  obtain ⟨a0, rfl⟩ := u8_byte y0
  have t0 : K[0]? = some _ := drop_one hd0
  have p1 := hat 1 (by omega)
  rw [h5, List.getElem?_eq_getElem (by omega)] at p1
  obtain ⟨u1, hd1, _, uw1⟩ := DataW.trod_int (t := 5) Try.underlying5 p1
  obtain ⟨v1, rfl, y1⟩ := u8_nat uw1
  obtain ⟨a1, rfl⟩ := u8_byte y1
  have t1 : K[1]? = some _ := drop_one hd1
  have p2 := hat 2 (by omega)
  rw [h5, List.getElem?_eq_getElem (by omega)] at p2
  obtain ⟨u2, hd2, _, uw2⟩ := DataW.trod_int (t := 5) Try.underlying5 p2
  obtain ⟨v2, rfl, y2⟩ := u8_nat uw2
  obtain ⟨a2, rfl⟩ := u8_byte y2
  have t2 : K[2]? = some _ := drop_one hd2
  have p3 := hat 3 (by omega)
  rw [h5, List.getElem?_eq_getElem (by omega)] at p3
  obtain ⟨u3, hd3, _, uw3⟩ := DataW.trod_int (t := 5) Try.underlying5 p3
  obtain ⟨v3, rfl, y3⟩ := u8_nat uw3
  obtain ⟨a3, rfl⟩ := u8_byte y3
  have t3 : K[3]? = some _ := drop_one hd3
  have p4 := hat 4 (by omega)
  rw [h5, List.getElem?_eq_getElem (by omega)] at p4
  obtain ⟨u4, hd4, _, uw4⟩ := DataW.trod_int (t := 5) Try.underlying5 p4
  obtain ⟨v4, rfl, y4⟩ := u8_nat uw4
  obtain ⟨a4, rfl⟩ := u8_byte y4
  have t4 : K[4]? = some _ := drop_one hd4
  have p5 := hat 5 (by omega)
  rw [h5, List.getElem?_eq_getElem (by omega)] at p5
  obtain ⟨u5, hd5, _, uw5⟩ := DataW.trod_int (t := 5) Try.underlying5 p5
  obtain ⟨v5, rfl, y5⟩ := u8_nat uw5
  obtain ⟨a5, rfl⟩ := u8_byte y5
  have t5 : K[5]? = some _ := drop_one hd5
  have p6 := hat 6 (by omega)
  rw [h5, List.getElem?_eq_getElem (by omega)] at p6
  obtain ⟨u6, hd6, _, uw6⟩ := DataW.trod_int (t := 5) Try.underlying5 p6
  obtain ⟨v6, rfl, y6⟩ := u8_nat uw6
  obtain ⟨a6, rfl⟩ := u8_byte y6
  have t6 : K[6]? = some _ := drop_one hd6
  have p7 := hat 7 (by omega)
  rw [h5, List.getElem?_eq_getElem (by omega)] at p7
  obtain ⟨u7, hd7, _, uw7⟩ := DataW.trod_int (t := 5) Try.underlying5 p7
  obtain ⟨v7, rfl, y7⟩ := u8_nat uw7
  obtain ⟨a7, rfl⟩ := u8_byte y7
  have t7 : K[7]? = some _ := drop_one hd7
  obtain ⟨T, hT⟩ : ∃ T : Og.Tk, T = ⟨a0, a1, a2, a3, a4, a5, a6, a7⟩ := ⟨_, rfl⟩
  have hc1 : (L.drop 1).take 8 = (tk8 T).toList := by
    rw [← hK, hT]
    apply List.ext_getElem?
    intro i
    by_cases hi : i < 8
    · have hall : i = 0 ∨ i = 1 ∨ i = 2 ∨ i = 3 ∨ i = 4 ∨ i = 5 ∨ i = 6 ∨ i = 7 := by omega
      rcases hall with rfl | rfl | rfl | rfl | rfl | rfl | rfl | rfl
      · exact t0
      · exact t1
      · exact t2
      · exact t3
      · exact t4
      · exact t5
      · exact t6
      · exact t7
    · rw [List.getElem?_eq_none (by omega), List.getElem?_eq_none (by simp [tk8, t8]; omega)]
  have g2 : DataW.trod enc Try.prog W 0 (fun _ => true) true n 30 ((L.drop 9).take (Try.prog.cellsOf 30)) = ys[2]? := hf 2 _ rfl
  rw [List.getElem?_eq_getElem (by omega), show Try.prog.cellsOf 30 = 12 by kernel_rfl] at g2
  obtain ⟨c, A, cap, hc2, gv⟩ := open_cmd (cs := ((L.drop 9).take 12).toArray) (d := ys[2].1) (ps := ys[2].2) ⟨n, g2⟩
  replace hc2 := congrArg Array.toList hc2
  rw [List.toList_toArray] at hc2
  have g3 : DataW.trod enc Try.prog W 0 (fun _ => true) true n 26 ((L.drop 21).take (Try.prog.cellsOf 26)) = ys[3]? := hf 3 _ rfl
  rw [List.getElem?_eq_getElem (by omega), show Try.prog.cellsOf 26 = 16 by kernel_rfl] at g3
  obtain ⟨op, hc3, fo⟩ := open_oper (cs := ((L.drop 21).take 16).toArray) (d := ys[3].1) (ps := ys[3].2) ⟨n, g3⟩
  replace hc3 := congrArg Array.toList hc3
  rw [List.toList_toArray] at hc3
  refine ⟨⟨k0, T, c, op⟩, A, cap, ?_, gv.lies, ⟨z0, gv.fits, fo⟩, gv.len, gv.nil⟩
  have e0 : L = L.drop 0 := rfl
  have q0 : L.drop 0 = (L.drop 0).take 1 ++ L.drop 1 := cut_at L 0 1
  have q1 : L.drop 1 = (L.drop 1).take 8 ++ L.drop 9 := cut_at L 1 8
  have q2 : L.drop 9 = (L.drop 9).take 12 ++ L.drop 21 := cut_at L 9 12
  have q3 : L.drop 21 = (L.drop 21).take 16 ++ L.drop 37 := cut_at L 21 16
  have qe : L.drop 37 = [] := List.drop_of_length_le (by omega)
  apply Array.ext'
  rw [← hL, frCut]
  rw [e0, q0, hc0, q1, hc1, q2, hc2, q3, hc3, qe]
set_option maxRecDepth 100000 in
theorem open_reply {H : Type} {enc : TypeId × Value → H} {W : World} {cs : Array Value} {d : DataW H} {ps : List MemPlace} (h : DataW.Trod enc Try.prog W 0 (fun _ => true) true 39 (.agg cs) d ps) :
    ∃ (r : Fr.R) (A : Option Addr) (cap : Nat), cs = rpC r A cap ∧ GivenP W r A cap := by
  obtain ⟨fuel, hf0⟩ := h
  obtain ⟨ys, n, _, _, hl, hyl, hf⟩ := DataW.trod_struct Try.underlying39 hf0
  have hC : Try.prog.cellsOf 39 = 8 := by kernel_rfl
  rw [hC] at hl
  have hs : cs.size = 8 := hl
  have hyn : ys.length = 5 := hyl
  obtain ⟨L, hL⟩ : ∃ L, L = cs.toList := ⟨_, rfl⟩
  have hLs : L.length = 8 := by rw [hL, Array.length_toList, hs]
  rw [show (Value.agg cs).cells.toList = L from hL.symm] at hf
  have g0 : DataW.trod enc Try.prog W 0 (fun _ => true) true n 5 ((L.drop 0).take (Try.prog.cellsOf 5)) = ys[0]? := hf 0 _ rfl
  rw [List.getElem?_eq_getElem (by omega), show Try.prog.cellsOf 5 = 1 by kernel_rfl] at g0
  obtain ⟨i0, hc0, _, wf0⟩ := DataW.trod_int (t := 5) Try.underlying5 g0
  obtain ⟨k0, rfl, z0⟩ := u8_nat wf0
  have g1 : DataW.trod enc Try.prog W 0 (fun _ => true) true n 27 ((L.drop 1).take (Try.prog.cellsOf 27)) = ys[1]? := hf 1 _ rfl
  rw [List.getElem?_eq_getElem (by omega), show Try.prog.cellsOf 27 = 1 by kernel_rfl] at g1
  obtain ⟨i1, hc1, _, wf1⟩ := DataW.trod_int (t := 27) Try.underlying27 g1
  obtain ⟨k1, rfl, z1⟩ := u64_nat wf1
  have g2 : DataW.trod enc Try.prog W 0 (fun _ => true) true n 27 ((L.drop 2).take (Try.prog.cellsOf 27)) = ys[2]? := hf 2 _ rfl
  rw [List.getElem?_eq_getElem (by omega), show Try.prog.cellsOf 27 = 1 by kernel_rfl] at g2
  obtain ⟨i2, hc2, _, wf2⟩ := DataW.trod_int (t := 27) Try.underlying27 g2
  obtain ⟨k2, rfl, z2⟩ := u64_nat wf2
  have g3 : DataW.trod enc Try.prog W 0 (fun _ => true) true n 5 ((L.drop 3).take (Try.prog.cellsOf 5)) = ys[3]? := hf 3 _ rfl
  rw [List.getElem?_eq_getElem (by omega), show Try.prog.cellsOf 5 = 1 by kernel_rfl] at g3
  obtain ⟨i3, hc3, _, wf3⟩ := DataW.trod_int (t := 5) Try.underlying5 g3
  obtain ⟨k3, rfl, z3⟩ := u8_nat wf3
  have g4 : DataW.trod enc Try.prog W 0 (fun _ => true) true n 37 ((L.drop 4).take (Try.prog.cellsOf 37)) = ys[4]? := hf 4 _ rfl
  rw [List.getElem?_eq_getElem (by omega), show Try.prog.cellsOf 37 = 4 by kernel_rfl] at g4
  obtain ⟨c, A, cap, hc4, gv⟩ := open_res (cs := ((L.drop 4).take 4).toArray) (d := ys[4].1) (ps := ys[4].2) ⟨n, g4⟩
  replace hc4 := congrArg Array.toList hc4
  rw [List.toList_toArray] at hc4
  refine ⟨⟨k0, k1, k2, k3, c⟩, A, cap, ?_, gv.lies, ⟨z0, z1, z2, z3⟩, gv.fits, gv.len, gv.nil⟩
  have e0 : L = L.drop 0 := rfl
  have q0 : L.drop 0 = (L.drop 0).take 1 ++ L.drop 1 := cut_at L 0 1
  have q1 : L.drop 1 = (L.drop 1).take 1 ++ L.drop 2 := cut_at L 1 1
  have q2 : L.drop 2 = (L.drop 2).take 1 ++ L.drop 3 := cut_at L 2 1
  have q3 : L.drop 3 = (L.drop 3).take 1 ++ L.drop 4 := cut_at L 3 1
  have q4 : L.drop 4 = (L.drop 4).take 4 ++ L.drop 8 := cut_at L 4 4
  have qe : L.drop 8 = [] := List.drop_of_length_le (by omega)
  apply Array.ext'
  rw [← hL, rpCut]
  rw [e0, q0, hc0, q1, hc1, q2, hc2, q3, hc3, q4, hc4, qe]
end Go.Proofs.Ytlcgjlganmblpaa
