/-
  How arguments are opened: slices of numbers and of strings, as cells that lie in memory.
  Small words for opening arguments.
  How arguments are opened: commands, results. WRITTEN BY wip/tools/gen_open3.py.
-/
import Derived.Test.YtpdahbfjbgcmgaaRows
import Derived.Test.YtpdahbfjbgcmgaaSWords
import Derived.Test.YtpdahbfjbgcmgaaSCmd
import Derived.Test.YtpdahbfjbgcmgaaSRes
import Derived.ProofKit
import Derived.OpenShut
import Derived.ShutString
import Derived.SliceStrings
import Derived.Carry
import Derived.Deep.Fields
set_option linter.unusedSimpArgs false
set_option linter.unusedVariables false
namespace Go.Proofs.Ytpdahbfjbgcmgaa
open Go.ChangeShapes Go.WideShapes Go.ChangeAt Go.RowKit
set_option linter.unusedVariables false

theorem own : ownKnob Try.prog.godebug = none := by kernel_rfl
theorem laidOut : laidOutB Try.prog = true := by kernel_rfl

theorem lies_of {w : World} {x : Addr} {vs : List Value} (hc : ∀ i u, vs[i]? = some u → w.cell? (x.add i) = some u) : Lies w (some x) vs := by
  rcases vs with _ | ⟨v, vs⟩
  · exact .inl rfl
  · obtain ⟨b, off, spot⟩ := x
    have h0 := hc 0 v rfl
    have hspot : spot = none := by simpa [Addr.add] using World.cell?_spot h0
    subst hspot
    refine .inr ⟨b, off, rfl, World.block_lt_of_cell? w ⟨b, off, none⟩ (by simpa [Addr.add] using h0), fun i u hu => ?_⟩
    have := hc i u hu
    have e : (⟨b, off, none⟩ : Addr).add i = ⟨b, off + i, none⟩ := by unfold Addr.add; split <;> simp_all
    rwa [e] at this

theorem u64_nat {n : Int} (h : (Lit.int .u64 n).wf = true) : ∃ k : Nat, n = (k : Int) ∧ k < Nm.top := by
  have hx : 0 ≤ n ∧ n ≤ 18446744073709551615 := by simpa [Lit.wf, IntKind.min, IntKind.max, IntKind.signed, IntKind.bits] using h
  exact ⟨n.toNat, by omega, by unfold Nm.top; omega⟩

theorem open_us {H : Type} {enc : TypeId × Value → H} {W : World} {a : Option Addr} {len cap : Nat} {d : DataW H} {ps : List MemPlace} (h : DataW.Trod enc Try.prog W 0 (fun _ => true) true 104 (.slice a len cap) d ps) :
    ∃ ns : List Nat, len = ns.length ∧ Lies W a (uc ns) ∧ (∀ n ∈ ns, n < Nm.top) ∧ len ≤ maxLen := by
  obtain ⟨fuel, hf⟩ := h
  rcases open_ints Try.underlying104 Try.underlying25 (by kernel_rfl) hf with ⟨hcs, _⟩ | ⟨x, l, c, zs, hcs, _, hl, hm, hz, _, hcell, hwz⟩
  · simp [Value.cells] at hcs
    obtain ⟨rfl, rfl, rfl⟩ := hcs
    exact ⟨[], rfl, .inl rfl, by simp, by simp [maxLen]⟩
  · simp [Value.cells] at hcs
    obtain ⟨rfl, rfl, rfl⟩ := hcs
    simp only [if_true] at hz
    have e : uc ((zs.take len).map Int.toNat) = (zs.take len).map (Value.int .u64) := by
      unfold uc
      rw [List.map_map]
      refine List.map_congr_left fun n hn => ?_
      obtain ⟨k, rfl, _⟩ := u64_nat (hwz n (List.mem_of_mem_take hn))
      simp
    refine ⟨(zs.take len).map Int.toNat, by simp; omega, lies_of fun i u hu => ?_, fun n hn => ?_, by omega⟩
    · rw [e] at hu
      obtain ⟨z, hz1, rfl⟩ : ∃ z, (zs.take len)[i]? = some z ∧ Value.int .u64 z = u := by rw [List.getElem?_map, Option.map_eq_some_iff] at hu; exact hu
      have hi : i < zs.length := by
        have := (List.getElem?_eq_some_iff.1 hz1).1
        simp at this; omega
      rw [hcell i hi]
      have : zs[i]? = some z := by
        rw [List.getElem?_take] at hz1
        split at hz1 <;> simp_all
      simp [List.getD, this]
    · obtain ⟨z, hz1, rfl⟩ := List.mem_map.1 hn
      obtain ⟨k, rfl, hk⟩ := u64_nat (hwz z (List.mem_of_mem_take hz1))
      simpa using hk

theorem open_ss {H : Type} {enc : TypeId × Value → H} {W : World} {a : Option Addr} {len cap : Nat} {d : DataW H} {ps : List MemPlace} (h : DataW.Trod enc Try.prog W 0 (fun _ => true) true 55 (.slice a len cap) d ps) :
    ∃ ss : List ByteArray, len = ss.length ∧ Lies W a (sc ss) ∧ (∀ s ∈ ss, s.size ≤ maxLen) ∧ len ≤ maxLen := by
  obtain ⟨fuel, hf⟩ := h
  rcases open_strings Try.underlying55 Try.underlying9 (by kernel_rfl) hf with ⟨hcs, _⟩ | ⟨x, l, c, zs, hcs, _, hl, hm, hz, _, hcell, hwz⟩
  · simp [Value.cells] at hcs
    obtain ⟨rfl, rfl, rfl⟩ := hcs
    exact ⟨[], rfl, .inl rfl, by simp, by simp [maxLen]⟩
  · simp [Value.cells] at hcs
    obtain ⟨rfl, rfl, rfl⟩ := hcs
    simp only [if_true] at hz
    refine ⟨zs.take len, by simp; omega, lies_of fun i u hu => ?_, fun n hn => hwz n (List.mem_of_mem_take hn), by omega⟩
    obtain ⟨z, hz1, rfl⟩ : ∃ z, (zs.take len)[i]? = some z ∧ Value.string z = u := by unfold sc at hu; rw [List.getElem?_map, Option.map_eq_some_iff] at hu; exact hu
    have hi : i < zs.length := by
      have := (List.getElem?_eq_some_iff.1 hz1).1
      simp at this; omega
    rw [hcell i hi]
    have : zs[i]? = some z := by
      rw [List.getElem?_take] at hz1
      split at hz1 <;> simp_all
    simp [List.getD, this]
end Go.Proofs.Ytpdahbfjbgcmgaa
namespace Go.Proofs.Ytpdahbfjbgcmgaa
open Go.ChangeShapes Go.WideShapes Go.ChangeAt Go.RowKit Go.Deep
set_option linter.unusedVariables false
theorem u8_nat {n : Int} (h : (Lit.int .u8 n).wf = true) : ∃ k : Nat, n = (k : Int) ∧ k < 256 := by
  have := bounds_u8 h
  exact ⟨n.toNat, by omega, by omega⟩
theorem u16_nat {n : Int} (h : (Lit.int .u16 n).wf = true) : ∃ k : Nat, n = (k : Int) ∧ k < 65536 := by
  have := bounds_u16 h
  exact ⟨n.toNat, by omega, by omega⟩
theorem drop_one {L : List Value} {k : Nat} {v : Value} (h : (L.drop k).take 1 = [v]) : L[k]? = some v := by
  have := congrArg (fun l => l[0]?) h
  simpa using this
theorem u8_byte {k : Nat} (h : k < 256) : ∃ a : UInt8, k = a.toNat := ⟨UInt8.ofNat k, by simp; omega⟩
end Go.Proofs.Ytpdahbfjbgcmgaa
namespace Go.Proofs.Ytpdahbfjbgcmgaa
open Go.ChangeShapes Go.WideShapes Go.ChangeAt Go.RowKit Go.Deep
set_option linter.unusedVariables false
/-- The cells of a struct, each of which is a field. -/
theorem struct_cell {H : Type} {enc : TypeId × Value → H} {P : Program} {w : World} {base : Nat} {spare : Nat → Bool} {held : Bool} {t : TypeId} {fs : Array Field} {fuel : Nat} {cs : List Value} {x : DataW H × List MemPlace} (hs : P.underlying t = some (.struct fs)) (hone : oneCellFields P fs = true) (hC : P.cellsOf t = fs.size)
    (h : DataW.trod enc P w base spare held fuel t cs = some x) : cs.length = fs.size ∧ ∃ n, ∀ (j : Nat) (f : Field), fs[j]? = some f → ∃ v y, cs[j]? = some v ∧ DataW.trod enc P w base spare held n f.type [v] = some y := by
  obtain ⟨ys, n, _, _, hl, hyl, hf⟩ := DataW.trod_struct hs h
  rw [hC] at hl
  refine ⟨hl, n, fun j f hj => ?_⟩
  obtain ⟨ho, hk⟩ := hone_of hone j f hj
  have hjl : j < fs.size := (Array.getElem?_eq_some_iff.1 hj).1
  have h1 := hf j f hj
  rw [ho, hk, List.getElem?_eq_getElem (by omega), List.drop_eq_getElem_cons (by omega)] at h1
  exact ⟨_, _, List.getElem?_eq_getElem (by omega), h1⟩
theorem at3 {a : Addr} {i j : Nat} : (a.add (i * 3)).add j = a.add (3 * i + j) := by
  rw [Nat.mul_comm]; exact Go.Deep.add_add a (3 * i) j

theorem open_parts {H : Type} {enc : TypeId × Value → H} {W : World} {fuel : Nat} {v : Value} {x : DataW H × List MemPlace} (h : DataW.trod enc Try.prog W 0 (fun _ => true) true fuel 24 [v] = some x) :
    ∃ (A : Option Addr) (cap : Nat) (ps : List Cm.Part), v = .slice A ps.length cap ∧ Lies W A (pc ps) ∧ (∀ p ∈ ps, p.op < 256 ∧ p.key.size ≤ maxLen ∧ p.val.size ≤ maxLen) ∧ ps.length ≤ maxLen ∧ (A = none → cap = 0) := by
  rcases open_slice Try.underlying24 h with ⟨hcs, _⟩ | ⟨a, len, cap, m, n, D, Pl, hcs, _, hl, hm, hmm, _, hi⟩
  · obtain rfl : v = .slice none 0 0 := by simpa using hcs
    exact ⟨none, 0, [], rfl, .inl rfl, fun p hp => (by cases hp), (by simp [maxLen]), fun _ => rfl⟩
  obtain rfl : v = .slice (some a) len cap := by simpa using hcs
  simp only [if_true] at hmm
  have hC : Try.prog.cellsOf 23 = 3 := by kernel_rfl
  have key : ∀ i, ∃ p : Cm.Part, i < len → (W.cell? (a.add (3 * i)) = some (.int .u8 (p.op : Int)) ∧ W.cell? (a.add (3 * i + 1)) = some (.string p.key) ∧ W.cell? (a.add (3 * i + 2)) = some (.string p.val)) ∧ (p.op < 256 ∧ p.key.size ≤ maxLen ∧ p.val.size ≤ maxLen) := by
    intro i
    by_cases hil : i < len
    case neg => exact ⟨⟨0, Cm.e0, Cm.e0⟩, fun h => absurd h hil⟩
    obtain ⟨cs', hc, ht⟩ := hi i (by omega)
    rw [hC] at hc
    obtain ⟨_, hcl, hat⟩ := World.cells?_some hc
    obtain ⟨_, n', hf⟩ := struct_cell Try.underlying23 (by kernel_rfl) hC ht
    obtain ⟨v0, y0, hv0, ht0⟩ := hf 0 _ rfl
    obtain ⟨v1, y1, hv1, ht1⟩ := hf 1 _ rfl
    obtain ⟨v2, y2, hv2, ht2⟩ := hf 2 _ rfl
    have c0 := (hat 0 (by omega)).trans hv0
    have c1 := (hat 1 (by omega)).trans hv1
    have c2 := (hat 2 (by omega)).trans hv2
    rw [at3] at c0 c1 c2
    obtain ⟨i0, hc0, _, wf0⟩ := DataW.trod_int (t := 5) Try.underlying5 ht0
    obtain ⟨k0, rfl, z0⟩ := u8_nat wf0
    obtain rfl : v0 = .int .u8 (k0 : Int) := by simpa using hc0
    obtain ⟨s1, hc1, _, z1⟩ := DataW.trod_string (t := 9) Try.underlying9 ht1
    obtain rfl : v1 = .string s1 := by simpa using hc1
    obtain ⟨s2, hc2, _, z2⟩ := DataW.trod_string (t := 9) Try.underlying9 ht2
    obtain rfl : v2 = .string s2 := by simpa using hc2
    exact ⟨⟨k0, s1, s2⟩, fun _ => ⟨⟨c0, c1, c2⟩, z0, z1, z2⟩⟩
  obtain ⟨F, hF⟩ := Classical.axiomOfChoice key
  have hlen : ((List.range len).map F).length = len := by simp
  refine ⟨some a, cap, (List.range len).map F, by rw [hlen], lies_of fun i u hu => ?_, fun p hp => ?_, by rw [hlen]; omega, fun e => by cases e⟩
  · have hil : i < 3 * len := by
      have := (List.getElem?_eq_some_iff.1 hu).1
      rw [pc_length, hlen] at this; exact this
    have hk : i / 3 < len := by omega
    obtain ⟨h0, h1, h2⟩ := pc_at ((List.range len).map F) (i / 3) (by rw [hlen]; exact hk)
    have eF : ((List.range len).map F)[i / 3]'(by rw [hlen]; exact hk) = F (i / 3) := by simp
    rw [eF] at h0 h1 h2
    obtain ⟨⟨c0, c1, c2⟩, _⟩ := hF (i / 3) hk
    obtain ⟨q, hq⟩ : ∃ q, i / 3 = q := ⟨_, rfl⟩
    rw [hq] at h0 h1 h2 c0 c1 c2
    have hmod : i = 3 * q ∨ i = 3 * q + 1 ∨ i = 3 * q + 2 := by omega
    rcases hmod with hr | hr | hr
    · subst hr
      exact c0.trans (h0.symm.trans hu)
    · subst hr
      exact c1.trans (h1.symm.trans hu)
    · subst hr
      exact c2.trans (h2.symm.trans hu)
  · obtain ⟨i, hi, rfl⟩ := List.mem_map.1 hp
    exact (hF i (List.mem_range.1 hi)).2

theorem open_rows {H : Type} {enc : TypeId × Value → H} {W : World} {fuel : Nat} {v : Value} {x : DataW H × List MemPlace} (h : DataW.trod enc Try.prog W 0 (fun _ => true) true fuel 40 [v] = some x) :
    ∃ (A : Option Addr) (cap : Nat) (ps : List Rs.Row), v = .slice A ps.length cap ∧ Lies W A (rc ps) ∧ (∀ p ∈ ps, p.ver < Nm.top ∧ p.key.size ≤ maxLen ∧ p.val.size ≤ maxLen) ∧ ps.length ≤ maxLen ∧ (A = none → cap = 0) := by
  rcases open_slice Try.underlying40 h with ⟨hcs, _⟩ | ⟨a, len, cap, m, n, D, Pl, hcs, _, hl, hm, hmm, _, hi⟩
  · obtain rfl : v = .slice none 0 0 := by simpa using hcs
    exact ⟨none, 0, [], rfl, .inl rfl, fun p hp => (by cases hp), (by simp [maxLen]), fun _ => rfl⟩
  obtain rfl : v = .slice (some a) len cap := by simpa using hcs
  simp only [if_true] at hmm
  have hC : Try.prog.cellsOf 89 = 3 := by kernel_rfl
  have key : ∀ i, ∃ p : Rs.Row, i < len → (W.cell? (a.add (3 * i)) = some (.string p.key) ∧ W.cell? (a.add (3 * i + 1)) = some (.string p.val) ∧ W.cell? (a.add (3 * i + 2)) = some (.int .u64 (p.ver : Int))) ∧ (p.ver < Nm.top ∧ p.key.size ≤ maxLen ∧ p.val.size ≤ maxLen) := by
    intro i
    by_cases hil : i < len
    case neg => exact ⟨⟨Cm.e0, Cm.e0, 0⟩, fun h => absurd h hil⟩
    obtain ⟨cs', hc, ht⟩ := hi i (by omega)
    rw [hC] at hc
    obtain ⟨_, hcl, hat⟩ := World.cells?_some hc
    obtain ⟨_, n', hf⟩ := struct_cell Try.underlying89 (by kernel_rfl) hC ht
    obtain ⟨v0, y0, hv0, ht0⟩ := hf 0 _ rfl
    obtain ⟨v1, y1, hv1, ht1⟩ := hf 1 _ rfl
    obtain ⟨v2, y2, hv2, ht2⟩ := hf 2 _ rfl
    have c0 := (hat 0 (by omega)).trans hv0
    have c1 := (hat 1 (by omega)).trans hv1
    have c2 := (hat 2 (by omega)).trans hv2
    rw [at3] at c0 c1 c2
    obtain ⟨s0, hc0, _, z0⟩ := DataW.trod_string (t := 9) Try.underlying9 ht0
    obtain rfl : v0 = .string s0 := by simpa using hc0
    obtain ⟨s1, hc1, _, z1⟩ := DataW.trod_string (t := 9) Try.underlying9 ht1
    obtain rfl : v1 = .string s1 := by simpa using hc1
    obtain ⟨i2, hc2, _, wf2⟩ := DataW.trod_int (t := 25) Try.underlying25 ht2
    obtain ⟨k2, rfl, z2⟩ := u64_nat wf2
    obtain rfl : v2 = .int .u64 (k2 : Int) := by simpa using hc2
    exact ⟨⟨s0, s1, k2⟩, fun _ => ⟨⟨c0, c1, c2⟩, z2, z0, z1⟩⟩
  obtain ⟨F, hF⟩ := Classical.axiomOfChoice key
  have hlen : ((List.range len).map F).length = len := by simp
  refine ⟨some a, cap, (List.range len).map F, by rw [hlen], lies_of fun i u hu => ?_, fun p hp => ?_, by rw [hlen]; omega, fun e => by cases e⟩
  · have hil : i < 3 * len := by
      have := (List.getElem?_eq_some_iff.1 hu).1
      rw [rc_length, hlen] at this; exact this
    have hk : i / 3 < len := by omega
    obtain ⟨h0, h1, h2⟩ := rc_at ((List.range len).map F) (i / 3) (by rw [hlen]; exact hk)
    have eF : ((List.range len).map F)[i / 3]'(by rw [hlen]; exact hk) = F (i / 3) := by simp
    rw [eF] at h0 h1 h2
    obtain ⟨⟨c0, c1, c2⟩, _⟩ := hF (i / 3) hk
    obtain ⟨q, hq⟩ : ∃ q, i / 3 = q := ⟨_, rfl⟩
    rw [hq] at h0 h1 h2 c0 c1 c2
    have hmod : i = 3 * q ∨ i = 3 * q + 1 ∨ i = 3 * q + 2 := by omega
    rcases hmod with hr | hr | hr
    · subst hr
      exact c0.trans (h0.symm.trans hu)
    · subst hr
      exact c1.trans (h1.symm.trans hu)
    · subst hr
      exact c2.trans (h2.symm.trans hu)
  · obtain ⟨i, hi, rfl⟩ := List.mem_map.1 hp
    exact (hF i (List.mem_range.1 hi)).2

/-- A command that is handed in. -/
structure Given (W : World) (c : Cm.Cmd) (A : Option Addr) (cap : Nat) : Prop where
  lies : Lies W A (pc c.parts)
  fits : Cm.Fits c
  key : c.key.size ≤ maxLen
  val : c.val.size ≤ maxLen
  exp : c.exp.size ≤ maxLen
  frm : c.frm.size ≤ maxLen
  tto : c.tto.size ≤ maxLen
  len : c.parts.length ≤ maxLen
  parts : ∀ p ∈ c.parts, p.key.size ≤ maxLen ∧ p.val.size ≤ maxLen
  nil : A = none → cap = 0
theorem open_cmd {H : Type} {enc : TypeId × Value → H} {W : World} {cs : Array Value} {d : DataW H} {ps : List MemPlace} (h : DataW.Trod enc Try.prog W 0 (fun _ => true) true 27 (.agg cs) d ps) :
    ∃ (c : Cm.Cmd) (A : Option Addr) (cap : Nat), cs = cmdC c A cap ∧ Given W c A cap := by
  obtain ⟨fuel, hf0⟩ := h
  obtain ⟨hl, n, hf⟩ := struct_cell Try.underlying27 (by kernel_rfl) (by kernel_rfl) hf0
  obtain ⟨v0, y0, hv0, ht0⟩ := hf 0 _ rfl
  obtain ⟨i0, hc0, _, wf0⟩ := DataW.trod_int (t := 5) Try.underlying5 ht0
  obtain ⟨k0, rfl, z0⟩ := u8_nat wf0
  obtain rfl : v0 = .int .u8 (k0 : Int) := by simpa using hc0
  obtain ⟨v1, y1, hv1, ht1⟩ := hf 1 _ rfl
  obtain ⟨i1, hc1, _, wf1⟩ := DataW.trod_int (t := 25) Try.underlying25 ht1
  obtain ⟨k1, rfl, z1⟩ := u64_nat wf1
  obtain rfl : v1 = .int .u64 (k1 : Int) := by simpa using hc1
  obtain ⟨v2, y2, hv2, ht2⟩ := hf 2 _ rfl
  obtain ⟨i2, hc2, _, wf2⟩ := DataW.trod_int (t := 25) Try.underlying25 ht2
  obtain ⟨k2, rfl, z2⟩ := u64_nat wf2
  obtain rfl : v2 = .int .u64 (k2 : Int) := by simpa using hc2
  obtain ⟨v3, y3, hv3, ht3⟩ := hf 3 _ rfl
  obtain ⟨s3, hc3, _, z3⟩ := DataW.trod_string (t := 9) Try.underlying9 ht3
  obtain rfl : v3 = .string s3 := by simpa using hc3
  obtain ⟨v4, y4, hv4, ht4⟩ := hf 4 _ rfl
  obtain ⟨s4, hc4, _, z4⟩ := DataW.trod_string (t := 9) Try.underlying9 ht4
  obtain rfl : v4 = .string s4 := by simpa using hc4
  obtain ⟨v5, y5, hv5, ht5⟩ := hf 5 _ rfl
  obtain ⟨s5, hc5, _, z5⟩ := DataW.trod_string (t := 9) Try.underlying9 ht5
  obtain rfl : v5 = .string s5 := by simpa using hc5
  obtain ⟨v6, y6, hv6, ht6⟩ := hf 6 _ rfl
  obtain ⟨s6, hc6, _, z6⟩ := DataW.trod_string (t := 9) Try.underlying9 ht6
  obtain rfl : v6 = .string s6 := by simpa using hc6
  obtain ⟨v7, y7, hv7, ht7⟩ := hf 7 _ rfl
  obtain ⟨s7, hc7, _, z7⟩ := DataW.trod_string (t := 9) Try.underlying9 ht7
  obtain rfl : v7 = .string s7 := by simpa using hc7
  obtain ⟨v8, y8, hv8, ht8⟩ := hf 8 _ rfl
  obtain ⟨i8, hc8, _, wf8⟩ := DataW.trod_int (t := 5) Try.underlying5 ht8
  obtain ⟨k8, rfl, z8⟩ := u8_nat wf8
  obtain rfl : v8 = .int .u8 (k8 : Int) := by simpa using hc8
  obtain ⟨v9, y9, hv9, ht9⟩ := hf 9 _ rfl
  obtain ⟨i9, hc9, _, wf9⟩ := DataW.trod_int (t := 25) Try.underlying25 ht9
  obtain ⟨k9, rfl, z9⟩ := u64_nat wf9
  obtain rfl : v9 = .int .u64 (k9 : Int) := by simpa using hc9
  obtain ⟨v10, y10, hv10, ht10⟩ := hf 10 _ rfl
  obtain ⟨i10, hc10, _, wf10⟩ := DataW.trod_int (t := 25) Try.underlying25 ht10
  obtain ⟨k10, rfl, z10⟩ := u64_nat wf10
  obtain rfl : v10 = .int .u64 (k10 : Int) := by simpa using hc10
  obtain ⟨v11, y11, hv11, ht11⟩ := hf 11 _ rfl
  obtain ⟨A, cap, qs, rfl, hL, hq, hn, hnil⟩ := open_parts ht11
  refine ⟨⟨k0, k1, k2, s3, s4, s5, s6, s7, k8, k9, k10, qs⟩, A, cap, ?_, hL, ⟨z0, z1, z2, z8, z9, z10, fun p hp => (hq p hp).1⟩, z3, z4, z5, z6, z7, hn, fun p hp => (hq p hp).2, hnil⟩
  have hs : cs.size = 12 := hl
  apply Array.ext_getElem?
  intro i
  by_cases hi : i < 12
  · have hall : i = 0 ∨ i = 1 ∨ i = 2 ∨ i = 3 ∨ i = 4 ∨ i = 5 ∨ i = 6 ∨ i = 7 ∨ i = 8 ∨ i = 9 ∨ i = 10 ∨ i = 11 := by omega
    have key : ∀ j v, (Value.agg cs).cells.toList[j]? = some v → cs[j]? = some v := fun j v hv => by rw [← Array.getElem?_toList]; exact hv
    rcases hall with rfl | rfl | rfl | rfl | rfl | rfl | rfl | rfl | rfl | rfl | rfl | rfl
    · exact key _ _ hv0
    · exact key _ _ hv1
    · exact key _ _ hv2
    · exact key _ _ hv3
    · exact key _ _ hv4
    · exact key _ _ hv5
    · exact key _ _ hv6
    · exact key _ _ hv7
    · exact key _ _ hv8
    · exact key _ _ hv9
    · exact key _ _ hv10
    · exact key _ _ hv11
  · rw [Array.getElem?_eq_none (by omega), Array.getElem?_eq_none (by simp [cmdC]; omega)]

/-- A result that is handed in. -/
structure GivenR (W : World) (r : Rs.Res) (A : Option Addr) (cap : Nat) : Prop where
  lies : Lies W A (rc r.rows)
  fits : RFits r
  val : r.val.size ≤ maxLen
  len : r.rows.length ≤ maxLen
  rows : ∀ p ∈ r.rows, p.key.size ≤ maxLen ∧ p.val.size ≤ maxLen
  nil : A = none → cap = 0
theorem open_res {H : Type} {enc : TypeId × Value → H} {W : World} {cs : Array Value} {d : DataW H} {ps : List MemPlace} (h : DataW.Trod enc Try.prog W 0 (fun _ => true) true 42 (.agg cs) d ps) :
    ∃ (r : Rs.Res) (A : Option Addr) (cap : Nat), cs = resC r A cap ∧ GivenR W r A cap := by
  obtain ⟨fuel, hf0⟩ := h
  obtain ⟨hl, n, hf⟩ := struct_cell Try.underlying42 (by kernel_rfl) (by kernel_rfl) hf0
  obtain ⟨v0, y0, hv0, ht0⟩ := hf 0 _ rfl
  obtain ⟨i0, hc0, _, wf0⟩ := DataW.trod_int (t := 5) Try.underlying5 ht0
  obtain ⟨k0, rfl, z0⟩ := u8_nat wf0
  obtain rfl : v0 = .int .u8 (k0 : Int) := by simpa using hc0
  obtain ⟨v1, y1, hv1, ht1⟩ := hf 1 _ rfl
  obtain ⟨i1, hc1, _, wf1⟩ := DataW.trod_int (t := 25) Try.underlying25 ht1
  obtain ⟨k1, rfl, z1⟩ := u64_nat wf1
  obtain rfl : v1 = .int .u64 (k1 : Int) := by simpa using hc1
  obtain ⟨v2, y2, hv2, ht2⟩ := hf 2 _ rfl
  obtain ⟨s2, hc2, _, z2⟩ := DataW.trod_string (t := 9) Try.underlying9 ht2
  obtain rfl : v2 = .string s2 := by simpa using hc2
  obtain ⟨v3, y3, hv3, ht3⟩ := hf 3 _ rfl
  obtain ⟨A, cap, qs, rfl, hL, hq, hn, hnil⟩ := open_rows ht3
  refine ⟨⟨k0, k1, s2, qs⟩, A, cap, ?_, hL, ⟨z0, z1, fun p hp => (hq p hp).1⟩, z2, hn, fun p hp => (hq p hp).2, hnil⟩
  have hs : cs.size = 4 := hl
  apply Array.ext_getElem?
  intro i
  by_cases hi : i < 4
  · have hall : i = 0 ∨ i = 1 ∨ i = 2 ∨ i = 3 := by omega
    have key : ∀ j v, (Value.agg cs).cells.toList[j]? = some v → cs[j]? = some v := fun j v hv => by rw [← Array.getElem?_toList]; exact hv
    rcases hall with rfl | rfl | rfl | rfl
    · exact key _ _ hv0
    · exact key _ _ hv1
    · exact key _ _ hv2
    · exact key _ _ hv3
  · rw [Array.getElem?_eq_none (by omega), Array.getElem?_eq_none (by simp [resC]; omega)]
end Go.Proofs.Ytpdahbfjbgcmgaa
