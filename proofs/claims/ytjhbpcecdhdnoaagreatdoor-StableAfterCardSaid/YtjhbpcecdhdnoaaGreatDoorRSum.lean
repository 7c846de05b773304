/-
  The plain mathematics of layer 2 (sum): the reflected division by 0x82f63b78, bit by bit and byte by byte; that it is linear and loses nothing; texts that differ in at most four bytes side by side. No program is named here.
  Small words for the walks of layer 2: the table as an array of cells.
  The document's sums, bit by bit: plain mathematics.
  sum.Make walked.
  sum.Table's Of walked, with whatever table; and what the two functions of layer 2 do, together.
  (*sum.Table).Of walked, of a table that lies inside a greater struct.
-/
import Derived.Test.YtjhbpcecdhdnoaaGreatDoorRWords
import Derived.Deep.WholeRow
set_option linter.unusedSimpArgs false
set_option linter.unusedVariables false
namespace Go.Proofs.YtjhbpcecdhdnoaaGreatDoor
namespace Cr

def poly : Nat := 2197175160

def bit (r : Nat) : Nat := if r % 2 = 1 then (r / 2) ^^^ poly else r / 2
def bits : Nat → Nat → Nat
  | 0, r => r
  | k + 1, r => bits k (bit r)
def byte (r : Nat) (c : UInt8) : Nat := bits 8 (r ^^^ c.toNat)
def run (r : Nat) (l : List UInt8) : Nat := l.foldl byte r
def ones : Nat := 4294967295
def crc (l : List UInt8) : Nat := run ones l ^^^ ones
def tab (c : Nat) : Nat := bits 8 c

theorem xor_mod (a b : Nat) : (a ^^^ b) % 2 = (a % 2 + b % 2) % 2 := by
  have h : (a ^^^ b) % 2 ^ 1 = (a % 2 ^ 1) ^^^ (b % 2 ^ 1) := Nat.xor_mod_two_pow
  rw [Nat.pow_one] at h
  rw [h]
  rcases Nat.mod_two_eq_zero_or_one a with ha | ha <;> rcases Nat.mod_two_eq_zero_or_one b with hb | hb <;> rw [ha, hb] <;> rfl
theorem xor_div (a b : Nat) : (a ^^^ b) / 2 = (a / 2) ^^^ (b / 2) := by
  apply Nat.eq_of_testBit_eq
  intro i
  simp only [Nat.testBit_div_two, Nat.testBit_xor]

theorem bit_xor (a b : Nat) : bit (a ^^^ b) = bit a ^^^ bit b := by
  have hm := xor_mod a b
  unfold bit
  rw [xor_div]
  rcases Nat.mod_two_eq_zero_or_one a with ha | ha <;> rcases Nat.mod_two_eq_zero_or_one b with hb | hb <;> rw [ha, hb] at hm <;> simp only [ha, hb, hm]
  · simp
  · simp [Nat.xor_assoc]
  · simp only [if_true, if_false, Nat.zero_ne_one]
    rw [Nat.xor_assoc, Nat.xor_comm (b / 2) poly, ← Nat.xor_assoc]
  · have e : a / 2 ^^^ poly ^^^ (b / 2 ^^^ poly) = a / 2 ^^^ b / 2 := by
      rw [Nat.xor_comm (b / 2) poly, ← Nat.xor_assoc, Nat.xor_assoc (a / 2) poly poly, Nat.xor_self, Nat.xor_zero]
    simp [e]
theorem bits_xor : ∀ (k a b : Nat), bits k (a ^^^ b) = bits k a ^^^ bits k b
  | 0, _, _ => rfl
  | k + 1, a, b => by rw [bits, bits, bits, bit_xor, bits_xor k]

theorem bit_lt {r : Nat} (h : r < 4294967296) : bit r < 4294967296 := by
  unfold bit
  split
  · exact Nat.xor_lt_two_pow (n := 32) (by omega) (by unfold poly; omega)
  · omega
theorem bits_lt : ∀ (k : Nat) {r : Nat}, r < 4294967296 → bits k r < 4294967296
  | 0, _, h => h
  | k + 1, _, h => bits_lt k (bit_lt h)

theorem byte_lt {r : Nat} (h : r < 4294967296) (c : UInt8) : byte r c < 4294967296 :=
  bits_lt 8 (Nat.xor_lt_two_pow (n := 32) h (by have := c.toNat_lt; omega))
theorem run_lt : ∀ (l : List UInt8) {r : Nat}, r < 4294967296 → run r l < 4294967296
  | [], _, h => h
  | c :: l, _, h => run_lt l (byte_lt h c)
theorem bit_shift (y k : Nat) : bit (y * 2 ^ (k + 1)) = y * 2 ^ k := by
  have e : y * 2 ^ (k + 1) = 2 * (y * 2 ^ k) := by rw [Nat.pow_succ, ← Nat.mul_assoc, Nat.mul_comm]
  unfold bit
  rw [e, if_neg (by omega)]; omega
theorem bits_shift : ∀ (k m y : Nat), bits k (y * 2 ^ (k + m)) = y * 2 ^ m
  | 0, m, y => by simp [bits]
  | k + 1, m, y => by rw [bits, show k + 1 + m = (k + m) + 1 by omega, bit_shift, bits_shift k m y]
theorem bits_add : ∀ (j k r : Nat), bits (j + k) r = bits k (bits j r)
  | 0, k, r => by simp [bits]
  | j + 1, k, r => by rw [show j + 1 + k = (j + k) + 1 by omega, bits, bits, bits_add j k]

def word : List UInt8 → Nat
  | [] => 0
  | c :: l => c.toNat ^^^ (word l * 256)
theorem byte_tab (r : Nat) (c : UInt8) : byte r c = tab ((r ^^^ c.toNat) % 256) ^^^ (r / 256) := by
  have hc := c.toNat_lt
  have hdiv : (r ^^^ c.toNat) / 256 = r / 256 := by
    have : (r ^^^ c.toNat) / 2 ^ 8 = (r / 2 ^ 8) ^^^ (c.toNat / 2 ^ 8) := Nat.xor_div_two_pow
    rw [show (2 : Nat) ^ 8 = 256 from rfl] at this
    rw [this, Nat.div_eq_of_lt hc, Nat.xor_zero]
  have hj : r ^^^ c.toNat = ((r ^^^ c.toNat) % 256) ^^^ ((r / 256) * 256) := by
    apply Nat.eq_of_testBit_eq
    intro i
    have h1 : ((r ^^^ c.toNat) % 2 ^ 8).testBit i = (decide (i < 8) && (r ^^^ c.toNat).testBit i) := Nat.testBit_mod_two_pow _ _ _
    have h2 : ((r / 256) * 2 ^ 8).testBit i = (decide (8 ≤ i) && (r / 256).testBit (i - 8)) := by
      rw [← Nat.shiftLeft_eq, Nat.testBit_shiftLeft]
    rw [show (2 : Nat) ^ 8 = 256 from rfl] at h1 h2
    rw [Nat.testBit_xor (x := (r ^^^ c.toNat) % 256), h1, h2, ← hdiv]
    have h3 : ((r ^^^ c.toNat) / 2 ^ 8).testBit (i - 8) = (r ^^^ c.toNat).testBit (i - 8 + 8) := by rw [Nat.testBit_div_two_pow]
    rw [show (2 : Nat) ^ 8 = 256 from rfl] at h3
    rw [h3]
    by_cases h : i < 8
    · have : ¬ 8 ≤ i := by omega
      simp [h, this]
    · have h8 : 8 ≤ i := by omega
      rw [show i - 8 + 8 = i by omega]
      simp [h, h8]
  have hs := bits_shift 8 0 (r / 256)
  simp only [Nat.add_zero, Nat.pow_zero, Nat.mul_one] at hs
  rw [show (2 : Nat) ^ 8 = 256 from rfl] at hs
  unfold byte tab
  generalize (r ^^^ c.toNat) % 256 = x at hj ⊢
  rw [hj, bits_xor, hs]

theorem crc_lt (l : List UInt8) : crc l < 4294967296 := Nat.xor_lt_two_pow (n := 32) (run_lt l (by unfold ones; omega)) (by unfold ones; omega)

end Cr
end Go.Proofs.YtjhbpcecdhdnoaaGreatDoor
namespace Go.Proofs.YtjhbpcecdhdnoaaGreatDoor
open Go.RowKit

def zerosA : Array Value := Array.replicate 256 (.int .u32 0)
def tabOf (f : Nat → Nat) : Array Value := ((List.range 256).map fun i => Value.int .u32 ((f i : Nat) : Int)).toArray
def tabA : Array Value := tabOf Cr.tab
theorem tabOf_size (f : Nat → Nat) : (tabOf f).size = 256 := by simp [tabOf]
theorem tabOf_at (f : Nat → Nat) (i : Nat) (h : i < 256) : (tabOf f)[i]? = some (.int .u32 ((f i : Nat) : Int)) := by
  unfold tabOf
  rw [List.getElem?_toArray, List.getElem?_map, List.getElem?_range h]; rfl
theorem tabOf_one (f : Nat → Nat) : (tabOf f).all (·.oneCell') = true := by
  rw [Array.all_eq_true]
  intro i hi
  have h : i < 256 := by rw [tabOf_size] at hi; exact hi
  have := tabOf_at f i h
  rw [Array.getElem?_eq_getElem hi] at this
  injection this with this
  rw [this]; rfl
theorem tabA_at (i : Nat) (h : i < 256) : tabA[i]? = some (.int .u32 ((Cr.tab i : Nat) : Int)) := tabOf_at _ i h

theorem Tryz.infoTable : (Tryz.prog.info? 27).map (fun i => (i.zero, i.size)) = some (some (.agg zerosA), 256) := by kernel_rfl
theorem zeroTable (w : World) : (zeroValue 27).run Tryz.prog w = .ok (.agg zerosA) w := (zero_of_info Tryz.infoTable).1 w
theorem sizeTable : (Tryz.prog.info? 27).map (·.size) = some 256 := (zero_of_info Tryz.infoTable).2
theorem zeros_size : zerosA.size = 256 := by simp [zerosA]
theorem storeTable (f : Nat → Nat) (w : World) : (storeCells ⟨w.heap.size, 0, none⟩ (tabOf f).toList 0).run Tryz.prog (w.alloc (.cells zerosA 27)) = .ok () (w.alloc (.cells (tabOf f) 27)) :=
  run_storeCells_new (P := Tryz.prog) w 27 zerosA (tabOf f) (by rw [tabOf_size]; exact sizeTable) (by rw [zeros_size, tabOf_size]) (tabOf_one f)
theorem storeTabA (w : World) : (storeCells ⟨w.heap.size, 0, none⟩ tabA.toList 0).run Tryz.prog (w.alloc (.cells zerosA 27)) = .ok () (w.alloc (.cells tabA 27)) := storeTable Cr.tab w

theorem tabA_size : tabA.size = 256 := tabOf_size _
theorem tabA_one : tabA.all (·.oneCell') = true := tabOf_one _
attribute [irreducible] tabA zerosA tabOf

def crcs (ss : List ByteArray) : Nat := Cr.crc (ss.map fun s => s.data.toList).flatten
def TabAt (w : World) (g : Nat) : Prop := w.heap[g]? = some (.cells tabA 27 (0, 0))
theorem TabAt.lt {w : World} {g : Nat} (h : TabAt w g) : g < w.heap.size := (Array.getElem?_eq_some_iff.1 h).1
theorem TabAt.below {w w' : World} {g : Nat} (h : TabAt w g) (hb : Below w.heap.size w w') : TabAt w' g := (hb.block g h.lt).trans h
theorem TabAt.drewN {w : World} {g : Nat} (h : TabAt w g) (n : Nat) : TabAt (w.drewN n) g := h
theorem TabAt.new (w : World) : TabAt (w.alloc (.cells tabA 27)) w.heap.size := heap_alloc_new w _
theorem TabAt.cell {w : World} {g : Nat} (h : TabAt w g) (i : Nat) (hi : i < 256) : w.cell? ⟨g, i, none⟩ = some (.int .u32 ((Cr.tab i : Nat) : Int)) := by
  rw [cell_of_row w g i _ _ _ h, tabA_at i hi]

structure SumSays : Prop where
  make : ∀ w, Calls Tryz.prog 12 #[] w fun e w' => e = .returned (.agg tabA) ∧ Below w.heap.size w w'
  of_ : ∀ (w : World) (g : Nat) (A : Option Addr) (cap : Nat) (ss : List ByteArray), TabAt w g → Lies w A (sc ss) → ss.length ≤ 1000000 → (∀ s ∈ ss, s.size ≤ 1000000000) →
    Calls Tryz.prog 150 #[.pointer (some ⟨g, 0, none⟩), .slice A ss.length cap] w fun e w' => e = .returned (.int .u32 ((crcs ss : Nat) : Int)) ∧ Below w.heap.size w w'
  any_ : ∀ (w : World) (g : Nat) (cs : Array Value) (A : Option Addr) (cap : Nat) (ss : List ByteArray), w.heap[g]? = some (.cells cs 27 (0, 0)) → (∀ i, i < 256 → ∃ n : Nat, n < 4294967296 ∧ cs[i]? = some (.int .u32 (n : Int))) → Lies w A (sc ss) → ss.length ≤ 1000000 → (∀ s ∈ ss, s.size ≤ 1000000000) →
    Calls Tryz.prog 150 #[.pointer (some ⟨g, 0, none⟩), .slice A ss.length cap] w fun e w' => (∃ x : Int, e = .returned (.int .u32 x)) ∧ Below w.heap.size w w'
  nil_ : ∀ (w : World) (A : Option Addr) (n cap : Nat), Calls Tryz.prog 150 #[.pointer none, .slice A n cap] w fun e w' => e = .returned (.int .u32 0) ∧ Below w.heap.size w w'
end Go.Proofs.YtjhbpcecdhdnoaaGreatDoor
namespace Go.Proofs.YtjhbpcecdhdnoaaGreatDoor
open Go.RowKit

theorem bits_next (k r : Nat) : Cr.bits (k + 1) r = Cr.bit (Cr.bits k r) := by rw [Cr.bits_add k 1 r]; rfl
theorem xorHalf (r : Nat) (h : r < 4294967296) : bits .xor .u32 ((r : Int) / 2) 2197175160 = ((r / 2 ^^^ Cr.poly : Nat) : Int) := by
  have e : (r : Int) / 2 = ((r / 2 : Nat) : Int) := by omega
  rw [e]
  exact u32_xor_nat (r / 2) 2197175160 (by omega) (by decide)
theorem bit_odd (r : Nat) (h : r % 2 = 1) : Cr.bit r = r / 2 ^^^ Cr.poly := by unfold Cr.bit; rw [if_pos h]
theorem bit_even (r : Nat) (h : ¬ r % 2 = 1) : Cr.bit r = r / 2 := by unfold Cr.bit; rw [if_neg h]

end Go.Proofs.YtjhbpcecdhdnoaaGreatDoor
namespace Go.Proofs.YtjhbpcecdhdnoaaGreatDoor
open Go.RowKit

def Filled (w : World) (g k : Nat) : Prop := ∃ cur : Array Value, w.heap[g]? = some (.cells cur 27 (0, 0)) ∧ cur.size = 256 ∧ ∀ j, j < k → cur[j]? = some (.int .u32 ((Cr.tab j : Nat) : Int))
theorem Filled.step {w : World} {g k : Nat} (h : Filled w g k) (hk : k < 256) : Filled (w.setCell ⟨g, k, none⟩ (.int .u32 ((Cr.tab k : Nat) : Int))) g (k + 1) := by
  obtain ⟨cur, hg, hs, hc⟩ := h
  refine ⟨cur.setIfInBounds k (.int .u32 ((Cr.tab k : Nat) : Int)), heap_setCell_same w g k cur _ _ hg, by simpa using hs, fun j hj => ?_⟩
  by_cases e : j = k
  · subst e; simp [hs, hk]
  · rw [Array.getElem?_setIfInBounds_ne (fun h => e h.symm)]; exact hc j (by omega)
theorem Filled.cell {w : World} {g k : Nat} (h : Filled w g k) (j : Nat) (hj : j < 256) : ∃ u, w.cell? ⟨g, j, none⟩ = some u := by
  obtain ⟨cur, hg, hs, _⟩ := h
  exact ⟨cur[j], by rw [cell_of_row w g j cur _ _ hg, Array.getElem?_eq_getElem]⟩
theorem Filled.free {w : World} {g k : Nat} (h : Filled w g k) (j : Nat) : w.frozen? ⟨g, j, none⟩ = false := by
  obtain ⟨cur, hg, _⟩ := h
  exact frozen_of_row w g j cur _ hg
theorem Filled.all {w : World} {g : Nat} (h : Filled w g 256) : TabAt w g := by
  obtain ⟨cur, hg, hs, hc⟩ := h
  have e : cur = tabA := by
    apply Array.ext_getElem?
    intro j
    by_cases hj : j < 256
    · rw [hc j hj, tabA_at j hj]
    · rw [Array.getElem?_eq_none (by omega), Array.getElem?_eq_none (by rw [tabA_size]; omega)]
  rw [e] at hg
  exact hg
theorem storeTabAt (w : World) (g : Nat) (cur : Array Value) (hg : w.heap[g]? = some (.cells cur 27 (0, 0))) (hs : cur.size = 256) :
    (storeCells ⟨g, 0, none⟩ tabA.toList 0).run Tryz.prog w = .ok () (w.setRow g tabA) := by
  have := run_storeVar_row (P := Tryz.prog) w g 27 27 cur tabA hg (by rw [tabA_size]; exact sizeTable) (by rw [hs, tabA_size]) tabA_one
  cases hq : Tryz.prog.info? 27 with
  | none => have := sizeTable; rw [hq] at this; cases this
  | some i =>
    have hsz : tabA.size = i.size := by have := sizeTable; rw [hq] at this; rw [tabA_size]; simpa using this.symm
    simpa [storeVar, sizeOf, typeInfo, hq, Value.cells, hsz] using this

theorem and1 (x : Nat) (h : x < 4294967296) : bits .and .u32 (x : Int) 1 = ((x % 2 : Nat) : Int) := by
  have := u32_and_nat x 1 h (by omega)
  rw [nat_mask1] at this
  exact this

set_option maxHeartbeats 2000000 in
set_option maxRecDepth 100000 in
theorem shifted_any (k : Nat) (hk : k < 256) (w : World) : Calls Tryz.prog 52 #[.int .u32 (k : Int)] w fun e w' => e = .returned (.int .u32 ((Cr.tab k : Nat) : Int)) ∧ w' = w := by
  go_enter Tryz.func52, Tryz.ntmps52
  go_wp2
  go_loop [0, 3, 4] (fun r _ q => ∃ (j x : Nat), j ≤ 8 ∧ q = .int .i64 (j : Int) ∧ r = .int .u32 (x : Int) ∧ x = Cr.bits j k) (fun _ _ q => 8 - (intOf q).toNat)
  case atStart => exact ⟨0, k, by omega, rfl, rfl, rfl⟩
  case round =>
    obtain ⟨j, x, hj, rfl, rfl, hx⟩ := hrel
    have hxl : x < 4294967296 := by rw [hx]; exact Cr.bits_lt j (by omega)
    have Hx := Lib.hid hx
    clear hx
    by_cases h8 : j < 8
    · have ha := and1 x hxl
      have Hxor := Lib.hid (xorHalf x hxl)
      by_cases h1 : x % 2 = 1
      · have d : (bits .and .u32 (x : Int) 1 == 1) = true := by rw [ha, h1]; rfl
        have Ho := Lib.hid (bit_odd x h1)
        clear ha h1
        go_wp2
        go_round
        case rel => exact ⟨j + 1, _, by omega, by go_num, by rw [Hxor.out], by rw [bits_next, ← Hx.out, Ho.out]⟩
        case measure => simp [intOf]; omega
      · have h2 : x % 2 = 0 := by omega
        have d : (bits .and .u32 (x : Int) 1 == 1) = false := by rw [ha, h2]; rfl
        have Ho := Lib.hid (bit_even x h1)
        clear ha h1 h2
        go_wp2
        go_round
        case rel => exact ⟨j + 1, x / 2, by omega, by go_num, by go_num, by rw [bits_next, ← Hx.out, Ho.out]⟩
        case measure => simp [intOf]; omega
    · obtain rfl : j = 8 := by omega
      obtain rfl : x = Cr.tab k := Hx.out
      go_wp2
      go_ret
      exact ⟨rfl, rfl⟩

set_option maxHeartbeats 2000000 in
set_option maxRecDepth 100000 in
theorem make_any (w : World) : Calls Tryz.prog 12 #[] w fun e w' => e = .returned (.agg tabA) ∧ Below w.heap.size w w' := by
  have hz := zeroTable
  go_enter Tryz.func12, Tryz.ntmps12
  go_wp2
  have f0 : Filled ((w.alloc (.cells zerosA 27)).alloc (.cells zerosA 27)) (w.heap.size + 1) 0 :=
    ⟨zerosA, by have := heap_alloc_new (w.alloc (.cells zerosA 27)) (.cells zerosA 27); rw [World.size_alloc] at this; exact this, zeros_size, fun j hj => absurd hj (by omega)⟩
  have r0 : ((w.alloc (.cells zerosA 27)).alloc (.cells zerosA 27)).heap[w.heap.size]? = some (.cells zerosA 27 (0, 0)) := by
    rw [Below.heap_alloc _ _ _ (by simp)]; exact heap_alloc_new w _
  have F0 := Lib.hid f0
  have R0 := Lib.hid r0
  clear f0 r0 hz
  go_loopw [2, 3] (fun _ i wr => ∃ k : Nat, k ≤ 256 ∧ i = .int .i64 (k : Int) ∧ Filled wr (w.heap.size + 1) k ∧ wr.heap[w.heap.size]? = some (.cells zerosA 27 (0, 0)) ∧ Below w.heap.size w wr) (fun _ i _ => 256 - (intOf i).toNat)
  case atStart => exact ⟨0, by omega, rfl, F0.out, R0.out, bnew (bnew (Below.refl _ _) _) _⟩
  case round =>
    obtain ⟨k, hk, rfl, hF, hR, hL⟩ := hrel
    by_cases hlt : k < 256
    · obtain ⟨u, hu⟩ := hF.cell k hlt
      have hf := hF.free k
      have HF := Lib.hid (hF.step hlt)
      have HR := Lib.hid hR
      clear hF hR
      have H := Lib.hid (shifted_any k hlt)
      go_wp2_with (go_at_call 52; refine (H.out _).mono ?_; rintro e w1 ⟨rfl, rfl⟩)
      go_roundw
      case rel => exact ⟨k + 1, by omega, by go_num, HF.out, (Below.heap_setCell _ _ _ _ (by simp)).trans HR.out, hL.setCell (p := ⟨w.heap.size + 1, k, none⟩) (by simp) _⟩
      case measure => simp [intOf]; omega
    · obtain rfl : k = 256 := by omega
      have hT := hF.all
      have Hst := Lib.hid (storeTabAt wr w.heap.size zerosA hR zeros_size)
      clear hF
      have hsz := tabA_size
      go_wp2
      refine wp_load_row 27 _ rfl (w.heap.size + 1) rfl 27 tabA (0, 0) _ hT Tryz.underlying27 rfl (by rw [tabA_size]; exact sizeTable) ?_
      go_wp2
      rw [Hst.out]
      go_wp2
      have hrow : (wr.setRow w.heap.size tabA).heap[w.heap.size]? = some (.cells tabA 27 (0, 0)) := setRow_heap wr w.heap.size zerosA tabA _ _ hR
      refine bodyPost_ret (results_cell_row rfl _ _ w.heap.size 27 tabA (0, 0) _ rfl hrow Tryz.underlying27 rfl (by rw [tabA_size]; exact sizeTable)) rfl ⟨rfl, ?_⟩
      exact hL.trans ⟨rfl, rfl, rfl, by simp [World.setRow], fun k hk => setRow_other wr w.heap.size k tabA (by omega)⟩
end Go.Proofs.YtjhbpcecdhdnoaaGreatDoor
namespace Go.Proofs.YtjhbpcecdhdnoaaGreatDoor
open Go.RowKit

def stepT (f : Nat → Nat) (r : Nat) (c : UInt8) : Nat := f (r % 256 ^^^ c.toNat) ^^^ r / 256
def runT (f : Nat → Nat) (r : Nat) (l : List UInt8) : Nat := l.foldl (stepT f) r
def textsOf (ss : List ByteArray) : List UInt8 := (ss.map fun s => s.data.toList).flatten
theorem runT_append (f : Nat → Nat) (r : Nat) (l m : List UInt8) : runT f r (l ++ m) = runT f (runT f r l) m := by simp [runT]
theorem stepT_lt {f : Nat → Nat} (hf : ∀ i, i < 256 → f i < 4294967296) {r : Nat} (hr : r < 4294967296) (c : UInt8) : stepT f r c < 4294967296 := by
  have hc := c.toNat_lt
  unfold stepT
  exact Nat.xor_lt_two_pow (n := 32) (hf _ (Nat.xor_lt_two_pow (n := 8) (Nat.mod_lt _ (by omega)) hc)) (by omega)
theorem stepT_tab (r : Nat) (c : UInt8) : stepT Cr.tab r c = Cr.byte r c := by
  have hc := c.toNat_lt
  rw [Cr.byte_tab]
  unfold stepT
  have : (r ^^^ c.toNat) % 256 = r % 256 ^^^ c.toNat := by
    have := @Nat.xor_mod_two_pow r c.toNat 8
    rw [show (2 : Nat) ^ 8 = 256 from rfl] at this
    rw [this, Nat.mod_eq_of_lt (a := c.toNat) (by omega)]
  rw [this]
theorem runT_tab (r : Nat) (l : List UInt8) : runT Cr.tab r l = Cr.run r l := by
  unfold runT Cr.run
  congr 1
  funext r c
  exact stepT_tab r c
theorem textsOf_take (ss : List ByteArray) (k : Nat) (hk : k < ss.length) : textsOf (ss.take (k + 1)) = textsOf (ss.take k) ++ ss[k].data.toList := by
  unfold textsOf
  rw [List.take_succ_eq_append_getElem hk, List.map_append, List.flatten_append, List.map_singleton, List.flatten_singleton]
theorem runT_next (f : Nat → Nat) (r : Nat) (s : ByteArray) (i : Nat) (h : i < s.size) : runT f r (s.data.toList.take (i + 1)) = stepT f (runT f r (s.data.toList.take i)) s[i] := by
  rw [List.take_succ_eq_append_getElem (by simpa using h), runT_append]
  rfl
def TabIs (w : World) (g : Nat) (f : Nat → Nat) : Prop := g < w.heap.size ∧ ∀ i, i < 256 → w.cell? ⟨g, i, none⟩ = some (.int .u32 ((f i : Nat) : Int))

theorem xor8m (x c : Nat) (hc : c < 256) : bits .xor .u8 ((x : Int) % 256) (c : Int) = ((x % 256 ^^^ c : Nat) : Int) := by
  have e : (x : Int) % 256 = ((x % 256 : Nat) : Int) := by omega
  rw [e]
  exact u8_xor_nat (x % 256) c (by omega) hc
theorem xorShift (a x : Nat) (ha : a < 4294967296) (hx : x < 4294967296) : bits .xor .u32 ((x : Int) / 256) (a : Int) = ((a ^^^ x / 256 : Nat) : Int) := by
  have e : (x : Int) / 256 = ((x / 256 : Nat) : Int) := by omega
  rw [e, Nat.xor_comm]
  exact u32_xor_nat (x / 256) a (by omega) ha
theorem xorAll (x : Nat) (hx : x < 4294967296) : bits .xor .u32 (x : Int) 4294967295 = ((x ^^^ Cr.ones : Nat) : Int) := u32_xor_nat x 4294967295 hx (by omega)

end Go.Proofs.YtjhbpcecdhdnoaaGreatDoor
namespace Go.Proofs.YtjhbpcecdhdnoaaGreatDoor
open Go.RowKit
def TabO (w : World) (g o : Nat) (f : Nat → Nat) : Prop := g < w.heap.size ∧ ∀ i, i < 256 → w.cell? ⟨g, o + i, none⟩ = some (.int .u32 ((f i : Nat) : Int))
theorem TabO.below {w w' : World} {g o : Nat} {f : Nat → Nat} (h : TabO w g o f) (hb : Below w.heap.size w w') : TabO w' g o f := ⟨Nat.lt_of_lt_of_le h.1 hb.size, fun i hi => later hb (h.2 i hi)⟩
set_option maxHeartbeats 2000000 in
set_option maxRecDepth 100000 in
theorem ofO_any (f : Nat → Nat) (hf : ∀ i, i < 256 → f i < 4294967296) (w : World) (g o : Nat) (A : Option Addr) (cap : Nat) (ss : List ByteArray) (ht : TabO w g o f) (hl : Lies w A (sc ss)) (hn : ss.length ≤ 1000000) (hs : ∀ s ∈ ss, s.size ≤ 1000000000) :
    Calls Tryz.prog 150 #[.pointer (some ⟨g, o, none⟩), .slice A ss.length cap] w fun e w' => e = .returned (.int .u32 ((runT f Cr.ones (textsOf ss) ^^^ Cr.ones : Nat) : Int)) ∧ Below w.heap.size w w' := by
  have Ht := Lib.hid ht
  have Hl := Lib.hid hl
  have Hs := Lib.hid hs
  have Hf := Lib.hid hf
  clear ht hl hs hf
  go_enter Tryz.func150, Tryz.ntmps150
  go_wp2
  go_loopw [5, 7, 8, 13] (fun r _ _ i wr => ∃ (k x : Nat), k ≤ ss.length ∧ i = .int .i64 (k : Int) ∧ r = .int .u32 (x : Int) ∧ x < 4294967296 ∧ x = runT f Cr.ones (textsOf (ss.take k)) ∧ Below w.heap.size w wr) (fun _ _ _ i _ => ss.length - (intOf i).toNat)
  case atStart => exact ⟨0, 4294967295, Nat.zero_le _, rfl, rfl, by omega, rfl, Below.refl _ _⟩
  case round =>
    obtain ⟨k, x, hk, rfl, rfl, hxl, hx, hb⟩ := hrel
    have Hx := Lib.hid hx
    clear hx
    by_cases hlt : k < ss.length
    · rcases Hl.out with hl | ⟨b, off, rfl, hlb, hc⟩
      · exfalso; have := congrArg List.length hl; simp [sc] at this; simp [this] at hlt
      · have hcell : wr.cell? ⟨b, off + k, none⟩ = some (.string ss[k]) := (hb.cell (p := ⟨b, off + k, none⟩) hlb).trans (hc k _ (by simp [sc, hlt]))
        have hsz := Hs.out ss[k] (List.getElem_mem hlt)
        have Hts := Lib.hid (textsOf_take ss k hlt)
        obtain ⟨s, hs⟩ : ∃ s, s = ss[k] := ⟨_, rfl⟩
        rw [← hs] at hcell hsz Hts
        clear hs hc
        have Hb := Lib.hid hb
        obtain ⟨wo, hwo⟩ : ∃ wo : World, wo = wr := ⟨_, rfl⟩
        go_wp2
        go_loopw [5, 8, 19] (fun r _ q wq => ∃ (j y : Nat), j ≤ s.size ∧ q = .int .i64 (j : Int) ∧ r = .int .u32 (y : Int) ∧ y < 4294967296 ∧ y = runT f x (s.data.toList.take j) ∧ Below w.heap.size w wq) (fun _ _ q _ => s.size - (intOf q).toNat)
        case atStart => exact ⟨0, x, Nat.zero_le _, rfl, rfl, hxl, rfl, Hb.out⟩
        case round =>
          obtain ⟨j, y, hj, rfl, rfl, hyl, hy, hbq⟩ := hrel
          have Hy := Lib.hid hy
          clear hy hwo
          by_cases hjs : j < s.size
          · have Hnext := Lib.hid (runT_next f x s j hjs)
            have hcl := s[j].toNat_lt
            obtain ⟨d, hd⟩ : ∃ d, d = y % 256 ^^^ s[j].toNat := ⟨_, rfl⟩
            have hdl : d < 256 := by rw [hd]; exact Nat.xor_lt_two_pow (n := 8) (Nat.mod_lt _ (by omega)) hcl
            have hx8 : bits .xor .u8 ((y : Int) % 256) (s[j].toNat : Int) = (d : Int) := by rw [hd]; exact xor8m y _ hcl
            have hcd : wr.cell? ⟨g, o + d, none⟩ = some (.int .u32 ((f d : Nat) : Int)) := (hbq.cell (p := ⟨g, o + d, none⟩) Ht.out.1).trans (Ht.out.2 d hdl)
            have hfd := Hf.out d hdl
            have hst : stepT f y s[j] = f d ^^^ y / 256 := by unfold stepT; rw [← hd]
            have Hst := Lib.hid hst
            have Hlt := Lib.hid (stepT_lt Hf.out hyl s[j])
            have Hxs := Lib.hid (xorShift (f d) y hfd hyl)
            clear hd hst
            go_wp2
            go_quiet (fail)
            go_wp2
            go_roundw
            case rel => exact ⟨j + 1, f d ^^^ y / 256, by omega, by go_num, by rw [Hxs.out], by rw [← Hst.out]; exact Hlt.out, by rw [Hnext.out, ← Hy.out, Hst.out], below_drewN hbq _⟩
            case measure => simp [intOf]; omega
          · obtain rfl : j = s.size := by omega
            go_wp2
            go_roundw
            case rel => exact ⟨k + 1, y, by omega, by go_num, rfl, hyl, by rw [Hts.out, runT_append, ← Hx.out, Hy.out, List.take_of_length_le (by simp)], hbq⟩
            case measure => simp [intOf]; omega
    · obtain rfl : k = ss.length := by omega
      go_wp2
      go_ret
      refine ⟨?_, hb⟩
      have e := xorAll x hxl
      have e2 := Hx.out
      rw [List.take_length] at e2
      rw [← e2, ← e]
      rfl

theorem ofO_one (w : World) (g o : Nat) (A : Option Addr) (cap : Nat) (s : ByteArray) (ht : TabO w g o Cr.tab) (hl : Lies w A (sc [s])) (hs : s.size ≤ 1000000000) :
    Calls Tryz.prog 150 #[.pointer (some ⟨g, o, none⟩), .slice A 1 cap] w fun e w' => e = .returned (.int .u32 ((Cr.crc s.data.toList : Nat) : Int)) ∧ Below w.heap.size w w' := by
  have := ofO_any Cr.tab (fun i hi => Cr.bits_lt 8 (by omega)) w g o A cap [s] ht hl (by simp) (fun x hx => by rw [List.mem_singleton.1 hx]; exact hs)
  rw [runT_tab] at this
  have e : textsOf [s] = s.data.toList := by simp [textsOf]
  rw [e] at this
  exact this
end Go.Proofs.YtjhbpcecdhdnoaaGreatDoor
