/-
  sum.Table's Of walked, with whatever table; and what the two functions of layer 2 do, together.
-/
import Derived.Test.YtjnbkjfpbbjepaaSumMake
namespace Go.Proofs.Ytjnbkjfpbbjepaa
open Go.RowKit

/-- A byte taken in by a table; the bytes of texts. -/
def stepT (f : Nat → Nat) (r : Nat) (c : UInt8) : Nat := f (r % 256 ^^^ c.toNat) ^^^ r / 256
def runT (f : Nat → Nat) (r : Nat) (l : List UInt8) : Nat := l.foldl (stepT f) r
def textsOf (ss : List ByteArray) : List UInt8 := (ss.map fun s => s.data.toList).flatten
theorem runT_append (f : Nat → Nat) (r : Nat) (l m : List UInt8) : runT f r (l ++ m) = runT f (runT f r l) m := by simp [runT]
theorem stepT_lt {f : Nat → Nat} (hf : ∀ i, i < 256 → f i < 4294967296) {r : Nat} (hr : r < 4294967296) (c : UInt8) : stepT f r c < 4294967296 := by
  have hc := c.toNat_lt
  unfold stepT
  exact Nat.xor_lt_two_pow (n := 32) (hf _ (Nat.xor_lt_two_pow (n := 8) (Nat.mod_lt _ (by omega)) hc)) (by omega)
theorem stepT_tab (r : Nat) (c : UInt8) : stepT Cr.tab r c = Cr.byte r c := by
  have hc := c.toNat_lt
  rw [Cr.byte_tab]
  unfold stepT
  have : (r ^^^ c.toNat) % 256 = r % 256 ^^^ c.toNat := by
    have := @Nat.xor_mod_two_pow r c.toNat 8
    rw [show (2 : Nat) ^ 8 = 256 from rfl] at this
    rw [this, Nat.mod_eq_of_lt (a := c.toNat) (by omega)]
  rw [this]
theorem runT_tab (r : Nat) (l : List UInt8) : runT Cr.tab r l = Cr.run r l := by
  unfold runT Cr.run
  congr 1
  funext r c
  exact stepT_tab r c
theorem textsOf_take (ss : List ByteArray) (k : Nat) (hk : k < ss.length) : textsOf (ss.take (k + 1)) = textsOf (ss.take k) ++ ss[k].data.toList := by
  unfold textsOf
  rw [List.take_succ_eq_append_getElem hk, List.map_append, List.flatten_append, List.map_singleton, List.flatten_singleton]
theorem runT_next (f : Nat → Nat) (r : Nat) (s : ByteArray) (i : Nat) (h : i < s.size) : runT f r (s.data.toList.take (i + 1)) = stepT f (runT f r (s.data.toList.take i)) s[i] := by
  rw [List.take_succ_eq_append_getElem (by simpa using h), runT_append]
  rfl
/-- A table with these numbers lies at g. -/
def TabIs (w : World) (g : Nat) (f : Nat → Nat) : Prop := g < w.heap.size ∧ ∀ i, i < 256 → w.cell? ⟨g, i, none⟩ = some (.int .u32 ((f i : Nat) : Int))

theorem xor8m (x c : Nat) (hc : c < 256) : bits .xor .u8 ((x : Int) % 256) (c : Int) = ((x % 256 ^^^ c : Nat) : Int) := by
  have e : (x : Int) % 256 = ((x % 256 : Nat) : Int) := by omega
  rw [e]
  exact u8_xor_nat (x % 256) c (by omega) hc
theorem xorShift (a x : Nat) (ha : a < 4294967296) (hx : x < 4294967296) : bits .xor .u32 ((x : Int) / 256) (a : Int) = ((a ^^^ x / 256 : Nat) : Int) := by
  have e : (x : Int) / 256 = ((x / 256 : Nat) : Int) := by omega
  rw [e, Nat.xor_comm]
  exact u32_xor_nat (x / 256) a (by omega) ha
theorem xorAll (x : Nat) (hx : x < 4294967296) : bits .xor .u32 (x : Int) 4294967295 = ((x ^^^ Cr.ones : Nat) : Int) := u32_xor_nat x 4294967295 hx (by omega)

set_option maxHeartbeats 2000000 in
set_option maxRecDepth 100000 in
theorem of_any (f : Nat → Nat) (hf : ∀ i, i < 256 → f i < 4294967296) (w : World) (g : Nat) (A : Option Addr) (cap : Nat) (ss : List ByteArray) (ht : TabIs w g f) (hl : Lies w A (sc ss)) (hn : ss.length ≤ 1000000) (hs : ∀ s ∈ ss, s.size ≤ 1000000000) :
    Calls Try.prog 9 #[.pointer (some ⟨g, 0, none⟩), .slice A ss.length cap] w fun e w' => e = .returned (.int .u32 ((runT f Cr.ones (textsOf ss) ^^^ Cr.ones : Nat) : Int)) ∧ Below w.heap.size w w' := by
  have Ht := Lib.hid ht
  have Hl := Lib.hid hl
  have Hs := Lib.hid hs
  have Hf := Lib.hid hf
  clear ht hl hs hf
  go_enter Try.func9, Try.ntmps9
  go_wp2
  go_loopw [5, 7, 8, 13] (fun r _ _ i wr => ∃ (k x : Nat), k ≤ ss.length ∧ i = .int .i64 (k : Int) ∧ r = .int .u32 (x : Int) ∧ x < 4294967296 ∧ x = runT f Cr.ones (textsOf (ss.take k)) ∧ Below w.heap.size w wr) (fun _ _ _ i _ => ss.length - (intOf i).toNat)
  case atStart => exact ⟨0, 4294967295, Nat.zero_le _, rfl, rfl, by omega, rfl, Below.refl _ _⟩
  case round =>
    obtain ⟨k, x, hk, rfl, rfl, hxl, hx, hb⟩ := hrel
    have Hx := Lib.hid hx
    clear hx
    by_cases hlt : k < ss.length
    · rcases Hl.out with hl | ⟨b, off, rfl, hlb, hc⟩
      · exfalso; have := congrArg List.length hl; simp [sc] at this; simp [this] at hlt
      · have hcell : wr.cell? ⟨b, off + k, none⟩ = some (.string ss[k]) := (hb.cell (p := ⟨b, off + k, none⟩) hlb).trans (hc k _ (by simp [sc, hlt]))
        have hsz := Hs.out ss[k] (List.getElem_mem hlt)
        have Hts := Lib.hid (textsOf_take ss k hlt)
        obtain ⟨s, hs⟩ : ∃ s, s = ss[k] := ⟨_, rfl⟩
        rw [← hs] at hcell hsz Hts
        clear hs hc
        have Hb := Lib.hid hb
        obtain ⟨wo, hwo⟩ : ∃ wo : World, wo = wr := ⟨_, rfl⟩
        go_wp2
        go_loopw [5, 8, 19] (fun r _ q wq => ∃ (j y : Nat), j ≤ s.size ∧ q = .int .i64 (j : Int) ∧ r = .int .u32 (y : Int) ∧ y < 4294967296 ∧ y = runT f x (s.data.toList.take j) ∧ Below w.heap.size w wq) (fun _ _ q _ => s.size - (intOf q).toNat)
        case atStart => exact ⟨0, x, Nat.zero_le _, rfl, rfl, hxl, rfl, Hb.out⟩
        case round =>
          obtain ⟨j, y, hj, rfl, rfl, hyl, hy, hbq⟩ := hrel
          have Hy := Lib.hid hy
          clear hy hwo
          by_cases hjs : j < s.size
          · have Hnext := Lib.hid (runT_next f x s j hjs)
            have hcl := s[j].toNat_lt
            obtain ⟨d, hd⟩ : ∃ d, d = y % 256 ^^^ s[j].toNat := ⟨_, rfl⟩
            have hdl : d < 256 := by rw [hd]; exact Nat.xor_lt_two_pow (n := 8) (Nat.mod_lt _ (by omega)) hcl
            have hx8 : bits .xor .u8 ((y : Int) % 256) (s[j].toNat : Int) = (d : Int) := by rw [hd]; exact xor8m y _ hcl
            have hcd : wr.cell? ⟨g, d, none⟩ = some (.int .u32 ((f d : Nat) : Int)) := (hbq.cell (p := ⟨g, d, none⟩) Ht.out.1).trans (Ht.out.2 d hdl)
            have hfd := Hf.out d hdl
            have hst : stepT f y s[j] = f d ^^^ y / 256 := by unfold stepT; rw [← hd]
            have Hst := Lib.hid hst
            have Hlt := Lib.hid (stepT_lt Hf.out hyl s[j])
            have Hxs := Lib.hid (xorShift (f d) y hfd hyl)
            clear hd hst
            go_wp2
            go_quiet (fail)
            go_wp2
            go_roundw
            case rel => exact ⟨j + 1, f d ^^^ y / 256, by omega, by go_num, by rw [Hxs.out], by rw [← Hst.out]; exact Hlt.out, by rw [Hnext.out, ← Hy.out, Hst.out], below_drewN hbq _⟩
            case measure => simp [intOf]; omega
          · obtain rfl : j = s.size := by omega
            go_wp2
            go_roundw
            case rel => exact ⟨k + 1, y, by omega, by go_num, rfl, hyl, by rw [Hts.out, runT_append, ← Hx.out, Hy.out, List.take_of_length_le (by simp)], hbq⟩
            case measure => simp [intOf]; omega
    · obtain rfl : k = ss.length := by omega
      go_wp2
      go_ret
      refine ⟨?_, hb⟩
      have e := xorAll x hxl
      have e2 := Hx.out
      rw [List.take_length] at e2
      rw [← e2, ← e]
      rfl

theorem of_nil (w : World) (A : Option Addr) (n cap : Nat) : Calls Try.prog 9 #[.pointer none, .slice A n cap] w fun e w' => e = .returned (.int .u32 0) ∧ Below w.heap.size w w' := by
  go_enter Try.func9, Try.ntmps9
  go_wp2
  go_ret
  exact ⟨rfl, Below.refl _ _⟩

theorem sumSays : SumSays where
  make := make_any
  of_ := fun w g A cap ss ht hl hn hs => by
    have := of_any Cr.tab (fun i hi => Cr.bits_lt 8 (by omega)) w g A cap ss ⟨ht.lt, fun i hi => ht.cell i hi⟩ hl hn hs
    rw [runT_tab] at this
    exact this
  any_ := fun w g cs A cap ss hg hc hl hn hs => by
    have hex : ∃ f : Nat → Nat, ∀ i, i < 256 → f i < 4294967296 ∧ cs[i]? = some (.int .u32 ((f i : Nat) : Int)) :=
      ⟨fun i => if h : i < 256 then (hc i h).choose else 0, fun i hi => by simp only [hi, dif_pos]; exact (hc i hi).choose_spec⟩
    obtain ⟨f, hf⟩ := hex
    refine (of_any f (fun i hi => (hf i hi).1) w g A cap ss ⟨(Array.getElem?_eq_some_iff.1 hg).1, fun i hi => by rw [cell_of_row w g i cs _ _ hg]; exact (hf i hi).2⟩ hl hn hs).mono fun e w' ⟨he, hb⟩ => ⟨⟨_, he⟩, hb⟩
  nil_ := of_nil
end Go.Proofs.Ytjnbkjfpbbjepaa
