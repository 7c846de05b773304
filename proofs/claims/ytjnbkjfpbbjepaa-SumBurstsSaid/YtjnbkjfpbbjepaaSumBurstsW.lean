/-
  SumBursts walked.
-/
import Derived.Test.YtjnbkjfpbbjepaaSumAwake
import Derived.Test.YtjnbkjfpbbjepaaSumBurstM
import Derived.Test.YtjnbkjfpbbjepaaSumBurstR
namespace Go.Proofs.Ytjnbkjfpbbjepaa
open Go.RowKit
set_option linter.unusedVariables false

set_option maxHeartbeats 2000000 in
set_option maxRecDepth 100000 in
theorem sumBursts_core (S : SumSays) (w : World) (s : ByteArray) (hs : s.size ≤ 3000) (h0 : 0 < s.size) (p c m : Nat) (hp : p < 65536) (hc : c < 65536) (hm : m < 4294967296) :
    Calls Try.prog 6 #[.string s, .int .u16 (p : Int), .int .u16 (c : Int), .int .u32 (m : Int)] w fun e w' => e = .returned (.bool true) ∧ Below w.heap.size w w' := by
  have hz := zeroTable
  have hst := storeTabA
  have hsz := tabA_size
  have Hmk := Lib.hid S.make
  have d1 : decide ((3000 : Int) < (s.size : Int)) = false := by simp; omega
  have d2 : ((s.size : Int) == 0) = false := by rw [beq_eq_false_iff_ne]; omega
  have hcv := fun W : World => run_bytes_of_string (P := Try.prog) W 9 34 5 s Try.underlying9 Try.underlying34 Try.underlying5
  go_enter Try.func6, Try.ntmps6
  go_wp2_with (go_at_call 8; refine (Hmk.out _).mono ?_; rintro e w1 ⟨rfl, hb1⟩)
  clear hcv hst hz hsz
  have hB : Bytes (((w1.alloc (.cells tabA 24)).alloc (.cells (bytesRow s (grownCap (w1.alloc (.cells tabA 24)) s.size 0 5)) 5 ((bytesRow s (grownCap (w1.alloc (.cells tabA 24)) s.size 0 5)).size, (bytesRow s (grownCap (w1.alloc (.cells tabA 24)) s.size 0 5)).size + 1))).drew) (w1.heap.size + 1) s.data.toList := by
    have := Bytes.made (w1.alloc (.cells tabA 24)) s (grownCap (w1.alloc (.cells tabA 24)) s.size 0 5)
    rw [World.size_alloc] at this
    exact this
  have hT : TabAt (((w1.alloc (.cells tabA 24)).alloc (.cells (bytesRow s (grownCap (w1.alloc (.cells tabA 24)) s.size 0 5)) 5 ((bytesRow s (grownCap (w1.alloc (.cells tabA 24)) s.size 0 5)).size, (bytesRow s (grownCap (w1.alloc (.cells tabA 24)) s.size 0 5)).size + 1))).drew) w1.heap.size :=
    (TabAt.new w1).below (bnew (Below.refl _ _) _).drew
  have hL : Below w.heap.size w (((w1.alloc (.cells tabA 24)).alloc (.cells (bytesRow s (grownCap (w1.alloc (.cells tabA 24)) s.size 0 5)) 5 ((bytesRow s (grownCap (w1.alloc (.cells tabA 24)) s.size 0 5)).size, (bytesRow s (grownCap (w1.alloc (.cells tabA 24)) s.size 0 5)).size + 1))).drew) :=
    (bnew (bnew hb1 _) _).drew
  generalize (((w1.alloc (.cells tabA 24)).alloc (.cells (bytesRow s (grownCap (w1.alloc (.cells tabA 24)) s.size 0 5)) 5 ((bytesRow s (grownCap (w1.alloc (.cells tabA 24)) s.size 0 5)).size, (bytesRow s (grownCap (w1.alloc (.cells tabA 24)) s.size 0 5)).size + 1))).drew) = w2 at *
  generalize grownCap (w1.alloc (.cells tabA 24)) s.size 0 5 = cap at *
  have hgw : w.heap.size ≤ w1.heap.size := hb1.size
  generalize w1.heap.size = g at *
  have hk : ∃ k : Nat, k < s.size ∧ (p : Int) % (s.size : Int) = (k : Int) := ⟨p % s.size, Nat.mod_lt _ h0, by simp⟩
  obtain ⟨k, hks, hk⟩ := hk
  rw [hk]
  have hq : ∃ k : Nat, k < s.size ∧ (c : Int) % (s.size : Int) = (k : Int) := ⟨c % s.size, Nat.mod_lt _ h0, by simp⟩
  obtain ⟨q, hqs, hq⟩ := hq
  have Hq := Lib.hid hq
  clear hk hb1 hq hp
  have hll : s.data.toList.length = s.size := (Lib.size_eq s).symm
  have Hll := Lib.hid hll
  clear hll
  go_loopw [12] (fun v wr => ∃ (i : Nat) (x : List UInt8), i ≤ 4 ∧ v = .int .i64 (i : Int) ∧ Bytes wr (g + 1) x ∧ Alike4 k i s.data.toList x ∧ TabAt wr g ∧ Below w.heap.size w wr) (fun v _ => 4 - (intOf v).toNat)
  case atStart => exact ⟨0, _, by omega, rfl, hB, Alike4.refl _ _, hT, hL⟩
  case round =>
    clear hB hT hL
    obtain ⟨i, x, hi4, rfl, hB, hA, hT, hL⟩ := hrel
    have hxl : x.length = s.size := hA.1.trans Hll.out
    have Hxl := Lib.hid hxl
    by_cases hlt : i < 4 ∧ k + i < s.size
    · obtain ⟨hi, hki⟩ := hlt
      have hc0 := hB.cell (k + i) x[k + i] (List.getElem?_eq_getElem (by omega))
      have hf0 := hB.free (k + i) (by omega)
      obtain ⟨b, hb⟩ : ∃ b, b = x[k + i]'(by omega) := ⟨_, rfl⟩
      rw [← hb] at hc0
      obtain ⟨d, hd⟩ := xor8 b (m / 2 ^ (8 * i))
      have hd' : bits .xor .u8 (b.toNat : Int) ((m : Int) / 2 ^ (8 * i) % 256) = (d.toNat : Int) := by
        rw [← hd]; congr 2
      have HB := Lib.hid (hB.set_ (k + i) d)
      have HA := Lib.hid (hA.step d)
      have HT := Lib.hid hT
      have hbl := b.toNat_lt
      clear hB hA hT hb hd hxl
      go_wp2
      go_roundw
      case rel => exact ⟨i + 1, _, by omega, by go_num, HB.out, HA.out, (Below.heap_setCell _ _ _ _ (by simp)).trans HT.out, hL.setCell (p := ⟨g + 1, k + i, none⟩) (by simp; omega) _⟩
      case measure => simp [intOf]; omega
    · obtain ⟨nb, hnb⟩ : ∃ nb : ByteArray, nb = ⟨x.toArray⟩ := ⟨_, rfl⟩
      have hnl : nb.data.toList = x := by rw [hnb]
      have hA4 : Alike4 k 4 s.data.toList x := hA.more hi4
      have hiff := burst_iff hA4
      have hconv : ∀ W : World, Below wr.heap.size wr W → (convert 34 9 (.slice (some ⟨g + 1, 0, none⟩) s.size cap)).run Try.prog W = .ok (.string nb) W := fun W hb => by
        have := run_convert_bytes_back (P := Try.prog) W 34 9 5 ⟨g + 1, 0, none⟩ cap x Try.underlying34 Try.underlying5 Try.underlying9 (fun j hj => by
          have e : (⟨g + 1, 0, none⟩ : Addr).add j = ⟨g + 1, j, none⟩ := by unfold Addr.add; split <;> simp_all
          rw [e]
          exact (hB.below hb).cell j _ (List.getElem?_eq_getElem hj))
        rw [hxl, ← hnb] at this
        exact this
      have one : ∀ (y : ByteArray), y.size ≤ 3000 → ∀ (W : World) (A : Option Addr), TabAt W g → Lies W A (sc [y]) → Calls Try.prog 9 #[.pointer (some ⟨g, 0, none⟩), .slice A 1 1] W fun e w' => e = .returned (.int .u32 ((Cr.crc y.data.toList : Nat) : Int)) ∧ Below W.heap.size W w' := fun y hy W A h1 h2 => by
        have := S.of_ W g A 1 [y] h1 h2 (by simp) (by simp; omega)
        have e : crcs [y] = Cr.crc y.data.toList := by simp [crcs]
        rw [e] at this
        exact this
      have two : ∀ (W : World) (A : Option Addr), TabAt W g → Lies W A (sc [s.extract 0 q, s.extract q s.size]) → Calls Try.prog 9 #[.pointer (some ⟨g, 0, none⟩), .slice A 2 2] W fun e w' => e = .returned (.int .u32 ((Cr.crc s.data.toList : Nat) : Int)) ∧ Below W.heap.size W w' := fun W A h1 h2 => by
        have := S.of_ W g A 2 [s.extract 0 q, s.extract q s.size] h1 h2 (by simp) (fun y hy => by
          simp only [List.mem_cons, List.not_mem_nil, or_false] at hy
          rcases hy with rfl | rfl <;> rw [ByteArray.size_extract] <;> omega)
        have e : crcs [s.extract 0 q, s.extract q s.size] = Cr.crc s.data.toList := by
          unfold crcs
          congr 1
          simp only [List.map_cons, List.map_nil, List.flatten_cons, List.flatten_nil, List.append_nil, Lib.extract_data, List.drop_zero, Nat.sub_zero]
          rw [List.take_of_length_le (l := s.data.toList.drop q) (by rw [List.length_drop]; have := Hll.out; omega), List.take_append_drop]
        rw [e] at this
        exact this
      have hnz : nb.size ≤ 3000 := by rw [Lib.size_eq, hnl]; omega
      have h1 := one s hs
      have h2 := one nb hnz
      obtain ⟨zs, hzs⟩ : ∃ z, z = Cr.crc s.data.toList := ⟨_, rfl⟩
      obtain ⟨zn, hzn⟩ : ∃ z, z = Cr.crc nb.data.toList := ⟨_, rfl⟩
      rw [← hzs] at h1 two hiff
      rw [← hzn] at h2
      rw [← hnl, ← hzn] at hiff
      obtain ⟨b, hb1, hb2⟩ : ∃ b : Bool, ((zs : Int) == (zn : Int)) = b ∧ (nb.toList == s.toList) = b := by
        refine ⟨(nb.toList == s.toList), ?_, rfl⟩
        rw [Bool.eq_iff_iff, beq_iff_eq, beq_iff_eq, ByteArray.toList_eq, ByteArray.toList_eq, ← hiff]
        omega
      have H1 := Lib.hid h1
      have H2 := Lib.hid h2
      have H3 := Lib.hid two
      have Hc := Lib.hid hconv
      have HT := Lib.hid hT
      have Hb1 := Lib.hid hb1
      have Hb2 := Lib.hid hb2
      clear hB hA hT hA4 hiff hconv one two h1 h2 hzs hzn hnl hnb hb1 hb2 hxl Hxl
      by_cases hi : i < 4
      · have hki : ¬ (k + i < s.size) := fun h => hlt ⟨hi, h⟩
        clear hlt
        go_wp2_with fail
        rw [Hq.out]
        refine rb13_any S s nb g cap q zs zn b _ hqs hs HT Hb1.out Hb2.out Hc H1 H2 H3 _ ?_
        intro u1 u5 u20 u23 w9 hb9
        go_wp2
        go_ret
        exact ⟨rfl, bnext hL hb9⟩
      · clear hlt
        go_wp2_with fail
        rw [Hq.out]
        refine rb13_any S s nb g cap q zs zn b _ hqs hs HT Hb1.out Hb2.out Hc H1 H2 H3 _ ?_
        intro u1 u5 u20 u23 w9 hb9
        go_wp2
        go_ret
        exact ⟨rfl, bnext hL hb9⟩

theorem crcsTwo : crcs [⟨#[]⟩, ⟨#[]⟩] = 0 := by decide +kernel
set_option maxHeartbeats 2000000 in
set_option maxRecDepth 100000 in
theorem sumBursts_none (S : SumSays) (w : World) (p c m : Nat) :
    Calls Try.prog 6 #[.string ⟨#[]⟩, .int .u16 (p : Int), .int .u16 (c : Int), .int .u32 (m : Int)] w fun e w' => e = .returned (.bool true) ∧ Below w.heap.size w w' := by
  have hz := zeroTable
  have hst := storeTabA
  have hsz := tabA_size
  have Hmk := Lib.hid S.make
  have o3 : ∀ W g A, TabAt W g → Lies W A (sc [⟨#[]⟩, ⟨#[]⟩]) → Calls Try.prog 9 #[.pointer (some ⟨g, 0, none⟩), .slice A 2 2] W fun e w' => e = .returned (.int .u32 0) ∧ Below W.heap.size W w' := fun W g A h1 h2 => by
    have := S.of_ W g A 2 _ h1 h2 (by simp) (by decide +kernel)
    rw [crcsTwo] at this
    exact this
  have O3 := Lib.hid o3
  clear o3
  go_enter Try.func6, Try.ntmps6
  go_wp2_with (go_at_call 8; refine (Hmk.out _).mono ?_; rintro e w1 ⟨rfl, hb1⟩)
  have H1 := Lib.hid ((TabAt.new w1).below (bnew (Below.refl _ _) (.cells #[.string ⟨#[]⟩, .string ⟨#[]⟩] 9)))
  refine (O3.out _ _ _ H1.out (Lies.at_ (w1.alloc (.cells tabA 24)) (sc [⟨#[]⟩, ⟨#[]⟩]) 9 (w1.heap.size + 1) (by simp))).mono ?_
  rintro e w2 ⟨rfl, hb2⟩
  go_wp2_with (go_at_call 10; refine (sumAwake_any S _).mono ?_; rintro e w6 ⟨rfl, hb6⟩)
  go_ret
  exact ⟨rfl, bnext (bnext (bnew (bnew hb1 _) _) hb2) hb6⟩
end Go.Proofs.Ytjnbkjfpbbjepaa
