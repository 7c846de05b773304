/-
  SumKnown and SumTables walked.
-/
import Derived.Test.YtjnbkjfpbbjepaaSumAwake
import Derived.Test.YtjnbkjfpbbjepaaSumRef
import Derived.Deep.RegionHeld3
namespace Go.Proofs.Ytjnbkjfpbbjepaa
open Go.RowKit

theorem crcsNine : crcs [⟨#[49, 50, 51, 52, 53, 54, 55, 56, 57]⟩] = 3808858755 := by decide +kernel
theorem crcsNone : crcs [] = 0 := by decide +kernel
theorem crcsEmpty : crcs [⟨#[]⟩, ⟨#[]⟩] = 0 := by decide +kernel
theorem tab0 : Cr.tab 0 = 0 := by decide +kernel
theorem tab128 : Cr.tab 128 = 2197175160 := by decide +kernel
theorem tab255 : Cr.tab 255 = 2910671697 := by decide +kernel

set_option maxHeartbeats 2000000 in
set_option maxRecDepth 100000 in
theorem sumKnown_walk (S : SumSays) (w : World) : Calls Try.prog 3 #[] w fun e w' => e = .returned (.bool true) ∧ Below w.heap.size w w' := by
  have hz := zeroTable
  have hst := storeTabA
  have hsz := tabA_size
  have o1 : ∀ W g A, TabAt W g → Lies W A (sc [⟨#[49, 50, 51, 52, 53, 54, 55, 56, 57]⟩]) → Calls Try.prog 9 #[.pointer (some ⟨g, 0, none⟩), .slice A 1 1] W fun e w' => e = .returned (.int .u32 3808858755) ∧ Below W.heap.size W w' := fun W g A h1 h2 => by
    have := S.of_ W g A 1 _ h1 h2 (by simp) (by decide +kernel)
    rw [crcsNine] at this
    exact this
  have o2 : ∀ W g, TabAt W g → Calls Try.prog 9 #[.pointer (some ⟨g, 0, none⟩), .slice none 0 0] W fun e w' => e = .returned (.int .u32 0) ∧ Below W.heap.size W w' := fun W g h1 => by
    have := S.of_ W g none 0 [] h1 (.inl rfl) (by simp) (by simp)
    rw [crcsNone] at this
    exact this
  have o3 : ∀ W g A, TabAt W g → Lies W A (sc [⟨#[]⟩, ⟨#[]⟩]) → Calls Try.prog 9 #[.pointer (some ⟨g, 0, none⟩), .slice A 2 2] W fun e w' => e = .returned (.int .u32 0) ∧ Below W.heap.size W w' := fun W g A h1 h2 => by
    have := S.of_ W g A 2 _ h1 h2 (by simp) (by decide +kernel)
    rw [crcsEmpty] at this
    exact this
  have O1 := Lib.hid o1
  have O2 := Lib.hid o2
  have O3 := Lib.hid o3
  have Hmk := Lib.hid S.make
  have Hnil := Lib.hid S.nil_
  clear o1 o2 o3
  go_enter Try.func3, Try.ntmps3
  go_wp2_with (go_at_call 8; refine (Hmk.out _).mono ?_; rintro e w1 ⟨rfl, hb1⟩)
  have h0 : TabAt (w1.alloc (.cells tabA 24)) w1.heap.size := TabAt.new w1
  have H1 := Lib.hid (h0.below (bnew (Below.refl _ _) (.cells #[.string ⟨#[49, 50, 51, 52, 53, 54, 55, 56, 57]⟩] 9)))
  clear h0
  refine (O1.out _ _ _ H1.out (Lies.at_ (w1.alloc (.cells tabA 24)) (sc [⟨#[49, 50, 51, 52, 53, 54, 55, 56, 57]⟩]) 9 (w1.heap.size + 1) (by simp))).mono ?_
  rintro e w2 ⟨rfl, hb2⟩
  have H2 := Lib.hid (H1.out.below hb2)
  go_wp2_with fail
  refine (O2.out _ _ H2.out).mono ?_
  rintro e w3 ⟨rfl, hb3⟩
  have H3 := Lib.hid (H2.out.below hb3)
  have H4 := Lib.hid (H3.out.below (bnew (Below.refl _ _) (.cells #[.string ⟨#[]⟩, .string ⟨#[]⟩] 9)))
  go_wp2_with fail
  refine (O3.out _ _ _ H4.out (Lies.at_ w3 (sc [⟨#[]⟩, ⟨#[]⟩]) 9 w3.heap.size rfl)).mono ?_
  rintro e w4 ⟨rfl, hb4⟩
  have H5 := Lib.hid (H4.out.below hb4)
  go_wp2_with fail
  refine (Hnil.out _ _ _ _).mono ?_
  rintro e w5 ⟨rfl, hb5⟩
  have h6 := H5.out.below (bnext (bnew (Below.refl _ _) _) hb5)
  have c0 := h6.cell 0 (by omega)
  have c1 := h6.cell 128 (by omega)
  have c2 := h6.cell 255 (by omega)
  rw [tab0] at c0
  rw [tab128] at c1
  rw [tab255] at c2
  clear h6
  go_wp2_with (go_at_call 10; refine (sumAwake_any S _).mono ?_; rintro e w6 ⟨rfl, hb6⟩)
  go_ret
  exact ⟨rfl, bnext (bnext (bnew (bnext (bnew (bnext (bnext (bnew (bnew hb1 _) _) hb2) hb3) _) hb4) _) hb5) hb6⟩

set_option maxHeartbeats 2000000 in
set_option maxRecDepth 100000 in
theorem sumTables_walk (S : SumSays) (w : World) : Calls Try.prog 4 #[] w fun e w' => e = .returned (.bool true) ∧ Below w.heap.size w w' := by
  have hz := zeroTable
  have hst := storeTabA
  have hsz := tabA_size
  have Hmk := Lib.hid S.make
  go_enter Try.func4, Try.ntmps4
  go_wp2_with (go_at_call 8; refine (Hmk.out _).mono ?_; rintro e w1 ⟨rfl, hb1⟩)
  have H0 := Lib.hid (TabAt.new w1)
  go_loopw [2] (fun i wr => ∃ k : Nat, k ≤ 256 ∧ i = .int .i64 (k : Int) ∧ TabAt wr w1.heap.size ∧ Below w.heap.size w wr) (fun i _ => 256 - (intOf i).toNat)
  case atStart => exact ⟨0, by omega, rfl, H0.out, bnew hb1 _⟩
  case round =>
    obtain ⟨k, hk, rfl, ht, hb⟩ := hrel
    by_cases hlt : k < 256
    · have hc := ht.cell k hlt
      have i0 : (0 : Int) ≤ (k : Int) := by omega
      have i1 : (k : Int) < 256 := by omega
      have Ht := Lib.hid ht
      have HA := Lib.hid (refAt_any k hlt)
      clear ht
      go_wp2_with fail
      go_quiet ((go_at_call 11; exact quietLeft (HA.out _)))
      go_wp2
      go_roundw
      case rel => exact ⟨k + 1, by omega, by go_num, Ht.out.drewN _, below_drewN hb _⟩
      case measure => simp [intOf]; omega
    · clear ht
      go_wp2_with (go_at_call 10; refine (sumAwake_any S _).mono ?_; rintro e w6 ⟨rfl, hb6⟩)
      go_ret
      exact ⟨rfl, bnext hb hb6⟩
end Go.Proofs.Ytjnbkjfpbbjepaa
