/-
  The statements' own 'awake' of layer 2 walked.
-/
import Derived.Test.YtjnbkjfpbbjepaaSumBase
namespace Go.Proofs.Ytjnbkjfpbbjepaa
open Go.RowKit

theorem crcs9 : crcs [⟨#[49, 50, 51, 52]⟩, ⟨#[]⟩, ⟨#[53, 54, 55, 56, 57]⟩] = 3808858755 := by decide +kernel
theorem tab1 : Cr.tab 1 = 4067132163 := by decide +kernel

set_option maxHeartbeats 1000000 in
set_option maxRecDepth 100000 in
theorem sumAwake_any (S : SumSays) (w : World) : Calls Try.prog 10 #[] w fun e w' => e = .returned (.bool true) ∧ Below w.heap.size w w' := by
  have hz := zeroTable
  have hst := storeTabA
  have hsz := tabA_size
  have hof : ∀ W g A, TabAt W g → Lies W A (sc [⟨#[49, 50, 51, 52]⟩, ⟨#[]⟩, ⟨#[53, 54, 55, 56, 57]⟩]) → Calls Try.prog 9 #[.pointer (some ⟨g, 0, none⟩), .slice A 3 3] W fun e w' => e = .returned (.int .u32 3808858755) ∧ Below W.heap.size W w' := fun W g A h1 h2 => by
    have := S.of_ W g A 3 _ h1 h2 (by simp) (by decide +kernel)
    rw [crcs9] at this
    exact this
  have Hof := Lib.hid hof
  have Hmk := Lib.hid S.make
  clear hof
  go_enter Try.func10, Try.ntmps10
  go_wp2_with (go_at_call 8; refine (Hmk.out _).mono ?_; rintro e w1 ⟨rfl, hb1⟩)
  have ht1 := (TabAt.new w1).below (bnew (Below.refl _ _) (.cells #[.string ⟨#[49, 50, 51, 52]⟩, .string ⟨#[]⟩, .string ⟨#[53, 54, 55, 56, 57]⟩] 9))
  have Ht1 := Lib.hid ht1
  clear ht1
  refine (Hof.out _ _ _ Ht1.out (Lies.at_ (w1.alloc (.cells tabA 24)) (sc [⟨#[49, 50, 51, 52]⟩, ⟨#[]⟩, ⟨#[53, 54, 55, 56, 57]⟩]) 9 (w1.heap.size + 1) (by simp))).mono ?_
  rintro e w2 ⟨rfl, hb2⟩
  have hc := (Ht1.out.below hb2).cell 1 (by omega)
  rw [tab1] at hc
  go_wp2
  go_ret
  exact ⟨rfl, bnext (bnew (bnew hb1 _) _) hb2⟩
end Go.Proofs.Ytjnbkjfpbbjepaa
