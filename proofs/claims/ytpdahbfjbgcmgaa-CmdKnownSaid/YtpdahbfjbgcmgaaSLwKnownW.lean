/-
  CmdKnown walked: the commands. WRITTEN BY wip/tools/gen_lwknown.py.
-/
import Derived.Test.YtpdahbfjbgcmgaaSLwKnownE
import Derived.Test.YtpdahbfjbgcmgaaSLwKnownF
set_option linter.unusedSimpArgs false
set_option linter.unusedVariables false
namespace Go.Proofs.Ytpdahbfjbgcmgaa
open Go.RowKit
set_option linter.unusedVariables false
set_option maxRecDepth 100000 in
set_option maxHeartbeats 8000000 in
theorem cmdKnown_walk (w : World) : Calls Try.prog 3 #[] w fun e w' => e = .returned (.bool true) ∧ Below w.heap.size w w' := by
  obtain ⟨i3, hi3, hz30, hz31, hz32⟩ := info_parts Try.infoPart
  have HW := Lib.hid kbW
  go_enter Try.func3, Try.ntmps3
  go_wp2_with fail
  refine (HW.out _ _ _ ((Lies.at_ w (pc kbatch.parts) _ _ rfl).below (bnew (Below.refl _ _) _))).mono ?_
  rintro e w1 ⟨rfl, hb1⟩
  go_upto_region 4 with (fail)
  refine forget (fun W => Below w.heap.size w W) (bnext (bnew (bnew (Below.refl _ _) _) _) hb1) ?_
  intro W2 hb2
  have HB2 := Lib.hid hb2
  clear hb1 hb2 HW
  rename (∀ (a : Act) (w : World), Code.wp _ _ (bodyPost _ _ _) a w → _) => hK1
  have HK1 := Lib.hid hK1
  clear hK1
  rename (∀ (a : Act) (w : World), Code.wp _ (Code.block 0 _) _ a w → _) => hK
  have HK := Lib.hid hK
  clear hK
  go_wp2_with (at_make; refine wpList_make_full _ rfl _ _ 24 rfl W2.heap.size 23 i3 (.agg #[.int .u8 0, .string ⟨#[]⟩, .string ⟨#[]⟩]) 3 Try.underlying24 hi3 hz30 hz31 .i64 .i64 5 5 5 rfl rfl rfl rfl (by rw [hz32]; decide) (by simp only [maxLen]; decide) (Nat.le_refl _) ?_; intro w3 ho3 hg3)
  have hlw := HB2.out.size
  refine HK.out _ _ ?_
  refine lkb0 w _ W2.heap.size w3.heap.size (w3.heap.size + 1) (Lib.hid ?_) _ ?_
  · have hb3 : Below w.heap.size w w3 := HB2.out.grown hg3 hlw (by simp)
    have lA := made5 ho3
    refine ⟨bnew (bnew hb3 _) _, by simp, fun i j u hi hj hu => ?_, (lA.below (bnew (Below.refl _ _) _)).below (bnew (Below.refl _ _) _), (Lies.at_ w3 (pc parts1) _ _ rfl).below (bnew (Below.refl _ _) _)⟩
    have := knC (w3.alloc (.cells #[.int .u8 3, .string ⟨#[]⟩, .string ⟨#[118]⟩] 23)) W2.heap.size w3.heap.size i j u hu
    rw [World.size_alloc] at this
    exact this
  intro a' w' hs hd hb
  refine HK1.out _ _ ?_
  refine lk10a w a' w' hs hd (bnext ?_ hb)
  exact bnew (bnew (HB2.out.grown hg3 hlw (by simp)) _) _
end Go.Proofs.Ytpdahbfjbgcmgaa
