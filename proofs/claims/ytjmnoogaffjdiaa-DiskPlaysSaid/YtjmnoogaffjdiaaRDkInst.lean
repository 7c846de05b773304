/-
  The program's disk is what its methods are to do.
-/
import Derived.Test.YtjmnoogaffjdiaaRDmTwin
set_option linter.unusedSimpArgs false
set_option linter.unusedVariables false
namespace Go.Proofs.Ytjmnoogaffjdiaa
open Go.RowKit
theorem diskK : DiskK DmAt where
  lt := fun h k hk => h.lt k hk
  stays := fun h hk => h.stays hk
  inv := fun h => by obtain ⟨_, _, h1, _⟩ := h; exact h1.inv
  load := fun h => by obtain ⟨_, _, h1, _⟩ := h; exact h1.load
  left := fun h => by obtain ⟨_, _, h1, _⟩ := h; exact h1.left
  new := dNew_any
  append := fun W p S d n r h hl => dAppend_any W p S d n r h hl
  sync := fun W p S d n h hn => dSync_any W p S d n h hn
  rename := fun W p S d n m h hn hm => dRename_any W p S d n m h hn hm
  delete := fun W p S d n h hn => dDelete_any W p S d n h hn
  read := fun W p S d n h hn => dRead_any W p S d n h hn
  list := fun W p S d h => by
    obtain ⟨mb, hs, hS, h0⟩ := h
    refine (list_any sortStr W p mb hs d hS).mono ?_
    rintro e w' ⟨A, cap, rfl, ho, hb⟩
    exact ⟨A, cap, rfl, lies_own ho, fun b off _ he => (own_lt ho (by rw [he]; rfl)).2, hb⟩
  records := fun W p S d n h hn => dRecords_any W p S d n h hn
  fuse := fun W p S d n h hn => dFuse_any W p S d n h hn
  fused := fun W p S d h => dFused_any W p S d h
  crash := fun W p S d ks ts KA TA kc tc h hg hk ht => dCrash_any W p S d ks ts KA TA kc tc h hg hk ht
  start := fun W p S d h => dStart_any W p S d h
  down := fun W p S d h => dDown_any W p S d h
  twin := fun W p S d h => dTwin_any W p S d h
end Go.Proofs.Ytjmnoogaffjdiaa
