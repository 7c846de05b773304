/-
  What lies in a file.
  put walked.
-/
import Derived.Test.YtdcjhpnakbejkaaGreatDoorRDmAdd
import Derived.Deep.RegionLaw
set_option linter.unusedSimpArgs false
set_option linter.unusedVariables false
namespace Go.Proofs.YtdcjhpnakbejkaaGreatDoor
open Go.RowKit
theorem cont_src {W : World} {h : Hm} (hf : FAt W h) : (h.ca = none ∧ (cb h.f).size = 0 ∧ h.cc = 0) ∨ ∃ g, h.ca = some ⟨g, 0, none⟩ ∧ ∀ j u, (Lib.strCells (cb h.f))[j]? = some u → W.cell? ((⟨g, 0, none⟩ : Addr).add j) = some u := by
  rcases own_cells hf.cont with ⟨h1, h2, h3, _⟩ | h1
  · exact .inl ⟨h1, h2, h3⟩
  · exact .inr h1
theorem unsy_src {W : World} {h : Hm} (hf : FAt W h) : (h.ua = none ∧ (Dk.starts h.f).length = 0 ∧ h.uc = 0) ∨ ∃ g, h.ua = some ⟨g, 0, none⟩ ∧ ∀ j u, (ic (Dk.starts h.f))[j]? = some u → W.cell? ((⟨g, 0, none⟩ : Addr).add j) = some u := by
  rcases own_cells hf.unsy with ⟨h1, h2, h3, _⟩ | h1
  · exact .inl ⟨h1, h2, h3⟩
  · exact .inr h1
theorem FAt.below {W W' : World} {h : Hm} {B : Nat} (hf : FAt W h) (hb : Below B W W') (hB : W.heap.size ≤ B) : FAt W' h := hf.kept fun k hk => hb.block k (Nat.lt_of_lt_of_le (hf.lt hk) hB)
end Go.Proofs.YtdcjhpnakbejkaaGreatDoor
namespace Go.Proofs.YtdcjhpnakbejkaaGreatDoor
open Go.RowKit
theorem us : Tryz.prog.underlying 9 = some .string := Tryz.underlying9
set_option maxRecDepth 100000 in
set_option maxHeartbeats 1000000 in
theorem dput_any (W : World) (p mb left : Nat) (off : Bool) (l : Sm.Row) (hh : HAt W p mb left off) (hm : SMap Tryz.prog 9 W mb l) (hn : l.length < maxLen) (s : ByteArray) (hs : s.size ≤ 100000000) (g : Nat) :
    Calls Tryz.prog 102 #[.pointer (some ⟨p, 0, none⟩), .string s, .pointer (some ⟨g, 0, none⟩)] W fun e w' => e = .returned (.tuple #[]) ∧ SMap Tryz.prog 9 w' mb (Sm.put l s (.pointer (some ⟨g, 0, none⟩))) ∧ Ko (atB mb) W w' := by
  have c0 := hh.c0
  have HC := Lib.hid (fun W => stringsClone_any s W (by omega))
  have HM : Hid (∀ w1, Below W.heap.size W w1 → w1.cell? ⟨p, 0, none⟩ = some (.map (some mb)) ∧ ∃ w2, (Instr.mapUpdate 135 (.map (some mb)) (.string s) (.pointer (some ⟨g, 0, none⟩))).run Tryz.prog w1 = .ok () w2 ∧ SMap Tryz.prog 9 w2 mb (Sm.put l s (.pointer (some ⟨g, 0, none⟩))) ∧ Ko (atB mb) W w2) := Lib.hid fun w1 hb => by
    refine ⟨later hb c0, ?_⟩
    obtain ⟨w2, h1, h2, h3, h4⟩ := SMap.store (e := 167) us Tryz.underlying135 (hm.kept (hb.block _ hm.lt)) hn s (by simp only [maxLen]; omega) (.pointer (some ⟨g, 0, none⟩))
    refine ⟨w2, h1, h2, (Ko.bel (S := atB mb) hb).trans (T := atB mb) ⟨h3.os, h3.tape, h3.output, h3.size, fun k hk hne => h3.block k hk fun he => hne (by injection he)⟩ fun _ hk => .inl hk⟩
  clear hh hm hn hs
  go_enter Tryz.func102, Tryz.ntmps102
  go_wp2_with fail
  go_region_with (go_at_call 111; refine (HC.out _).mono ?_; rintro e w1 ⟨rfl, hb1⟩; obtain ⟨k0, w2, hrun, hm2, hk2⟩ := HM.out w1 (bnext (below_drew (Below.refl _ _)) hb1); have HE := Lib.hid (And.intro hm2 hk2); clear hm2 hk2 hb1)
  all_goals go_wp2_with fail
  all_goals go_end0
  all_goals exact ⟨rfl, HE.out.1, HE.out.2⟩
end Go.Proofs.YtdcjhpnakbejkaaGreatDoor
