/-
  A file's twin walked; put walked.
  put walked.
-/
import Derived.Test.YtjmnoogaffjdiaaRDmTwinR
import Derived.Deep.RegionLaw
set_option linter.unusedSimpArgs false
set_option linter.unusedVariables false
namespace Go.Proofs.Ytjmnoogaffjdiaa
open Go.RowKit
theorem cont_src {W : World} {h : Hm} (hf : FAt W h) : (h.ca = none ∧ (cb h.f).size = 0 ∧ h.cc = 0) ∨ ∃ g, h.ca = some ⟨g, 0, none⟩ ∧ ∀ j u, (Lib.strCells (cb h.f))[j]? = some u → W.cell? ((⟨g, 0, none⟩ : Addr).add j) = some u := by
  rcases own_cells hf.cont with ⟨h1, h2, h3, _⟩ | h1
  · exact .inl ⟨h1, h2, h3⟩
  · exact .inr h1
theorem unsy_src {W : World} {h : Hm} (hf : FAt W h) : (h.ua = none ∧ (Dk.starts h.f).length = 0 ∧ h.uc = 0) ∨ ∃ g, h.ua = some ⟨g, 0, none⟩ ∧ ∀ j u, (ic (Dk.starts h.f))[j]? = some u → W.cell? ((⟨g, 0, none⟩ : Addr).add j) = some u := by
  rcases own_cells hf.unsy with ⟨h1, h2, h3, _⟩ | h1
  · exact .inl ⟨h1, h2, h3⟩
  · exact .inr h1
theorem FAt.below {W W' : World} {h : Hm} {B : Nat} (hf : FAt W h) (hb : Below B W W') (hB : W.heap.size ≤ B) : FAt W' h := hf.kept fun k hk => hb.block k (Nat.lt_of_lt_of_le (hf.lt hk) hB)
set_option maxRecDepth 100000 in
theorem ftwin_any (W : World) (h : Hm) (hf : FAt W h) (hl : Dk.flLoad h.f ≤ 100000000) :
    Calls Try.prog 52 #[.pointer (some ⟨h.b, 0, none⟩)] W fun e w' => ∃ h' : Hm, e = .returned (.pointer (some ⟨h'.b, 0, none⟩)) ∧ FAt w' h' ∧ h'.f = h.f ∧ (∀ k, h'.Blk k → W.heap.size ≤ k) ∧ Below W.heap.size W w' := by
  have hld : 1 + h.f.name.size + h.f.recs.length + Dk.sz h.f.recs + h.f.torn.size ≤ 100000000 := hl
  have hzz := cb_size h.f
  have hnl := Dk.starts_length h.f
  have HF : Hid (∀ W', Below W.heap.size W W' → FAt W' h) := Lib.hid fun W' hb => hf.below hb (Nat.le_refl _)
  have HC : Hid (∀ W', Below W.heap.size W W' → Calls Try.prog 61 #[.slice h.ca (cb h.f).size h.cc] W' fun e w' => ∃ v, e = .returned v ∧ TwC W.heap.size h v w' ∧ Below W'.heap.size W' w') := Lib.hid fun W' hb => by
    refine (cloneB_any W' h.ca (cb h.f).size h.cc (cb h.f) rfl (cont_src (HF.out W' hb)) (by omega)).mono ?_
    rintro e w1 ⟨A', c', rfl, ho, hb2⟩
    refine ⟨_, rfl, ⟨ho.1, ?_⟩, hb2⟩
    rcases ho.2 with h2 | ⟨g, cap, cur, h1, h2, hr⟩
    · exact .inl h2
    · exact .inr ⟨g, cap, cur, h1, Nat.le_trans hb.size h2, hr⟩
  have HU : Hid (∀ W', Below W.heap.size W W' → Calls Try.prog 65 #[.slice h.ua (Dk.starts h.f).length h.uc] W' fun e w' => ∃ v, e = .returned v ∧ TwU W.heap.size h v w' ∧ Below W'.heap.size W' w') := Lib.hid fun W' hb => by
    refine (cloneI_any W' h.ua (Dk.starts h.f).length h.uc (Dk.starts h.f) rfl (unsy_src (HF.out W' hb)) (by omega)).mono ?_
    rintro e w1 ⟨A', c', rfl, ho, hb2⟩
    refine ⟨_, rfl, ⟨ho.1, ?_⟩, hb2⟩
    rcases ho.2 with h2 | ⟨g, cap, cur, h1, h2, hr⟩
    · exact .inl h2
    · exact .inr ⟨g, cap, cur, h1, Nat.le_trans hb.size h2, hr⟩
  clear hf hl hld hzz hnl
  go_enter Try.func52, Try.ntmps52
  go_wp2_with fail
  refine ftw h W HF.out HC.out HU.out _ ?_
  intro u4 u13 u18 u19 u20 w1 hb hT
  obtain ⟨g, A, c, A', c', rfl, h2, h3, h4, h5⟩ := hT
  have HE := Lib.hid (And.intro hb (And.intro h2 (And.intro h3 (And.intro h4 h5))))
  clear hb h2 h3 h4 h5
  go_wp2_with fail
  go_ret
  obtain ⟨hb, h2, h3, h4, h5⟩ := HE.out
  refine ⟨⟨h.f, g, A, c, A', c'⟩, rfl, ⟨h2, own_zero h4, own_zero h5⟩, rfl, ?_, hb⟩
  intro k hk
  rcases hk with rfl | hk | hk
  · exact h3
  · exact (own_lt h4 hk).2
  · exact (own_lt h5 hk).2
end Go.Proofs.Ytjmnoogaffjdiaa
namespace Go.Proofs.Ytjmnoogaffjdiaa
open Go.RowKit
theorem us : Try.prog.underlying 9 = some .string := Try.underlying9
set_option maxRecDepth 100000 in
set_option maxHeartbeats 1000000 in
theorem dput_any (W : World) (p mb left : Nat) (off : Bool) (l : Sm.Row) (hh : HAt W p mb left off) (hm : SMap Try.prog 9 W mb l) (hn : l.length < maxLen) (s : ByteArray) (hs : s.size ≤ 100000000) (g : Nat) :
    Calls Try.prog 46 #[.pointer (some ⟨p, 0, none⟩), .string s, .pointer (some ⟨g, 0, none⟩)] W fun e w' => e = .returned (.tuple #[]) ∧ SMap Try.prog 9 w' mb (Sm.put l s (.pointer (some ⟨g, 0, none⟩))) ∧ Ko (atB mb) W w' := by
  have c0 := hh.c0
  have HC := Lib.hid (fun W => stringsClone_any s W (by omega))
  have HM : Hid (∀ w1, Below W.heap.size W w1 → w1.cell? ⟨p, 0, none⟩ = some (.map (some mb)) ∧ ∃ w2, (Instr.mapUpdate 41 (.map (some mb)) (.string s) (.pointer (some ⟨g, 0, none⟩))).run Try.prog w1 = .ok () w2 ∧ SMap Try.prog 9 w2 mb (Sm.put l s (.pointer (some ⟨g, 0, none⟩))) ∧ Ko (atB mb) W w2) := Lib.hid fun w1 hb => by
    refine ⟨later hb c0, ?_⟩
    obtain ⟨w2, h1, h2, h3, h4⟩ := SMap.store (e := 67) us Try.underlying41 (hm.kept (hb.block _ hm.lt)) hn s (by simp only [maxLen]; omega) (.pointer (some ⟨g, 0, none⟩))
    refine ⟨w2, h1, h2, (Ko.bel (S := atB mb) hb).trans (T := atB mb) ⟨h3.os, h3.tape, h3.output, h3.size, fun k hk hne => h3.block k hk fun he => hne (by injection he)⟩ fun _ hk => .inl hk⟩
  clear hh hm hn hs
  go_enter Try.func46, Try.ntmps46
  go_wp2_with fail
  go_region_with (go_at_call 50; refine (HC.out _).mono ?_; rintro e w1 ⟨rfl, hb1⟩; obtain ⟨k0, w2, hrun, hm2, hk2⟩ := HM.out w1 (bnext (below_drew (Below.refl _ _)) hb1); have HE := Lib.hid (And.intro hm2 hk2); clear hm2 hk2 hb1)
  all_goals go_wp2_with fail
  all_goals go_end0
  all_goals exact ⟨rfl, HE.out.1, HE.out.2⟩
end Go.Proofs.Ytjmnoogaffjdiaa
