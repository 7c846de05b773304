/-
  DiskPlays walked.
-/
import Derived.Test.YtjmnoogaffjdiaaRDkStands
import Derived.Test.YtjmnoogaffjdiaaRDkGreat
import Derived.Test.YtjmnoogaffjdiaaRDkAwake
set_option linter.unusedSimpArgs false
set_option linter.unusedVariables false
namespace Go.Proofs.Ytjmnoogaffjdiaa
open Go.RowKit
/-- The program's disk and the document's, by blocks of their own. -/
structure Pl (w W : World) (p q : Nat) (d e : Dk.D) : Prop where
  ex : ∃ S T, DmAt W p S d ∧ RAt W q T e ∧ (∀ k, S k → w.heap.size ≤ k) ∧ (∀ k, T k → w.heap.size ≤ k) ∧ ∀ k, S k → ¬ T k
  b : Below w.heap.size w W
theorem Pl.more {w W W' : World} {p q : Nat} {d e : Dk.D} (h : Pl w W p q d e) (hb : Below W.heap.size W W') : Pl w W' p q d e := by
  obtain ⟨⟨S, T, h1, h2, h3, h4, h5⟩, h6⟩ := h
  exact ⟨⟨S, T, diskK.below h1 hb, h2.below hb, h3, h4, h5⟩, h6.trans (hb.mono h6.size)⟩
theorem pl_does {w W : World} {p q : Nat} {d e : Dk.D} (h : Pl w W p q d e) {g : Ga} (gv : GivenA w g) (hl : Dk.load d + Dk.actLoad g.x ≤ 100000000) :
    Calls Try.prog 13 #[.pointer (some ⟨p, 0, none⟩), .agg (actC g)] W fun r w' => r = .returned (.tuple #[.string ⟨(Dk.does d g.x).1.1.toArray⟩, .int .i64 (eno (Dk.does d g.x).1.2)]) ∧ Pl w w' p q (Dk.does d g.x).2 e := by
  obtain ⟨⟨S, T, h1, h2, h3, h4, h5⟩, h6⟩ := h
  refine (does_any diskK W p S d g h1 (gv.below h6) (Away.of_lt gv.kl (Nat.le_refl _) h3) (Away.of_lt gv.tl (Nat.le_refl _) h3) hl).mono fun r w' hh => ?_
  obtain ⟨e1, ⟨S', n1, n2⟩, n3⟩ := hh
  refine ⟨e1, ⟨S', T, n1, h2.ko n3 fun k ht hs => h5 k hs ht, fun k hk => (n2 k hk).elim (h3 k) (Nat.le_trans h6.size), h4, fun k hs ht => ?_⟩, Ko.below h6 n3 h6.size h3⟩
  rcases n2 k hs with h | h
  · exact h5 k h ht
  · have := h2.lt ht; omega
theorem pl_said {w W : World} {p q : Nat} {d e : Dk.D} (h : Pl w W p q d e) {g : Ga} (gv : GivenA w g) (hl : Dk.load e + Dk.actLoad g.x ≤ 100000000) :
    Calls Try.prog 14 #[.pointer (some ⟨q, 0, none⟩), .agg (actC g)] W fun r w' => r = .returned (.tuple #[.string ⟨(Dk.does e g.x).1.1.toArray⟩, .int .i64 (eno (Dk.does e g.x).1.2)]) ∧ Pl w w' p q d (Dk.does e g.x).2 := by
  obtain ⟨⟨S, T, h1, h2, h3, h4, h5⟩, h6⟩ := h
  refine (said_any W q T e g h2 (gv.below h6) (Away.of_lt gv.kl (Nat.le_refl _) h4) (Away.of_lt gv.tl (Nat.le_refl _) h4) hl).mono fun r w' hh => ?_
  obtain ⟨e1, ⟨T', n1, n2⟩, n3⟩ := hh
  refine ⟨e1, ⟨S, T', diskK.ko h1 n3 h5, n1, h3, fun k hk => (n2 k hk).elim (h4 k) (Nat.le_trans h6.size), fun k hs ht => ?_⟩, Ko.below h6 n3 h6.size h4⟩
  rcases n2 k ht with h | h
  · exact h5 k hs h
  · have := diskK.lt h1 k hs; omega
theorem pl_stands {w W : World} {p q : Nat} {d : Dk.D} (h : Pl w W p q d d) :
    Calls Try.prog 15 #[.pointer (some ⟨p, 0, none⟩), .pointer (some ⟨q, 0, none⟩)] W fun r w' => r = .returned (.bool true) ∧ Pl w w' p q d d := by
  obtain ⟨S, T, h1, h2, _⟩ := h.ex
  exact (stands_any W p q S T d h1 h2).mono fun r w' hh => ⟨hh.1, h.more hh.2⟩
/-- The document's disk, new. -/
theorem rat_new (W : World) : RAt (W.alloc (.cells #[.slice none 0 0, .bool false, .int .i64 0] 30)) W.heap.size (fun k => k = W.heap.size) Dk.D.new := by
  refine ⟨[], none, 0, ⟨⟨heap_alloc_new W _, ⟨rfl, .inl ⟨rfl, rfl⟩⟩, (fun _ h => by cases h), (fun _ h => by cases h), (fun _ h => by cases h), (fun _ _ h => by cases h), (fun _ h => by cases h)⟩, rfl, Dk.inv_new, by simp [Dk.load, Dk.D.new, Dk.fsLoad], by simp [Dk.D.new]⟩, fun k => ⟨fun h => .inl h, fun h => ?_⟩⟩
  rcases h with h | ⟨o, h⟩ | ⟨x, hx, _⟩
  · exact h
  · cases h
  · cases hx
theorem beq_self (s : ByteArray) : (s.toList == s.toList) = true := by simp
set_option maxRecDepth 100000 in
set_option maxHeartbeats 8000000 in
theorem diskPlays_walk (w : World) (gs : List Ga) (A : Option Addr) (ca : Nat) (ga : Acts w A gs) :
    Calls Try.prog 3 #[.slice A gs.length ca] w fun e w' => e = .returned (.bool true) ∧ Below w.heap.size w w' := by
  have HG := Lib.hid (great_any w gs A ca ga)
  have HA := Lib.hid (awake_any diskK)
  rcases hgr : Dk.great (xs gs) with _ | _
  case true =>
    rw [hgr] at HG
    clear hgr ga
    go_enter Try.func3, Try.ntmps3
    go_wp2_with fail
    refine (HG.out).mono ?_
    rintro e w1 ⟨rfl, h1⟩
    have H1 := Lib.hid h1
    clear h1
    go_wp2_with fail
    refine (HA.out _).mono ?_
    rintro e w2 ⟨rfl, h2⟩
    go_wp2_with fail
    go_ret
    exact ⟨rfl, bnext H1.out h2⟩
  rw [hgr] at HG
  obtain ⟨_, hl1⟩ := Dk.load_small hgr
  have hlen : gs.length ≤ maxLen := ga.len
  simp only [maxLen] at hlen
  have HL : Hid (∀ k, (hk : k < gs.length) → Dk.load (Dk.plays Dk.D.new ((xs gs).take k)) + Dk.actLoad gs[k].x ≤ 100000000) := Lib.hid fun k hk => by
    have h1 := Dk.load_plays ((xs gs).take k) Dk.inv_new
    have h2 := actsLoad_at (xs gs) k (by rw [xs_length]; exact hk)
    rw [xs_at gs k hk] at h2
    have h0 : Dk.load Dk.D.new = 0 := rfl
    omega
  have HP : Hid (∀ k, (hk : k < gs.length) → Dk.plays Dk.D.new ((xs gs).take (k + 1)) = (Dk.does (Dk.plays Dk.D.new ((xs gs).take k)) gs[k].x).2) := Lib.hid fun k hk => by
    rw [Dk.plays_take (by rw [xs_length]; exact hk), xs_at gs k hk]
  have HGa := Lib.hid ga
  clear hgr ga hl1
  go_enter Try.func3, Try.ntmps3
  go_wp2_with fail
  refine (HG.out).mono ?_
  rintro e w1 ⟨rfl, h1⟩
  have H1 := Lib.hid h1
  clear h1
  go_wp2_with fail
  refine (dNew_any w1).mono ?_
  rintro e w2 ⟨p, S, rfl, n1, n2, n3⟩
  have H2 : Hid (Pl w (w2.alloc (.cells #[.slice none 0 0, .bool false, .int .i64 0] 30)) p w2.heap.size Dk.D.new Dk.D.new) := Lib.hid (by
    have hb2 := H1.out.trans (n3.mono H1.out.size)
    refine ⟨⟨S, _, diskK.below n1 (bnew (Below.refl _ _) _), rat_new w2, fun k hk => Nat.le_trans H1.out.size (n2 k hk), fun k hk => ?_, fun k hs ht => ?_⟩, bnew hb2 _⟩
    · have : k = w2.heap.size := hk
      have := hb2.size
      omega
    · have h1 : k = w2.heap.size := ht
      have := diskK.lt n1 k hs
      omega)
  clear n1 n2 n3
  go_wp2_with fail
  go_loopw [5] (fun i wr => ∃ k : Nat, k ≤ gs.length ∧ i = .int .i64 (k : Int) ∧ Pl w wr p w2.heap.size (Dk.plays Dk.D.new ((xs gs).take k)) (Dk.plays Dk.D.new ((xs gs).take k))) (fun i _ => gs.length - (intOf i).toNat)
  case atStart => exact ⟨0, Nat.zero_le _, rfl, H2.out⟩
  case round =>
    obtain ⟨k, hk, rfl, hn⟩ := hrel
    by_cases hlt : k < gs.length
    · obtain ⟨b, off, hAe, hE⟩ := (HGa.out.lies.below hn.b).act k hlt
      have hg := HGa.out.given gs[k] (List.getElem_mem hlt)
      have hL := HL.out k hlt
      have hP := HP.out k hlt
      obtain ⟨g, hgk⟩ : ∃ g, g = gs[k] := ⟨_, rfl⟩
      rw [← hgk] at hE hg hL hP
      obtain ⟨D, hD⟩ : ∃ D, D = Dk.plays Dk.D.new ((xs gs).take k) := ⟨_, rfl⟩
      rw [← hD] at hn hL hP
      obtain ⟨D', hD'⟩ : ∃ D', D' = (Dk.does D g.x).2 := ⟨_, rfl⟩
      obtain ⟨s, hs⟩ : ∃ s : ByteArray, s = ⟨(Dk.does D g.x).1.1.toArray⟩ := ⟨_, rfl⟩
      obtain ⟨ev, hev⟩ : ∃ ev : Int, ev = eno (Dk.does D g.x).1.2 := ⟨_, rfl⟩
      have HDo : Hid (Calls Try.prog 13 #[.pointer (some ⟨p, 0, none⟩), .agg (actC g)] wr fun r w' => r = .returned (.tuple #[.string s, .int .i64 ev]) ∧ Pl w w' p w2.heap.size D' D) := Lib.hid (by rw [hs, hev, hD']; exact pl_does hn hg hL)
      have HSa : Hid (∀ W, Pl w W p w2.heap.size D' D → Calls Try.prog 14 #[.pointer (some ⟨w2.heap.size, 0, none⟩), .agg (actC g)] W fun r w' => r = .returned (.tuple #[.string s, .int .i64 ev]) ∧ Pl w w' p w2.heap.size D' D') := Lib.hid fun W hW => by
        have := pl_said hW hg hL
        rw [← hs, ← hev, ← hD'] at this
        exact this
      have hlie : ∀ W, Pl w W p w2.heap.size D' D → W.rangeAt b (off + k * 6) (actC g).toList := fun W hW => by
        obtain ⟨b9, off9, hA9, hE9⟩ := (HGa.out.lies.below hW.b).act k hlt
        rw [← hgk] at hE9
        rw [hAe] at hA9
        injection hA9 with hA9
        injection hA9 with x1 x2
        subst x1 x2
        exact hE9.rng
      have HRg := Lib.hid hE.rng
      have HRg2 := Lib.hid hlie
      have HZ := Lib.hid (sizeAct g)
      have HP1 : Hid (Dk.plays Dk.D.new ((xs gs).take (k + 1)) = D') := Lib.hid (by rw [hP, hD'])
      subst hAe
      have m1 := beq_self s
      have m2 : (ev != ev) = false := by simp
      clear hE hg hL hP hgk hn hD hD' hs hev hlie
      generalize actC g = Y at HDo HSa HRg HRg2 HZ
      go_wp2_with (refine wpList_load_rng rfl 38 _ rfl b (off + k * 6) rfl Y _ HRg.out Try.underlying38 rfl HZ.out ?_)
      refine (HDo.out).mono ?_
      rintro e w3 ⟨rfl, h3⟩
      have HR3 := Lib.hid (HRg2.out w3 h3)
      have HS3 := Lib.hid (HSa.out w3 h3)
      clear h3
      go_wp2_with (refine wpList_load_rng rfl 38 _ rfl b (off + k * 6) rfl Y _ HR3.out Try.underlying38 rfl HZ.out ?_)
      refine (HS3.out).mono ?_
      rintro e w4 ⟨rfl, h4⟩
      have HSt := Lib.hid (pl_stands h4)
      clear h4
      go_wp2_with fail
      refine (HSt.out).mono ?_
      rintro e w5 ⟨rfl, h5⟩
      have H5 := Lib.hid h5
      clear h5
      go_wp2_with fail
      go_roundw
      case rel => exact ⟨k + 1, by omega, by go_num, by rw [HP1.out]; exact H5.out⟩
      case measure => simp [intOf]; omega
    · obtain rfl : k = gs.length := by omega
      have HB := Lib.hid hn.b
      clear hn
      go_wp2_with fail
      refine (HA.out _).mono ?_
      rintro e w3 ⟨rfl, h3⟩
      have H3 := Lib.hid (bnext HB.out h3)
      clear h3
      go_wp2_with fail
      go_ret
      exact ⟨rfl, H3.out⟩
end Go.Proofs.Ytjmnoogaffjdiaa
