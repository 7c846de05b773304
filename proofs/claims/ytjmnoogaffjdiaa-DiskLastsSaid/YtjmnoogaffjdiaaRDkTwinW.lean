/-
  DiskTwin walked.
-/
import Derived.Test.YtjmnoogaffjdiaaRDkSame
import Derived.Test.YtjmnoogaffjdiaaRDkGreat
import Derived.Test.YtjmnoogaffjdiaaRDkAwake
set_option linter.unusedSimpArgs false
set_option linter.unusedVariables false
namespace Go.Proofs.Ytjmnoogaffjdiaa
open Go.RowKit
section
variable {At : DkAt}
/-- What stands now, by blocks that came of the call. -/
theorem Now.out {w a b : World} {p : Nat} {S : Nat → Prop} {d : Dk.D} (h : Now At a b p S d) (hb : Below w.heap.size w a) (hS : ∀ k, S k → w.heap.size ≤ k) :
    ∃ S', At b p S' d ∧ (∀ k, S' k → w.heap.size ≤ k) ∧ Below w.heap.size w b ∧ (∀ k, S' k → S k ∨ a.heap.size ≤ k) := by
  have h0 := h.below hb hS
  obtain ⟨⟨S', h1, h2⟩, h3⟩ := h
  exact ⟨S', h1, fun k hk => (h2 k hk).elim (hS k) (fun h => Nat.le_trans hb.size h), h0, h2⟩
/-- Two disks by blocks of their own. -/
structure Two (At : DkAt) (w W : World) (p q : Nat) (S T : Nat → Prop) (d e : Dk.D) : Prop where
  b : Below w.heap.size w W
  p : At W p S d
  q : At W q T e
  s : ∀ k, S k → w.heap.size ≤ k
  t : ∀ k, T k → w.heap.size ≤ k
  ne : ∀ k, S k → ¬ T k
theorem Two.swap {w W : World} {p q : Nat} {S T : Nat → Prop} {d e : Dk.D} (h : Two At w W p q S T d e) : Two At w W q p T S e d := ⟨h.b, h.q, h.p, h.t, h.s, fun k a b => h.ne k b a⟩
theorem Two.more {w W W' : World} {p q : Nat} {S T : Nat → Prop} {d e : Dk.D} (K : DiskK At) (h : Two At w W p q S T d e) (hb : Below W.heap.size W W') : Two At w W' p q S T d e := ⟨bnext h.b hb, K.below h.p hb, K.below h.q hb, h.s, h.t, h.ne⟩
/-- The first one goes on. -/
theorem Two.go {w W W' : World} {p q : Nat} {S T : Nat → Prop} {d e d' : Dk.D} (K : DiskK At) (h : Two At w W p q S T d e) (hn : Now At W W' p S d') : ∃ S', Two At w W' p q S' T d' e ∧ (∀ k, S' k → S k ∨ W.heap.size ≤ k) := by
  obtain ⟨S', h1, h2, h3, h4⟩ := hn.out h.b h.s
  refine ⟨S', ⟨h3, h1, K.ko h.q hn.ko (fun k a b => h.ne k b a), h2, h.t, fun k hk ht => ?_⟩, h4⟩
  rcases h4 k hk with hs | hs
  · exact h.ne k hs ht
  · have := K.lt h.q k ht; omega
set_option maxRecDepth 100000 in
set_option maxHeartbeats 8000000 in
theorem diskTwin_walk (K : DiskK At) (w : World) (gs : List Ga) (A : Option Addr) (ca : Nat) (ga : Acts w A gs) (hs : List Ga) (B : Option Addr) (cb : Nat) (gb : Acts w B hs) :
    Calls Try.prog 9 #[.slice A gs.length ca, .slice B hs.length cb] w fun e w' => e = .returned (.bool true) ∧ Below w.heap.size w w' := by
  have HG := Lib.hid (great_any w gs A ca ga)
  have HG2 := Lib.hid (fun W (hb : Below w.heap.size w W) => great_any W hs B cb ⟨gb.lies.below hb, fun g hg => (gb.given g hg).below hb, gb.len⟩)
  have HA := Lib.hid (awake_any K)
  rcases hgr : Dk.great (xs gs) with _ | _
  case true =>
    rw [hgr] at HG
    clear hgr ga gb K
    go_enter Try.func9, Try.ntmps9
    go_wp2_with fail
    refine (HG.out).mono ?_
    rintro e w1 ⟨rfl, h1⟩
    have H1 := Lib.hid h1
    clear h1
    go_wp2_with fail
    refine (HA.out _).mono ?_
    rintro e w2 ⟨rfl, h2⟩
    go_wp2_with fail
    go_ret
    exact ⟨rfl, bnext H1.out h2⟩
  rw [hgr] at HG
  rcases hgr2 : Dk.great (xs hs) with _ | _
  case true =>
    rw [hgr2] at HG2
    clear hgr hgr2 ga gb K
    go_enter Try.func9, Try.ntmps9
    go_wp2_with fail
    refine (HG.out).mono ?_
    rintro e w1 ⟨rfl, h1⟩
    have H1 := Lib.hid h1
    clear h1
    go_wp2_with fail
    refine (HG2.out _ H1.out).mono ?_
    rintro e w2 ⟨rfl, h2⟩
    have H2 := Lib.hid (bnext H1.out h2)
    clear h2
    go_wp2_with fail
    refine (HA.out _).mono ?_
    rintro e w3 ⟨rfl, h3⟩
    go_wp2_with fail
    go_ret
    exact ⟨rfl, bnext H2.out h3⟩
  rw [hgr2] at HG2
  obtain ⟨_, hl1⟩ := Dk.load_small hgr
  obtain ⟨_, hl2⟩ := Dk.load_small hgr2
  obtain ⟨D1, hD1⟩ : ∃ D, D = Dk.plays Dk.D.new (xs gs) := ⟨_, rfl⟩
  obtain ⟨D2, hD2⟩ : ∃ D, D = Dk.plays D1 (xs hs) := ⟨_, rfl⟩
  have hi1 : Dk.load D1 ≤ 20200 := by
    have := Dk.load_plays (xs gs) Dk.inv_new
    have h0 : Dk.load Dk.D.new = 0 := rfl
    rw [← hD1] at this; omega
  have HP1 : Hid (∀ W p S, At W p S Dk.D.new → Below w.heap.size w W → (∀ k, S k → w.heap.size ≤ k) → Calls Try.prog 30 #[.pointer (some ⟨p, 0, none⟩), .slice A gs.length ca] W fun e w' => e = .returned (.tuple #[]) ∧ Now At W w' p S D1) := Lib.hid fun W p S h hb hS => by
    subst hD1
    exact plays_any K w W hb p S _ hS h gs A ca ga (by have h0 : Dk.load Dk.D.new = 0 := rfl; omega)
  have HP2 : Hid (∀ W p S, At W p S D1 → Below w.heap.size w W → (∀ k, S k → w.heap.size ≤ k) → Calls Try.prog 30 #[.pointer (some ⟨p, 0, none⟩), .slice B hs.length cb] W fun e w' => e = .returned (.tuple #[]) ∧ Now At W w' p S D2) := Lib.hid fun W p S h hb hS => by
    subst hD2
    exact plays_any K w W hb p S _ hS h hs B cb gb (by omega)
  have HK := Lib.hid K
  have HS := Lib.hid (same_any K)
  clear hgr hgr2 ga gb K hl1 hl2 hi1 hD1 hD2
  go_enter Try.func9, Try.ntmps9
  go_wp2_with fail
  refine (HG.out).mono ?_
  rintro e w1 ⟨rfl, h1⟩
  have H1 := Lib.hid h1
  clear h1
  go_wp2_with fail
  refine (HG2.out _ H1.out).mono ?_
  rintro e w2 ⟨rfl, h2⟩
  have H2 := Lib.hid (bnext H1.out h2)
  clear h2 H1
  go_wp2_with fail
  refine (HK.out.new _).mono ?_
  rintro e w3 ⟨p, S, rfl, a1, a2, a3⟩
  have H3 := Lib.hid (And.intro a1 (And.intro (bnext H2.out a3) (fun k (hk : S k) => Nat.le_trans H2.out.size (a2 k hk))))
  clear a1 a2 a3 H2
  go_wp2_with fail
  refine (HP1.out _ _ _ H3.out.1 H3.out.2.1 H3.out.2.2).mono ?_
  rintro e w4 ⟨rfl, hn⟩
  obtain ⟨S2, b1, b2, b3, _⟩ := hn.out H3.out.2.1 H3.out.2.2
  have H4 := Lib.hid (And.intro b1 (And.intro b2 b3))
  clear b1 b2 b3 hn H3
  go_wp2_with fail
  refine (HK.out.twin _ _ _ _ H4.out.1).mono ?_
  rintro e w5 ⟨q, T, rfl, c1, c2, c3⟩
  have H5 : Hid (Two At w w5 p q S2 T D1 D1) := Lib.hid ⟨bnext H4.out.2.2 c3, HK.out.below H4.out.1 c3, c1, H4.out.2.1, fun k hk => Nat.le_trans H4.out.2.2.size (c2 k hk), fun k hk ht => by
    have h1 := HK.out.lt H4.out.1 k hk
    have h2 := c2 k ht
    omega⟩
  clear c1 c2 c3 H4
  go_wp2_with fail
  refine (HK.out.twin _ _ _ _ H5.out.p).mono ?_
  rintro e w6 ⟨r, U, rfl, c1, c2, c3⟩
  have H6 := Lib.hid (H5.out.more HK.out c3)
  have H6u : Hid (At w6 r U D1 ∧ (∀ k, U k → ¬ T k)) := Lib.hid ⟨c1, fun k hk ht => by
    have h1 := HK.out.lt H5.out.q k ht
    have h2 := c2 k hk
    omega⟩
  clear c1 c2 c3 H5
  go_wp2_with fail
  refine (HP2.out _ _ _ H6.out.q H6.out.b H6.out.t).mono ?_
  rintro e w7 ⟨rfl, hn⟩
  obtain ⟨T2, c1, _⟩ := H6.out.swap.go HK.out hn
  have H7 := Lib.hid c1.swap
  have H7u : Hid (At w7 r U D1) := Lib.hid (HK.out.ko H6u.out.1 hn.ko H6u.out.2)
  clear c1 hn H6 H6u
  go_wp2_with fail
  refine (HS.out _ _ _ _ _ _ H7.out.p H7u.out).mono ?_
  rintro e w8 ⟨rfl, hb⟩
  have H8 := Lib.hid (H7.out.more HK.out hb)
  clear hb H7 H7u
  go_wp2_with fail
  refine (HP2.out _ _ _ H8.out.p H8.out.b H8.out.s).mono ?_
  rintro e w9 ⟨rfl, hn⟩
  obtain ⟨S3, c1, _⟩ := H8.out.go HK.out hn
  have H9 := Lib.hid c1
  clear c1 hn H8
  go_wp2_with fail
  refine (HS.out _ _ _ _ _ _ H9.out.p H9.out.q).mono ?_
  rintro e w10 ⟨rfl, hb⟩
  have H10 := Lib.hid (bnext H9.out.b hb)
  clear hb H9
  go_wp2_with fail
  refine (HA.out _).mono ?_
  rintro e w11 ⟨rfl, hb⟩
  go_wp2_with fail
  go_ret
  exact ⟨rfl, bnext H10.out hb⟩
end
end Go.Proofs.Ytjmnoogaffjdiaa
