/-
  Layer 13: the contracts in a law's frame; awake walked.
-/
import Derived.Test.YtlnohjboldenpaaPRdDrop
set_option linter.unusedSimpArgs false
set_option linter.unusedVariables false
namespace Go.Proofs.Ytlnohjboldenpaa
open Go.RowKit Go.Sort
/-- Since w a list has been made at block p, and stands for r. -/
structure RI (w W : World) (p : Nat) (r : Rd.R) : Prop where
  at_ : ∃ S, RdAt W p S r ∧ ∀ k, S k → w.heap.size ≤ k
  bl : Below w.heap.size w W
theorem RI.bel {w W W' : World} {p : Nat} {r : Rd.R} (h : RI w W p r) (hb : Below W.heap.size W W') : RI w W' p r := by
  obtain ⟨⟨S, h1, h2⟩, h3⟩ := h
  exact ⟨⟨S, h1.bel hb, h2⟩, bnext h3 hb⟩
theorem RNow.ri {w W W' : World} {p : Nat} {S : Nat → Prop} {r : Rd.R} (h : RNow W W' p S r) (hb : Below w.heap.size w W) (hS : ∀ k, S k → w.heap.size ≤ k) : RI w W' p r := by
  obtain ⟨⟨S', h1, h2⟩, h3⟩ := h
  exact ⟨⟨S', h1, fun k hk => (h2 k hk).elim (hS k) (Nat.le_trans hb.size)⟩, h3.below hb hS⟩
theorem ri_new (w W : World) (hb : Below w.heap.size w W) : Calls Try.prog 42 #[] W fun e w' => ∃ p, e = .returned (.pointer (some ⟨p, 0, none⟩)) ∧ RI w w' p ⟨[], []⟩ :=
  (rnew_any W).mono fun e w' ⟨p, h1, h2, h3, h4⟩ => ⟨p, h1, ⟨⟨_, h2, fun k hk => by rw [hk]; exact Nat.le_trans hb.size h3⟩, bnext hb h4⟩⟩
theorem ri_len {w W : World} {p : Nat} {r : Rd.R} (h : RI w W p r) : Calls Try.prog 45 #[.pointer (some ⟨p, 0, none⟩)] W fun e w' => e = .returned (.tuple #[.int .i64 (r.b.length : Int), .int .i64 (r.w.length : Int)]) ∧ RI w w' p r := by
  obtain ⟨⟨S, h1, h2⟩, h3⟩ := h
  exact (rlen_any W h1).mono fun e w' ⟨g1, g2⟩ => ⟨g1, ⟨⟨S, h1.bel g2, h2⟩, bnext h3 g2⟩⟩
theorem ri_ask {w W : World} {p : Nat} {r : Rd.R} (h : RI w W p r) (x : Nat) (hx : x < Nm.top) (hf : r.b.length + r.w.length + 1 ≤ 200000) : Calls Try.prog 47 #[.pointer (some ⟨p, 0, none⟩), .int .u64 (x : Int)] W fun e w' => e = .returned (.bool (!Rd.has r x)) ∧ RI w w' p (Rd.ask r x) := by
  obtain ⟨⟨S, h1, h2⟩, h3⟩ := h
  exact (rask_any W h1 x hx hf).mono fun e w' ⟨g1, g2⟩ => ⟨g1, g2.ri h3 h2⟩
theorem ri_begin {w W : World} {p : Nat} {r : Rd.R} (h : RI w W p r) (i t : Nat) (hi : i < Nm.top) (ht : t < Nm.top) (hf : r.b.length + r.w.length ≤ 100000) : Calls Try.prog 48 #[.pointer (some ⟨p, 0, none⟩), .int .u64 (i : Int), .int .u64 (t : Int)] W fun e w' => e = .returned (.int .i64 (r.w.length : Int)) ∧ RI w w' p (Rd.begin r i t) := by
  obtain ⟨⟨S, h1, h2⟩, h3⟩ := h
  exact (rbegin_any W h1 i t hi ht hf).mono fun e w' ⟨g1, g2⟩ => ⟨g1, g2.ri h3 h2⟩
theorem ri_told {w W : World} {p : Nat} {r : Rd.R} (h : RI w W p r) (t : Nat) : Calls Try.prog 49 #[.pointer (some ⟨p, 0, none⟩), .int .u64 (t : Int)] W fun e w' => ∃ A c, e = .returned (.slice A (Rd.told r t).length c) ∧ Sl w' 3 A (Rd.told r t).length c (rdc (Rd.told r t)) ∧ RI w w' p (Rd.left r t) := by
  obtain ⟨⟨S, h1, h2⟩, h3⟩ := h
  refine (rtold_any W h1 t).mono fun e w' ⟨A, c, g1, g2, _, g4, g5⟩ => ⟨A, c, g1, g2, ⟨⟨S, g4, h2⟩, g5.below h3 h2⟩⟩
theorem ri_drop {w W : World} {p : Nat} {r : Rd.R} (h : RI w W p r) : Calls Try.prog 50 #[.pointer (some ⟨p, 0, none⟩)] W fun e w' => ∃ A c, e = .returned (.slice A (Rd.ids r).length c) ∧ Sl w' 1 A (Rd.ids r).length c (uc (Rd.ids r)) ∧ RI w w' p ⟨[], []⟩ := by
  obtain ⟨⟨S, h1, h2⟩, h3⟩ := h
  refine (rdrop_any W h1).mono fun e w' ⟨A, c, g1, g2, _, g4, g5⟩ => ⟨A, c, g1, g2, ⟨⟨S, g4, h2⟩, g5.below h3 h2⟩⟩
theorem Lies.rd0 {w : World} {A : Option Addr} {e : Rd.E} {es : List Rd.E} (h : Lies w A (rdc (e :: es))) : ∃ b off, A = some ⟨b, off, none⟩ ∧ w.cell? ⟨b, off, none⟩ = some (.int .u64 (e.id : Int)) ∧ w.cell? ⟨b, off + 1, none⟩ = some (.int .u64 (e.idx : Int)) ∧ w.cell? ⟨b, off + 2, none⟩ = some (.int .u64 (e.rnd : Int)) := by
  obtain ⟨b, off, h1, h2⟩ := h.rd 0 (Nat.zero_lt_succ _)
  rw [Nat.zero_mul, Nat.add_zero] at h2
  exact ⟨b, off, h1, h2.c0, h2.c1, h2.c2⟩
set_option maxRecDepth 100000 in
set_option maxHeartbeats 1000000 in
theorem rdAwake_any (w : World) : Calls Try.prog 41 #[] w (RetR (.bool true) w) := by
  have HN := Lib.hid (ri_new w w (Below.refl _ _))
  have HA1 : Hid (∀ W p, RI w W p ⟨[], []⟩ → Calls Try.prog 47 #[.pointer (some ⟨p, 0, none⟩), .int .u64 4] W fun e w' => e = .returned (.bool true) ∧ RI w w' p ⟨[], [4]⟩) := Lib.hid fun W p h => ri_ask h 4 (by decide) (by decide)
  have HA2 : Hid (∀ W p, RI w W p ⟨[], [4]⟩ → Calls Try.prog 47 #[.pointer (some ⟨p, 0, none⟩), .int .u64 4] W fun e w' => e = .returned (.bool false) ∧ RI w w' p ⟨[], [4]⟩) := Lib.hid fun W p h => ri_ask h 4 (by decide) (by decide)
  have HB : Hid (∀ W p, RI w W p ⟨[], [4]⟩ → Calls Try.prog 48 #[.pointer (some ⟨p, 0, none⟩), .int .u64 7, .int .u64 2] W fun e w' => e = .returned (.int .i64 1) ∧ RI w w' p ⟨[⟨4, 7, 2⟩], []⟩) := Lib.hid fun W p h => ri_begin h 7 2 (by decide) (by decide) (by decide)
  have HT1 : Hid (∀ W p, RI w W p ⟨[⟨4, 7, 2⟩], []⟩ → Calls Try.prog 49 #[.pointer (some ⟨p, 0, none⟩), .int .u64 1] W fun e w' => ∃ A c, e = .returned (.slice A 0 c) ∧ Sl w' 3 A 0 c [] ∧ RI w w' p ⟨[⟨4, 7, 2⟩], []⟩) := Lib.hid fun W p h => ri_told h 1
  have HT2 : Hid (∀ W p, RI w W p ⟨[⟨4, 7, 2⟩], []⟩ → Calls Try.prog 49 #[.pointer (some ⟨p, 0, none⟩), .int .u64 2] W fun e w' => ∃ A c, e = .returned (.slice A 1 c) ∧ Sl w' 3 A 1 c (rdc [⟨4, 7, 2⟩]) ∧ RI w w' p ⟨[], []⟩) := Lib.hid fun W p h => ri_told h 2
  have qe : ∀ W : World, (binOp .eql 97 (.agg #[.int .u64 4, .int .u64 7, .int .u64 2]) (.agg #[.int .u64 4, .int .u64 7, .int .u64 2])).run Try.prog W = .ok (.bool true) W := fun W => by kernel_rfl
  go_enter Try.func41, Try.ntmps41
  go_wp2_with (first
    | (go_at_call 49; refine (HT2.out _ _ i5).mono ?_; rintro e w6 ⟨A6, c6, rfl, l6, i6⟩; obtain ⟨b, off, rfl, d0, d1, d2⟩ := l6.liesV.rd0; clear l6)
    | (go_at_call 49; refine (HT1.out _ _ i4).mono ?_; rintro e w5 ⟨A5, c5, rfl, _, i5⟩)
    | (go_at_call 48; refine (HB.out _ _ i3).mono ?_; rintro e w4 ⟨rfl, i4⟩)
    | (go_at_call 47; refine (HA2.out _ _ i2).mono ?_; rintro e w3 ⟨rfl, i3⟩)
    | (go_at_call 47; refine (HA1.out _ _ i1).mono ?_; rintro e w2 ⟨rfl, i2⟩)
    | (go_at_call 42; refine HN.out.mono ?_; rintro e w1 ⟨p, rfl, i1⟩))
  go_ret
  exact ⟨rfl, i6.bl⟩
end Go.Proofs.Ytlnohjboldenpaa
