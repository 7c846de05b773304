/-
  Acts of layer 12 in memory; does and Great walked.
-/
import Derived.Test.YtlnohjboldenpaaRPgLem
set_option linter.unusedSimpArgs false
set_option linter.unusedVariables false
namespace Go.Proofs.Ytlnohjboldenpaa
open Go.RowKit
/-- An act's cells at their place. -/
structure ActL12 (w : World) (b o : Nat) (g : Pg.A) : Prop where
  lt : b < w.heap.size
  c0 : w.cell? ⟨b, o, none⟩ = some (.int .u8 (g.op : Int))
  c1 : w.cell? ⟨b, o + 1, none⟩ = some (.bool g.ok)
  c2 : w.cell? ⟨b, o + 2, none⟩ = some (.int .u64 (g.a : Int))
  c3 : w.cell? ⟨b, o + 3, none⟩ = some (.int .u64 (g.b : Int))
  c4 : w.cell? ⟨b, o + 4, none⟩ = some (.int .u8 (g.c : Int))
theorem ActL12.bel {w W : World} {b o : Nat} {g : Pg.A} (h : ActL12 w b o g) (hb : Below w.heap.size w W) : ActL12 W b o g :=
  ⟨Nat.lt_of_lt_of_le h.lt hb.size, (hb.cell (p := ⟨b, o, none⟩) h.lt).trans h.c0, (hb.cell (p := ⟨b, o + 1, none⟩) h.lt).trans h.c1, (hb.cell (p := ⟨b, o + 2, none⟩) h.lt).trans h.c2, (hb.cell (p := ⟨b, o + 3, none⟩) h.lt).trans h.c3, (hb.cell (p := ⟨b, o + 4, none⟩) h.lt).trans h.c4⟩
theorem Lies.act12 {w : World} {A : Option Addr} {gs : List Pg.A} (h : Lies w A (pas gs)) (i : Nat) (hi : i < gs.length) : ∃ b off, A = some ⟨b, off, none⟩ ∧ ActL12 w b (off + i * 5) gs[i] := by
  rcases h with h | ⟨b, off, rfl, hlt, hc⟩
  · have := pas_length gs
    rw [h] at this
    simp at this; omega
  · have key : ∀ j v, j < 5 → (pa1 gs[i])[j]? = some v → w.cell? ⟨b, off + i * 5 + j, none⟩ = some v := fun j v hj hv => by
      have := hc (5 * i + j) v ((pas_at gs i hi j hj).trans hv)
      have e : off + i * 5 + j = off + (5 * i + j) := by omega
      rw [e]; exact this
    exact ⟨b, off, rfl, hlt, key 0 _ (by decide) rfl, key 1 _ (by decide) rfl, key 2 _ (by decide) rfl, key 3 _ (by decide) rfl, key 4 _ (by decide) rfl⟩
/-- Acts that are more than the laws go through. -/
def Pg.great (gs : List Pg.A) : Bool := decide (200 < gs.length) || gs.any fun g => decide (Pg.lim ≤ g.a)
theorem great1_any (n : Nat) (w : World) : Calls Try.prog 27 #[.int .u64 (n : Int)] w fun e w' => e = .returned (.bool (decide (Pg.lim ≤ n))) ∧ w' = w := by
  unfold Pg.lim
  by_cases h : 4611686018427387904 ≤ n
  · have a0 : decide (4611686018427387904 ≤ n) = true := decide_eq_true h
    have a1 : decide ((4611686018427387904 : Int) ≤ (n : Int)) = true := by simp; omega
    have a2 : ((4611686018427387904 : Int) ≤ (n : Int)) = True := by simp; omega
    rw [a0]
    clear h
    go_enter Try.func27, Try.ntmps27
    go_wp2_with fail
    go_ret
    exact ⟨rfl, rfl⟩
  · have a0 : decide (4611686018427387904 ≤ n) = false := decide_eq_false h
    have a1 : decide ((4611686018427387904 : Int) ≤ (n : Int)) = false := by simp; omega
    have a2 : ((4611686018427387904 : Int) ≤ (n : Int)) = False := by simp; omega
    rw [a0]
    clear h
    go_enter Try.func27, Try.ntmps27
    go_wp2_with fail
    go_ret
    exact ⟨rfl, rfl⟩
set_option maxRecDepth 100000 in
set_option maxHeartbeats 2000000 in
theorem great12_any (w : World) (A : Option Addr) (cp : Nat) (gs : List Pg.A) (hA : Lies w A (pas gs)) (hn : gs.length ≤ maxLen) :
    Calls Try.prog 38 #[.slice A gs.length cp] w (RetP (.bool (Pg.great gs)) w) := by
  have HA := Lib.hid hA
  have HG : Hid (Pg.great gs = (decide (200 < gs.length) || gs.any fun g => decide (Pg.lim ≤ g.a))) := Lib.hid rfl
  have HD : Hid (∀ i (h : i < gs.length), (gs.drop i).any (fun g => decide (Pg.lim ≤ g.a)) = (decide (Pg.lim ≤ gs[i].a) || (gs.drop (i + 1)).any fun g => decide (Pg.lim ≤ g.a))) := Lib.hid fun i h => by rw [List.drop_eq_getElem_cons h, List.any_cons]
  have H0 : Hid (gs.any (fun g => decide (Pg.lim ≤ g.a)) = (gs.drop 0).any fun g => decide (Pg.lim ≤ g.a)) := Lib.hid rfl
  obtain ⟨n, hnn⟩ : ∃ n, n = gs.length := ⟨_, rfl⟩
  have Hn := Lib.hid hnn
  have HE : Hid ((gs.drop n).any (fun g => decide (Pg.lim ≤ g.a)) = false) := Lib.hid (by rw [List.drop_eq_nil_of_le (by omega)]; rfl)
  rw [← hnn] at HG hn ⊢
  obtain ⟨T, hT⟩ : ∃ T, T = Pg.great gs := ⟨_, rfl⟩
  rw [← hT] at HG ⊢
  simp only [maxLen] at hn
  clear hA hnn hT
  go_enter Try.func38, Try.ntmps38
  by_cases hg : 200 < n
  · have q1 : decide ((200 : Int) < (n : Int)) = true := by simp; omega
    have q2 : ((200 : Int) < (n : Int)) = True := by simp; omega
    have E : Hid (T = true) := Lib.hid (by rw [HG.out, decide_eq_true hg, Bool.true_or])
    go_wp2_with fail
    go_ret
    rw [E.out]
    exact ⟨rfl, Below.refl _ _⟩
  have q1 : decide ((200 : Int) < (n : Int)) = false := by simp; omega
  have q2 : ((200 : Int) < (n : Int)) = False := by simp; omega
  rw [decide_eq_false hg, Bool.false_or, H0.out] at HG
  have HGi := Lib.hid HG
  go_wp2_with fail
  clear q1 q2
  go_loopw [3] (fun iv wr => ∃ (i : Nat), i ≤ n ∧ iv = .int .i64 (i : Int) ∧ T = ((gs.drop i).any fun g => decide (Pg.lim ≤ g.a)) ∧ wr = w) (fun iv _ => n - (intOf iv).toNat)
  case atStart => exact ⟨0, Nat.zero_le _, rfl, HG.out, rfl⟩
  case round =>
    obtain ⟨i, hin, rfl, hT, rfl⟩ := hrel
    have HT := Lib.hid hT
    by_cases hlt : i < n
    · have hie : i < gs.length := by rw [← Hn.out]; exact hlt
      obtain ⟨bl, off, rfl, hE⟩ := HA.out.act12 i hie
      have HDi := Lib.hid (HD.out i hie)
      obtain ⟨x, hx⟩ : ∃ x, x = gs[i] := ⟨_, rfl⟩
      rw [← hx] at hE HDi
      have hc := hE.c2
      have H1 := Lib.hid (fun W => great1_any x.a W)
      obtain ⟨B, hB⟩ : ∃ B, B = decide (Pg.lim ≤ x.a) := ⟨_, rfl⟩
      rw [← hB] at HDi H1
      clear hx hE hT hB
      cases B with
      | true =>
        have E : Hid (T = true) := Lib.hid (by rw [HT.out, HDi.out, Bool.true_or])
        go_wp2_with (go_at_call 27; refine (H1.out _).mono ?_; rintro e w1 ⟨rfl, rfl⟩)
        go_ret
        rw [E.out]
        exact ⟨rfl, Below.refl _ _⟩
      | false =>
        have E : Hid (T = ((gs.drop (i + 1)).any fun g => decide (Pg.lim ≤ g.a))) := Lib.hid (by rw [HT.out, HDi.out, Bool.false_or])
        go_wp2_with (go_at_call 27; refine (H1.out _).mono ?_; rintro e w1 ⟨rfl, rfl⟩)
        go_roundw
        case rel => exact ⟨i + 1, by omega, by go_num, E.out, by first | rfl | trivial⟩
        case measure => simp [intOf]; omega
    · obtain rfl : i = n := by omega
      have E : Hid (T = false) := Lib.hid (by rw [HT.out, HE.out])
      go_wp2_with fail
      go_ret
      rw [E.out]
      exact ⟨rfl, Below.refl _ _⟩
theorem pg_great_no {gs : List Pg.A} (h : Pg.great gs = false) : gs.length ≤ 200 ∧ ∀ g ∈ gs, g.a < Pg.lim := by
  unfold Pg.great at h
  rw [Bool.or_eq_false_iff] at h
  refine ⟨by simpa using h.1, fun g hg => ?_⟩
  have := List.any_eq_false.1 h.2 g hg
  simpa using this
end Go.Proofs.Ytlnohjboldenpaa
