/-
  EntryMembers walked.
-/
import Derived.Test.YtkghldobefgjeaaREnAwake
import Derived.Test.YtkghldobefgjeaaREnRef
import Derived.Test.YtkghldobefgjeaaROpen
set_option linter.unusedSimpArgs false
set_option linter.unusedVariables false
namespace Go.Proofs.Ytkghldobefgjeaa
open Go.RowKit
namespace En
theorem mmk_prefix (m : Nat) : ∀ d k, ∃ r, mmk m (k + d) = mmk m k ++ r
  | 0, k => ⟨[], by simp⟩
  | d + 1, k => by
    obtain ⟨r, hr⟩ := mmk_prefix m d k
    by_cases h : m / 2 ^ (k + d) % 2 = 1
    · exact ⟨r ++ [Nm.b8 (k + d + 1)], by rw [← Nat.add_assoc, mmk_yes m _ h, hr, List.append_assoc]⟩
    · exact ⟨r, by rw [← Nat.add_assoc, mmk_no m _ h, hr]⟩
theorem mmk_next {m k : Nat} (hk : k < 5) (h : m / 2 ^ k % 2 = 1) : (mmk m k).length < (mem5 m).length ∧ (mem5 m)[(mmk m k).length]? = some (Nm.b8 (k + 1)) ∧ (mmk m (k + 1)).length = (mmk m k).length + 1 := by
  obtain ⟨r, hr⟩ := mmk_prefix m (5 - (k + 1)) (k + 1)
  rw [show k + 1 + (5 - (k + 1)) = 5 by omega, mmk_yes m k h] at hr
  have e : mem5 m = mmk m k ++ (Nm.b8 (k + 1) :: r) := by unfold mem5; rw [hr]; simp
  refine ⟨by rw [e]; simp, by rw [e]; simp, by rw [mmk_yes m k h]; simp⟩
end En
set_option maxRecDepth 100000 in
set_option maxHeartbeats 4000000 in
theorem entryMembers_walk (a : Int) (wf : (Lit.int .u8 a).wf = true) (w : World) :
    Calls Try.prog 13 #[.int .u8 a] w fun r w' => r = .returned (.bool true) ∧ Below w.heap.size w w' := by
  obtain ⟨m, rfl, hm⟩ := u8_nat wf
  clear wf
  have HA := Lib.hid entAwake_any
  have hM := members_any m hm w
  have HJ := Lib.hid (fun W => majority_any m hm W)
  have HI := Lib.hid (fun n h1 h5 W => is_any m n hm h1 h5 W)
  have hL : (En.mem5 m).length ≤ 5 := En.mmk_len m 5
  have hj : En.maj m = (En.mem5 m).length / 2 + 1 := rfl
  obtain ⟨j, hjj⟩ : ∃ j, j = En.maj m := ⟨_, rfl⟩
  obtain ⟨n, hn⟩ : ∃ n, n = (En.mem5 m).length := ⟨_, rfl⟩
  unfold RetM at hM
  rw [← hjj] at HJ hj
  rw [← hn] at hM hj hL
  have HM := Lib.hid hM
  have Hn := Lib.hid hn
  clear hM hn hjj
  go_enter Try.func13, Try.ntmps13
  go_wp2_with fail
  refine HM.out.mono ?_
  rintro r w1 ⟨A, cap, rfl, hl, hb1⟩
  have HL := Lib.hid hl
  have HB := Lib.hid hb1
  clear hl hb1
  go_wp2_with fail
  go_loop [4, 5] (fun c i => ∃ k : Nat, k ≤ 5 ∧ i = .int .i64 ((k + 1 : Nat) : Int) ∧ c = .int .i64 (((En.mmk m k).length : Nat) : Int)) (fun _ i => 6 - (intOf i).toNat)
  case atStart => exact ⟨0, by omega, rfl, rfl⟩
  case round =>
    obtain ⟨k, hk, rfl, rfl⟩ := hrel
    have hml := En.mmk_len m k
    by_cases hlt : k < 5
    · have HIk := Lib.hid (HI.out (k + 1) (by omega) (by omega))
      by_cases hbit : m / 2 ^ k % 2 = 1
      · obtain ⟨p1, p2, p3⟩ := En.mmk_next hlt hbit
        have hIs : En.isB m (k + 1 - 1) = true := decide_eq_true hbit
        rw [← Hn.out] at p1
        obtain ⟨x, hx⟩ : ∃ x, x = (En.mmk m k).length := ⟨_, rfl⟩
        rw [← hx] at p1 p2 p3 hml ⊢
        have hcell : ∃ b off, A = some ⟨b, off, none⟩ ∧ w1.cell? ⟨b, off + x, none⟩ = some (.int .u8 ((k + 1 : Nat) : Int)) := by
          rcases HL.out with h | ⟨b, off, rfl, _, hc⟩
          · exfalso
            have := congrArg List.length h
            rw [bc_length, ← Hn.out] at this
            simp at this; omega
          · refine ⟨b, off, rfl, hc x _ ?_⟩
            unfold bc
            rw [List.getElem?_map, p2]
            simp only [Option.map_some]
            rw [Nm.b8_toNat _ (by omega)]
        obtain ⟨b, off, rfl, hcell⟩ := hcell
        have Hp3 := Lib.hid p3
        have HIs := Lib.hid hIs
        have g1 : decide ((n : Int) ≤ (x : Int)) = false := by simp; omega
        have g2 : (0 : Int) ≤ (x : Int) := by omega
        have g3 : (x : Int) < (n : Int) := by omega
        have g4 : IntKind.i64.wrap ((k + 1 : Nat) : Int) = ((k + 1 : Nat) : Int) := IntWalk.i64_in _ (by omega)
        have g5 : (((k + 1 : Nat) : Int) != ((k + 1 : Nat) : Int)) = false := by simp
        clear hbit p2 p3 hx hIs
        go_wp2_with fail
        refine (HIk.out _).mono ?_
        rw [HIs.out]
        rintro r w2 ⟨rfl, rfl⟩
        go_wp2_with fail
        go_round
        case rel => exact ⟨k + 1, by omega, by go_num, by rw [Hp3.out]; go_num⟩
        case measure => simp [intOf]; omega
      · have hIs : En.isB m (k + 1 - 1) = false := decide_eq_false hbit
        have Hp3 := Lib.hid (congrArg List.length (En.mmk_no m k hbit))
        have HIs := Lib.hid hIs
        clear hbit hIs
        go_wp2_with fail
        refine (HIk.out _).mono ?_
        rw [HIs.out]
        rintro r w2 ⟨rfl, rfl⟩
        go_wp2_with fail
        go_round
        case rel => exact ⟨k + 1, by omega, by go_num, by rw [Hp3.out]⟩
        case measure => simp [intOf]; omega
    · obtain rfl : k = 5 := by omega
      have e5 : (En.mmk m 5).length = n := Hn.out.symm
      rw [e5]
      have g1 : ((n : Int) == (n : Int)) = true := by simp
      have g2 : decide ((n : Int) < 2 * (j : Int)) = true := by simp; omega
      have g3 : decide (2 * ((j : Int) - 1) ≤ (n : Int)) = true := by simp; omega
      have g2' : ((n : Int) < 2 * (j : Int)) = True := by simp; omega
      have g3' : (2 * ((j : Int) - 1) ≤ (n : Int)) = True := by simp; omega
      have hj3 : j ≤ 3 := by omega
      clear e5 hj
      go_wp2_with fail
      refine (HJ.out _).mono ?_
      rintro r w2 ⟨rfl, hb2⟩
      have HB2 := Lib.hid (bnext HB.out hb2)
      clear hb2
      go_wp2_with fail
      refine (HA.out _).mono ?_
      rintro r w3 ⟨rfl, hb3⟩
      have HB3 := Lib.hid (bnext HB2.out hb3)
      clear hb3
      go_wp2_with fail
      go_ret
      exact ⟨rfl, HB3.out⟩
end Go.Proofs.Ytkghldobefgjeaa
