/-
  Two laws of layer 10 walked: majorities of what is near meet; what is more or less by one.
-/
import Derived.Test.YtdodpocckjcomaaRCfAwake
import Derived.Test.YtdodpocckjcomaaRCfOpen
set_option linter.unusedSimpArgs false
set_option linter.unusedVariables false
namespace Go.Proofs.Ytdodpocckjcomaa
open Go.RowKit
set_option maxRecDepth 100000 in
set_option maxHeartbeats 2000000 in
theorem confMeets_walk (a0 : Int) (w0 : (Lit.int .u8 a0).wf = true) (a1 : Int) (w1 : (Lit.int .u8 a1).wf = true) (a2 : Int) (w2 : (Lit.int .u8 a2).wf = true) (a3 : Int) (w3 : (Lit.int .u8 a3).wf = true) (w : World) :
    Calls Try.prog 5 #[.int .u8 a0, .int .u8 a1, .int .u8 a2, .int .u8 a3] w fun e w' => e = .returned (.bool true) ∧ Below w.heap.size w w' := by
  obtain ⟨a, rfl, ha⟩ := c_u8 w0
  obtain ⟨b, rfl, hb⟩ := c_u8 w1
  obtain ⟨x, rfl, hx⟩ := c_u8 w2
  obtain ⟨y, rfl, hy⟩ := c_u8 w3
  clear w0 w1 w2 w3
  have HN := Lib.hid (fun w => near_any a b ha hb w)
  have HA := Lib.hid (fun w => won_any a x ha hx w)
  have HB := Lib.hid (fun w => won_any b y hb hy w)
  have HW := Lib.hid (fun w => cawake_any w)
  have HM : Hid (Cf.near a b = true → Cf.won a x = true → Cf.won b y = true → ∃ n, 1 ≤ n ∧ n ≤ 5 ∧ Cf.has a n = true ∧ Cf.has b n = true ∧ Cf.has x n = true ∧ Cf.has y n = true) := Lib.hid Cf.meets
  have HHa := Lib.hid (fun n (hn : n < 256) w => has_any a n ha hn w)
  have HHb := Lib.hid (fun n (hn : n < 256) w => has_any b n hb hn w)
  have HHx := Lib.hid (fun n (hn : n < 256) w => has_any x n hx hn w)
  have HHy := Lib.hid (fun n (hn : n < 256) w => has_any y n hy hn w)
  clear ha hb hx hy
  cases h1 : Cf.near a b with
  | false =>
    rw [h1] at HN
    clear h1 HM
    go_enter Try.func5, Try.ntmps5
    go_wp2_with (first | (go_at_call 23; refine (HN.out _).mono ?_; rintro e w1 ⟨rfl, rfl⟩) | (go_at_call 8; refine (HW.out _).mono ?_; rintro e w4 ⟨rfl, hb4⟩))
    go_ret
    exact ⟨rfl, hb4⟩
  | true =>
    cases h2 : Cf.won a x with
    | false =>
      rw [h1] at HN
      rw [h2] at HA
      clear h1 h2 HM
      go_enter Try.func5, Try.ntmps5
      go_wp2_with fail
      refine (HN.out _).mono ?_
      rintro e w1 ⟨rfl, rfl⟩
      go_wp2_with fail
      refine (HA.out _).mono ?_
      rintro e w1 ⟨rfl, rfl⟩
      go_wp2_with fail
      refine (HW.out _).mono ?_
      rintro e w4 ⟨rfl, hb4⟩
      go_wp2_with fail
      go_ret
      exact ⟨rfl, hb4⟩
    | true =>
      cases h3 : Cf.won b y with
      | false =>
        rw [h1] at HN
        rw [h2] at HA
        rw [h3] at HB
        clear h1 h2 h3 HM
        go_enter Try.func5, Try.ntmps5
        go_wp2_with fail
        refine (HN.out _).mono ?_
        rintro e w1 ⟨rfl, rfl⟩
        go_wp2_with fail
        refine (HA.out _).mono ?_
        rintro e w1 ⟨rfl, rfl⟩
        go_wp2_with fail
        refine (HB.out _).mono ?_
        rintro e w1 ⟨rfl, rfl⟩
        go_wp2_with fail
        refine (HW.out _).mono ?_
        rintro e w4 ⟨rfl, hb4⟩
        go_wp2_with fail
        go_ret
        exact ⟨rfl, hb4⟩
      | true =>
        obtain ⟨k, hk1, hk5, hka, hkb, hkx, hky⟩ := HM.out h1 h2 h3
        have HK : Hid (Cf.has a k = true ∧ Cf.has b k = true ∧ Cf.has x k = true ∧ Cf.has y k = true) := Lib.hid ⟨hka, hkb, hkx, hky⟩
        rw [h1] at HN
        rw [h2] at HA
        rw [h3] at HB
        clear h1 h2 h3 HM hka hkb hkx hky
        go_enter Try.func5, Try.ntmps5
        go_wp2_with fail
        refine (HN.out _).mono ?_
        rintro e w1 ⟨rfl, rfl⟩
        go_wp2_with fail
        refine (HA.out _).mono ?_
        rintro e w1 ⟨rfl, rfl⟩
        go_wp2_with fail
        refine (HB.out _).mono ?_
        rintro e w1 ⟨rfl, rfl⟩
        go_wp2_with fail
        go_loopw [9] (fun i wr => ∃ n : Nat, n ≤ k ∧ i = .int .u8 (n : Int) ∧ w = wr) (fun i _ => 6 - (intOf i).toNat)
        case atStart => exact ⟨1, hk1, rfl, rfl⟩
        case round =>
          obtain ⟨n, hnk, rfl, rfl⟩ := hrel
          have hl1 : decide (n ≤ 5) = true := decide_eq_true (by omega)
          have hl2 : ((n : Int) ≤ 5) = True := by simp; omega
          have Ha := Lib.hid (HHa.out n (by omega))
          have Hb := Lib.hid (HHb.out n (by omega))
          have Hx := Lib.hid (HHx.out n (by omega))
          have Hy := Lib.hid (HHy.out n (by omega))
          have HNk : Hid (Cf.has a n = true → Cf.has b n = true → Cf.has x n = true → Cf.has y n = true → True) := Lib.hid fun _ _ _ _ => trivial
          by_cases hall : Cf.has a n = true ∧ Cf.has b n = true ∧ Cf.has x n = true ∧ Cf.has y n = true
          · obtain ⟨t1, t2, t3, t4⟩ := hall
            rw [t1] at Ha
            rw [t2] at Hb
            rw [t3] at Hx
            rw [t4] at Hy
            clear t1 t2 t3 t4 HNk
            go_wp2_with fail
            refine (Ha.out _).mono ?_
            rintro e w1 ⟨rfl, rfl⟩
            go_wp2_with fail
            refine (Hb.out _).mono ?_
            rintro e w1 ⟨rfl, rfl⟩
            go_wp2_with fail
            refine (Hx.out _).mono ?_
            rintro e w1 ⟨rfl, rfl⟩
            go_wp2_with fail
            refine (Hy.out _).mono ?_
            rintro e w1 ⟨rfl, rfl⟩
            go_wp2_with fail
            refine (HW.out _).mono ?_
            rintro e w4 ⟨rfl, hb4⟩
            go_wp2_with fail
            go_ret
            exact ⟨rfl, hb4⟩
          · have hne : n ≠ k := fun e => hall (by rw [e]; exact HK.out)
            have hnk2 : n < k := by omega
            cases t1 : Cf.has a n with
            | false =>
              rw [t1] at Ha
              clear t1 hall HNk
              go_wp2_with fail
              refine (Ha.out _).mono ?_
              rintro e w1 ⟨rfl, rfl⟩
              go_wp2_with fail
              go_roundw
              case rel => exact ⟨n + 1, by omega, by go_num, by trivial⟩
              case measure => simp [intOf]; omega
            | true =>
              cases t2 : Cf.has b n with
              | false =>
                rw [t1] at Ha
                rw [t2] at Hb
                clear t1 t2 hall HNk
                go_wp2_with fail
                refine (Ha.out _).mono ?_
                rintro e w1 ⟨rfl, rfl⟩
                go_wp2_with fail
                refine (Hb.out _).mono ?_
                rintro e w1 ⟨rfl, rfl⟩
                go_wp2_with fail
                go_roundw
                case rel => exact ⟨n + 1, by omega, by go_num, by trivial⟩
                case measure => simp [intOf]; omega
              | true =>
                cases t3 : Cf.has x n with
                | false =>
                  rw [t1] at Ha
                  rw [t2] at Hb
                  rw [t3] at Hx
                  clear t1 t2 t3 hall HNk
                  go_wp2_with fail
                  refine (Ha.out _).mono ?_
                  rintro e w1 ⟨rfl, rfl⟩
                  go_wp2_with fail
                  refine (Hb.out _).mono ?_
                  rintro e w1 ⟨rfl, rfl⟩
                  go_wp2_with fail
                  refine (Hx.out _).mono ?_
                  rintro e w1 ⟨rfl, rfl⟩
                  go_wp2_with fail
                  go_roundw
                  case rel => exact ⟨n + 1, by omega, by go_num, by trivial⟩
                  case measure => simp [intOf]; omega
                | true =>
                  have t4 : Cf.has y n = false := by
                    cases h : Cf.has y n with
                    | false => rfl
                    | true => exact absurd ⟨t1, t2, t3, h⟩ hall
                  rw [t1] at Ha
                  rw [t2] at Hb
                  rw [t3] at Hx
                  rw [t4] at Hy
                  clear t1 t2 t3 t4 hall HNk
                  go_wp2_with fail
                  refine (Ha.out _).mono ?_
                  rintro e w1 ⟨rfl, rfl⟩
                  go_wp2_with fail
                  refine (Hb.out _).mono ?_
                  rintro e w1 ⟨rfl, rfl⟩
                  go_wp2_with fail
                  refine (Hx.out _).mono ?_
                  rintro e w1 ⟨rfl, rfl⟩
                  go_wp2_with fail
                  refine (Hy.out _).mono ?_
                  rintro e w1 ⟨rfl, rfl⟩
                  go_wp2_with fail
                  go_roundw
                  case rel => exact ⟨n + 1, by omega, by go_num, by trivial⟩
                  case measure => simp [intOf]; omega
end Go.Proofs.Ytdodpocckjcomaa
