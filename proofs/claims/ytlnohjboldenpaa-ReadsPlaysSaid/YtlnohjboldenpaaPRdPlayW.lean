/-
  ReadsPlays: does, said, same walked.
-/
import Derived.Test.YtlnohjboldenpaaPRdPlayM
set_option linter.unusedSimpArgs false
set_option linter.unusedVariables false
namespace Go.Proofs.Ytlnohjboldenpaa
open Go.RowKit Go.Sort
theorem results_c4 {P : Program} {fn : Func} {u1 u2 u3 u4 p : Tmp} {ty : TypeId} (h : fn.results = #[.cell p ty, .tmp u1, .tmp u2, .tmp u3, .tmp u4]) (tmps : Array Value) (w : World) (g : Nat) (t : TypeId) (cs : Array Value) (fr : Nat × Nat) (d : TypeDesc)
    (hp : tmps.getD p undef = .pointer (some ⟨g, 0, none⟩)) (hg : w.heap[g]? = some (.cells cs t fr))
    (hu : P.underlying ty = some d) (hd : (match d with | .struct _ | .array _ _ => true | _ => false) = true) (hi : (P.info? ty).map (·.size) = some cs.size) :
    (results fn tmps).run P w = .ok (.tuple #[.agg cs, tmps.getD u1 undef, tmps.getD u2 undef, tmps.getD u3 undef, tmps.getD u4 undef]) w := by
  have hp' : tmps[p]?.getD undef = .pointer (some ⟨g, 0, none⟩) := by simpa using hp
  simp [results, h, hp', asAddr, run_loadVar_row w g t ty cs fr d hg hu hd hi]
set_option maxRecDepth 100000 in
set_option maxHeartbeats 4000000 in
theorem same13_any (w : World) (A O B Q : Option Addr) (ca co cb cq : Nat) (X : List Rd.E) (Y : List Nat) (hA : Lies w A (rdc X)) (hO : Lies w O (rdc X)) (hB : Lies w B (uc Y)) (hQ : Lies w Q (uc Y)) (hX : X.length ≤ 1000000) (hY : Y.length ≤ 1000000) :
    Calls Try.prog 46 #[.slice A X.length ca, .slice O X.length co, .slice B Y.length cb, .slice Q Y.length cq] w (RetR (.bool true) w) := by
  have HA := Lib.hid hA
  have HO := Lib.hid hO
  have HB := Lib.hid hB
  have HQ := Lib.hid hQ
  obtain ⟨n, hn⟩ : ∃ n, n = X.length := ⟨_, rfl⟩
  obtain ⟨m, hm⟩ : ∃ m, m = Y.length := ⟨_, rfl⟩
  have Hn := Lib.hid hn
  have Hm := Lib.hid hm
  rw [← hn] at hX ⊢
  rw [← hm] at hY ⊢
  clear hA hO hB hQ hn hm
  go_enter Try.func46, Try.ntmps46
  go_wp2_with fail
  go_loopw [9] (fun iv wr => ∃ (k : Nat), k ≤ n ∧ iv = .int .i64 (k : Int) ∧ Below w.heap.size w wr) (fun iv _ => n - (intOf iv).toNat)
  case atStart => exact ⟨0, Nat.zero_le _, rfl, Below.refl _ _⟩
  case round =>
    obtain ⟨k, hkn, rfl, hW⟩ := hrel
    have HW := Lib.hid hW
    by_cases hlt : k < n
    · have hkr : k < X.length := by rw [← Hn.out]; exact hlt
      obtain ⟨b1, o1, rfl, hE1⟩ := (HA.out.below hW).rd k hkr
      obtain ⟨b2, o2, rfl, hE2⟩ := (HO.out.below hW).rd k hkr
      obtain ⟨y, hy⟩ : ∃ y, y = X[k] := ⟨_, rfl⟩
      rw [← hy] at hE1 hE2
      obtain ⟨_, d0, d1, d2⟩ := hE1
      obtain ⟨_, e0, e1, e2⟩ := hE2
      clear hW hy hkr HB HQ
      go_wp2_with fail
      go_quiet (fail)
      go_wp2_with fail
      go_roundw
      case rel => exact ⟨k + 1, by omega, by go_num, below_drewN HW.out _⟩
      case measure => simp [intOf]; omega
    · have HW2 := Lib.hid hW
      clear hW HA HO
      go_wp2_with fail
      go_loopw [10] (fun iv wr => ∃ (k : Nat), k ≤ m ∧ iv = .int .i64 (k : Int) ∧ Below w.heap.size w wr) (fun iv _ => m - (intOf iv).toNat)
      case atStart => exact ⟨0, Nat.zero_le _, rfl, HW2.out⟩
      case round =>
        obtain ⟨j, hjm, rfl, hW⟩ := hrel
        have HW := Lib.hid hW
        by_cases hlt2 : j < m
        · have hjr : j < Y.length := by rw [← Hm.out]; exact hlt2
          obtain ⟨b1, o1, rfl, d0⟩ := (HB.out.below hW).u j hjr
          obtain ⟨b2, o2, rfl, e0⟩ := (HQ.out.below hW).u j hjr
          obtain ⟨y, hy⟩ : ∃ y, y = Y[j] := ⟨_, rfl⟩
          rw [← hy] at d0 e0
          clear hW hy hjr
          first
            | (go_wp2_with fail
               go_roundw
               case rel => exact ⟨j + 1, by omega, by go_num, HW.out⟩
               case measure => simp [intOf]; omega)
            | (go_wp2_with fail
               go_quiet (fail)
               go_wp2_with fail
               go_roundw
               case rel => exact ⟨j + 1, by omega, by go_num, below_drewN HW.out _⟩
               case measure => simp [intOf]; omega)
        · clear hW
          go_wp2_with fail
          go_ret
          exact ⟨rfl, HW.out⟩
end Go.Proofs.Ytlnohjboldenpaa
