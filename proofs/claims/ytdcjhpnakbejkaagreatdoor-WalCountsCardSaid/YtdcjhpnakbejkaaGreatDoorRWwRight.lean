/-
  The statements' own right walked: those of records that may be.
-/
import Derived.Test.YtdcjhpnakbejkaaGreatDoorRWwC
import Derived.Test.YtdcjhpnakbejkaaGreatDoorRWrB
import Derived.Test.YtdcjhpnakbejkaaGreatDoorREnRef
import Derived.Test.YtdcjhpnakbejkaaGreatDoorRDkP
import Derived.Test.YtdcjhpnakbejkaaGreatDoorRWwT
set_option linter.unusedSimpArgs false
set_option linter.unusedVariables false
namespace Go.Proofs.YtdcjhpnakbejkaaGreatDoor
open Go.RowKit
theorem refRight8_any (r : Wl.R) (w : World) : Calls Tryz.prog 91 #[.agg (recC r)] w (RetTr (Wl.right r) w) := refRight8_of (fun e W => refRight_any e W) r w
set_option maxRecDepth 100000 in
set_option maxHeartbeats 2000000 in
theorem right_any8 (l : List Wl.R) (A : Option Addr) (cap : Nat) (w : World) (hA : Lies w A (wrs l)) (hl : l.length ≤ 1000000) :
    Calls Tryz.prog 35 #[.slice A l.length cap] w fun e w' => ∃ B cb, e = .returned (.slice B (l.filter Wl.right).length cb) ∧ w'.ownsRow w.heap.size 62 16 (.slice B (l.filter Wl.right).length cb) (l.filter Wl.right).length (wrs (l.filter Wl.right)) ∧ Below w.heap.size w w' := by
  obtain ⟨i0, hi, hz0, hz1, hz2⟩ := info_parts infoRec
  have HA := Lib.hid hA
  have HRt := Lib.hid (fun r W => refRight8_any r W)
  unfold RetTr at HRt
  clear hA
  go_enter Tryz.func35, Tryz.ntmps35
  go_wp2_with fail
  go_loopw [3, 4] (fun v i wr => ∃ k : Nat, k ≤ l.length ∧ i = .int .i64 (k : Int) ∧ wr.ownsRow w.heap.size 62 16 v ((l.take k).filter Wl.right).length (wrs ((l.take k).filter Wl.right)) ∧ Below w.heap.size w wr) (fun _ i _ => l.length - (intOf i).toNat)
  case atStart => exact ⟨0, Nat.zero_le _, rfl, World.ownsRow_nil _ _ _ _, Below.refl _ _⟩
  case round =>
    obtain ⟨k, hk, rfl, hown, hb⟩ := hrel
    obtain ⟨B, cb, rfl, _⟩ := own_slice hown
    have hfl : ((l.take k).filter Wl.right).length ≤ 1000000 := Nat.le_trans (List.length_filter_le _ _) (by rw [List.length_take]; omega)
    by_cases hlt : k < l.length
    · obtain ⟨b, o, rfl, hP⟩ := (HA.out.below hb).recd k hlt
      have HT : Hid ((l.take (k + 1)).filter Wl.right = (l.take k).filter Wl.right ++ [l[k]].filter Wl.right) := Lib.hid (by rw [List.take_succ_eq_append_getElem hlt, List.filter_append])
      obtain ⟨r, hr⟩ : ∃ r, r = l[k] := ⟨_, rfl⟩
      rw [← hr] at hP HT
      have HRg := hP.rng
      have hlt0 := hP.lt
      have HR := HRt.out r
      have hsz : (Tryz.prog.info? 62).map (·.size) = some (recC r).size := sizeRec
      unfold recC at HRg HR hsz
      have HRg := Lib.hid HRg
      have HR := Lib.hid HR
      have HZ := Lib.hid hsz
      obtain ⟨F, hF⟩ : ∃ F, F = (l.take k).filter Wl.right := ⟨_, rfl⟩
      rw [← hF] at hown HT hfl ⊢
      have HO := Lib.hid (And.intro hown hb)
      clear hown hb hP hr hsz hF
      rcases hrt : Wl.right r with _ | _
      · have HT2 : Hid ((l.take (k + 1)).filter Wl.right = F) := Lib.hid (by rw [HT.out]; simp [hrt])
        rw [hrt] at HR
        clear hrt HT
        go_wp2_with (first
          | (refine wpList_load_rng rfl 62 _ rfl b (o + k * 16) rfl _ _ HRg.out Tryz.underlying62 rfl HZ.out ?_)
          | (go_at_call 91; refine (HR.out _).mono ?_; rintro e w1 ⟨rfl, hb1⟩))
        go_roundw
        case rel => exact ⟨k + 1, by omega, by go_num, by rw [HT2.out]; exact own_kept HO.out.1 fun j hj => hb1.block j (own_lt HO.out.1 hj).1, bnext HO.out.2 hb1⟩
        case measure => simp [intOf]; omega
      · have HT2 : Hid ((l.take (k + 1)).filter Wl.right = F ++ [r]) := Lib.hid (by rw [HT.out]; simp [hrt])
        rw [hrt] at HR
        clear hrt HT
        have hbl := hlt0
        go_wp2_with (refine wpList_load_rng rfl 62 _ rfl b (o + k * 16) rfl _ _ HRg.out Tryz.underlying62 rfl HZ.out ?_)
        refine (HR.out _).mono ?_
        rintro e w1 ⟨rfl, hb1⟩
        have HRg1 : Hid (w1.rangeAt b (o + k * 16) (wr1 r)) := Lib.hid fun j v hv => (hb1.cell (p := ⟨b, o + k * 16 + j, none⟩) hbl).trans (HRg.out j v hv)
        have HO1 : Hid ((w1.alloc (.cells (wr1 r).toArray 62)).ownsRow w.heap.size 62 16 (.slice B F.length cb) F.length (wrs F) ∧ Below w.heap.size w (w1.alloc (.cells (wr1 r).toArray 62)) ∧ w.heap.size ≤ (w1.alloc (.cells (wr1 r).toArray 62)).heap.size) := Lib.hid (by
          have h3 := bnext HO.out.2 (bnew hb1 (.cells (wr1 r).toArray 62))
          exact ⟨own_kept HO.out.1 fun j hj => (bnew hb1 _).block j (own_lt HO.out.1 hj).1, h3, h3.size⟩)
        clear hb1
        have HNw := Lib.hid (news_fl w1 (wr1 r) 62)
        go_wp2_with (first
          | (refine wpList_load_rng rfl 62 _ rfl b (o + k * 16) rfl _ _ HRg1.out Tryz.underlying62 rfl HZ.out ?_)
          | (at_builtin; refine wpList_app_own rfl (.tmp 16) (.tmp 21) 42 rfl w.heap.size 62 i0 (.agg (recC Wl.rzero)) 16 72 Tryz.underlying42 hi hz0 hz1 hz2 rfl (by decide) _ _ _ rfl HO1.out.1 ⟨w1.heap.size, 0, none⟩ 1 1 (wr1 r) rfl rfl HNw.out (wr1_one r) (by simp only [maxLen]; omega) (by omega) HO1.out.2.2 ?_))
        intro v' w5 ho5 hg5 hn5
        have HFn : Hid (w5.ownsRow w.heap.size 62 16 v' (F ++ [r]).length (wrs (F ++ [r])) ∧ Below w.heap.size w w5) := Lib.hid (by
          rw [List.length_append, List.length_singleton, wrs_snoc]
          exact ⟨ho5, HO1.out.2.1.grown hg5 HO1.out.2.2 (fun j hj => (own_lt HO.out.1 hj).2)⟩)
        clear ho5 hg5 hn5
        go_wp2_with fail
        go_roundw
        case rel => exact ⟨k + 1, by omega, by go_num, by rw [HT2.out]; exact HFn.out.1, HFn.out.2⟩
        case measure => simp [intOf]; omega
    · obtain rfl : k = l.length := by omega
      rw [List.take_length] at hown ⊢
      have HO := Lib.hid (And.intro hown hb)
      clear hown hb
      go_wp2_with fail
      go_ret
      exact ⟨B, cb, rfl, HO.out.1, HO.out.2⟩
end Go.Proofs.YtdcjhpnakbejkaaGreatDoor
