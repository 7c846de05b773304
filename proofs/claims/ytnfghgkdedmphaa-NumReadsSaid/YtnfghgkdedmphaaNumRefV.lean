/-
  wapentakeref01.ReadV and ReadS walked.
-/
import Derived.Test.YtnfghgkdedmphaaNumRef
import Derived.IntWalk
namespace Go.Proofs.Ytnfghgkdedmphaa
open Go.RowKit

theorem wrapTop (x : Nat) : IntKind.u64.wrap (x : Int) = ((x % Nm.top : Nat) : Int) := by
  unfold Nm.top
  rw [IntKind.wrap_u64]; omega
theorem wrapStep (v : Nat) (c : UInt8) : IntKind.u64.wrap (IntKind.u64.wrap (128 * ((v % Nm.top : Nat) : Int)) + (c.toNat : Int) % 128) = (((v * 128 + c.toNat % 128) % Nm.top : Nat) : Int) := by
  unfold Nm.top
  rw [IntKind.wrap_u64, IntKind.wrap_u64]; omega

set_option maxRecDepth 100000 in
set_option maxHeartbeats 1000000 in
theorem refReadV_any (s : ByteArray) (w : World) (_hs : s.size ≤ 9223372036854775807) :
    Calls Try.prog 21 #[.string s] w fun e w' => e = .returned (rv (Nm.readV s.data.toList)) ∧ Below w.heap.size w w' := by
  go_enter Try.func21, Try.ntmps21
  go_wp2
  go_loopw [5, 6] (fun x i wr => ∃ (k : Nat) (z : Int), k ≤ s.size ∧ k ≤ 10 ∧ i = .int .i64 (k : Int) ∧ x = .int .u64 z ∧ z = ((Nm.val (s.data.toList.take k) % Nm.top : Nat) : Int) ∧ (∀ c ∈ s.data.toList.take k, 128 ≤ c.toNat) ∧ w = wr) (fun _ i _ => s.size - (intOf i).toNat)
  case atStart => exact ⟨0, _, Nat.zero_le _, by omega, rfl, rfl, by simp [Nm.val, Nm.top], by simp, rfl⟩
  case round =>
    obtain ⟨k, z, hk, hk10, rfl, rfl, hz, hm, rfl⟩ := hrel
    have Hm := Lib.hid hm
    have Hz := Lib.hid hz
    clear hm hz
    by_cases hlt : k < s.size ∧ k < 10
    · obtain ⟨hks, hkt⟩ := hlt
      have hstep : IntKind.u64.wrap (IntKind.u64.wrap (128 * z) + (s[k].toNat : Int) % 128) = ((Nm.val (s.data.toList.take (k + 1)) % Nm.top : Nat) : Int) := by
        rw [Hz.out, wrapStep, take_snoc s k hks, Nm.val_snoc]
      have Hstep := Lib.hid hstep
      clear hstep
      by_cases hc : s[k].toNat < 128
      · obtain ⟨N, hN⟩ : ∃ N, N = Nm.val (s.data.toList.take (k + 1)) % Nm.top := ⟨_, rfl⟩
        have hNt : N < Nm.top := by rw [hN]; exact Nat.mod_lt _ (by unfold Nm.top; omega)
        rw [← hN] at Hstep
        obtain ⟨g, hg⟩ : ∃ g : ByteArray, g = ⟨(Nm.grp N).toArray⟩ := ⟨_, rfl⟩
        have hone : ∀ W, Calls Try.prog 26 #[.int .u64 (N : Int)] W fun e w' => e = .returned (.string g) ∧ Below W.heap.size W w' := fun W => by
          have := refOne_any N hNt W; unfold RetS at this; rw [← hg] at this; exact this
        have Hone := Lib.hid hone
        have hgl : g.toList = Nm.grp N := by rw [hg, ByteArray.toList_mk]
        have hxl : (s.extract 0 (k + 1)).toList = s.data.toList.take (k + 1) := by rw [Lib.extract_toList, List.drop_zero, Nat.sub_zero]
        by_cases he : Nm.grp N = s.data.toList.take (k + 1)
        · have hr : Nm.readV s.data.toList = some (N, k + 1) := Nm.readV_some_of (by have := Lib.size_eq s; omega) hNt he
          have hb : (g.toList == (s.extract 0 (k + 1)).toList) = true := by rw [hgl, hxl, he]; simp
          have Hr := Lib.hid hr
          clear hr hgl hxl he hone hg hNt hN
          go_wp2_with fail
          rw [Hstep.out]
          have hw1 : IntKind.i64.wrap ((k : Int) + 1) = (k : Int) + 1 := IntWalk.i64_in _ (by omega)
          have hw2 : ((k : Int) + 1).toNat = k + 1 := by omega
          have hw3 : (0 : Int) ≤ (k : Int) + 1 := by omega
          have hw4 : (k : Int) + 1 ≤ (s.size : Int) := by omega
          go_region_held3 (fun _ => True) (trivial) (first | (go_at_call 26; refine (Hone.out _).mono ?_; rintro e w1 ⟨rfl, hb1⟩))
          clear hw1 hw2
          go_wp2
          go_ret3
          exact ⟨by rw [Hr.out, rv]; exact ret_uv rfl (by omega), (Below.refl _ _).drew.trans hb1⟩
        · have hr : Nm.readV s.data.toList = none := Nm.readV_none_of (c := s[k]) Hm.out (by rw [List.getElem?_eq_getElem (by simpa using hks)]; rfl) hc (by rw [← hN]; exact he)
          have hb : (g.toList == (s.extract 0 (k + 1)).toList) = false := by rw [hgl, hxl, beq_eq_false_iff_ne]; exact he
          have Hr := Lib.hid hr
          clear hr hgl hxl he hone hg hNt hN
          go_wp2_with fail
          rw [Hstep.out]
          have hw1 : IntKind.i64.wrap ((k : Int) + 1) = (k : Int) + 1 := IntWalk.i64_in _ (by omega)
          have hw2 : ((k : Int) + 1).toNat = k + 1 := by omega
          have hw3 : (0 : Int) ≤ (k : Int) + 1 := by omega
          have hw4 : (k : Int) + 1 ≤ (s.size : Int) := by omega
          go_region_held3 (fun _ => True) (trivial) (first | (go_at_call 26; refine (Hone.out _).mono ?_; rintro e w1 ⟨rfl, hb1⟩))
          clear hw1 hw2
          go_wp2
          go_ret3
          exact ⟨by rw [Hr.out]; rfl, (Below.refl _ _).drew.trans hb1⟩
      · go_wp2
        go_roundw
        case rel => exact ⟨k + 1, _, by omega, by omega, by go_num, rfl, Hstep.out, fun c hcm => by
          rw [take_snoc s k hks, List.mem_append] at hcm
          rcases hcm with h | h
          · exact Hm.out c h
          · simp at h; subst h; omega, by first | trivial | rfl⟩
        case measure => simp [intOf]; omega
    · have hr : Nm.readV s.data.toList = none := Nm.readV_none_marked Hm.out (by have := Lib.size_eq s; omega)
      have Hr := Lib.hid hr
      clear hr
      by_cases hks : k < s.size
      · have h10 : ¬ k < 10 := by omega
        go_wp2
        go_ret3
        exact ⟨by rw [Hr.out]; rfl, Below.refl _ _⟩
      · go_wp2
        go_ret3
        exact ⟨by rw [Hr.out]; rfl, Below.refl _ _⟩

set_option maxHeartbeats 1000000 in
theorem refReadS_any (s : ByteArray) (w : World) (hs : s.size ≤ 140737488355328) :
    Calls Try.prog 22 #[.string s] w fun e w' => e = .returned (rs (Nm.readS s.data.toList)) ∧ Below w.heap.size w w' := by
  have Hc := Lib.hid (refReadV_any s w (by omega))
  rcases hv : Nm.readV s.data.toList with _ | ⟨n, k⟩
  · have hr : Nm.readS s.data.toList = none := by unfold Nm.readS; rw [hv]
    have Hr := Lib.hid hr
    have Hv := Lib.hid hv
    clear hr hv
    go_enter Try.func22, Try.ntmps22
    go_wp2_with (go_at_call 21; refine Hc.out.mono ?_; rw [Hv.out, rv]; rintro e w1 ⟨rfl, hb1⟩)
    go_ret3
    exact ⟨by rw [Hr.out]; rfl, hb1⟩
  · obtain ⟨hn, hk1, hk2, hk3⟩ := Nm.readV_le hv
    rw [← Lib.size_eq] at hk2
    have Hv := Lib.hid hv
    clear hv hn
    by_cases hbig : s.size < n
    · have hr : Nm.readS s.data.toList = none := by
        unfold Nm.readS; rw [Hv.out]; simp only []; rw [if_neg (by rw [← Lib.size_eq]; omega)]
      have Hr := Lib.hid hr
      clear hr
      go_enter Try.func22, Try.ntmps22
      go_wp2_with (go_at_call 21; refine Hc.out.mono ?_; rw [Hv.out, rv]; rintro e w1 ⟨rfl, hb1⟩)
      go_ret3
      exact ⟨by rw [Hr.out]; rfl, hb1⟩
    · by_cases hle : n ≤ s.size - k
      · have hr : Nm.readS s.data.toList = some ((s.data.toList.drop k).take n, k + n) := by
          unfold Nm.readS; rw [Hv.out]; simp only []; rw [if_pos (by rw [← Lib.size_eq]; exact hle)]
        have Hr := Lib.hid hr
        clear hr
        have hxe : s.extract k (k + n) = ⟨((s.data.toList.drop k).take n).toArray⟩ := by rw [Lib.extract_eq]; congr 3; omega
        have Hxe := Lib.hid hxe
        clear hxe
        have hle' : ¬ ((s.size : Int) < (k : Int) + (n : Int)) := by omega
        go_enter Try.func22, Try.ntmps22
        go_wp2_with (go_at_call 21; refine Hc.out.mono ?_; rw [Hv.out, rv]; rintro e w1 ⟨rfl, hb1⟩)
        go_ret3
        exact ⟨by rw [Hr.out, rs, ← Hxe.out]; rfl, hb1⟩
      · have hr : Nm.readS s.data.toList = none := by
          unfold Nm.readS; rw [Hv.out]; simp only []; rw [if_neg (by rw [← Lib.size_eq]; exact hle)]
        have Hr := Lib.hid hr
        clear hr
        have hle' : ((s.size : Int) < (k : Int) + (n : Int)) := by omega
        go_enter Try.func22, Try.ntmps22
        go_wp2_with (go_at_call 21; refine Hc.out.mono ?_; rw [Hv.out, rv]; rintro e w1 ⟨rfl, hb1⟩)
        go_ret3
        exact ⟨by rw [Hr.out]; rfl, hb1⟩
end Go.Proofs.Ytnfghgkdedmphaa
