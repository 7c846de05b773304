/-
  NumReads walked.
-/
import Derived.Test.YtnfghgkdedmphaaNumAwake
import Derived.Test.YtnfghgkdedmphaaNumRefR
import Derived.Test.YtnfghgkdedmphaaNumRefV
import Derived.Test.YtnfghgkdedmphaaOpen
namespace Go.Proofs.Ytnfghgkdedmphaa
open Go.RowKit
set_option linter.unusedVariables false

theorem readU_both (t : ByteArray) (width : Int) (ht : t.size ≤ 20000) : ∃ (x : Int) (b : Bool),
    (∀ W, Calls Try.prog 9 #[.string t, .int .i64 width] W fun e w' => e = .returned (.tuple #[.int .u64 x, .bool b]) ∧ W = w') ∧
    (∀ W, Calls Try.prog 20 #[.string t, .int .i64 width] W fun e w' => e = .returned (.tuple #[.int .u64 x, .bool b]) ∧ W = w') := by
  by_cases h : width < 1 ∨ 8 < width ∨ (t.size : Int) < width
  · exact ⟨0, false, fun W => ReadU_no t width W h, fun W => refReadU_no t width W h⟩
  · obtain ⟨m, rfl⟩ := Int.eq_ofNat_of_zero_le (show 0 ≤ width by omega)
    exact ⟨_, true, fun W => ReadU_any t m W (by omega) (by omega) (by omega) (by omega), fun W => refReadU_any t m W (by omega) (by omega) (by omega) (by omega)⟩

theorem readV_both (t : ByteArray) (ht : t.size ≤ 20000) : ∃ (x y : Int) (b : Bool),
    (∀ W, Calls Try.prog 10 #[.string t] W fun e w' => e = .returned (.tuple #[.int .u64 x, .int .i64 y, .bool b]) ∧ W = w') ∧
    (∀ W, Calls Try.prog 21 #[.string t] W fun e w' => e = .returned (.tuple #[.int .u64 x, .int .i64 y, .bool b]) ∧ Below W.heap.size W w') := by
  have h1 := fun W => ReadV_any t W (by omega)
  have h2 := fun W => refReadV_any t W (by omega)
  rcases hv : Nm.readV t.data.toList with _ | ⟨n, k⟩ <;> rw [hv] at h1 h2 <;> exact ⟨_, _, _, h1, h2⟩

theorem readS_both (t : ByteArray) (ht : t.size ≤ 20000) : ∃ (x : ByteArray) (y : Int) (b : Bool),
    (∀ W, Calls Try.prog 11 #[.string t] W fun e w' => e = .returned (.tuple #[.string x, .int .i64 y, .bool b]) ∧ Below W.heap.size W w') ∧
    (∀ W, Calls Try.prog 22 #[.string t] W fun e w' => e = .returned (.tuple #[.string x, .int .i64 y, .bool b]) ∧ Below W.heap.size W w') := by
  have h1 := fun W => ReadS_any t W (by omega)
  have h2 := fun W => refReadS_any t W (by omega)
  rcases hv : Nm.readS t.data.toList with _ | ⟨n, k⟩ <;> rw [hv] at h1 h2 <;> exact ⟨_, _, _, h1, h2⟩

set_option maxRecDepth 100000 in
set_option maxHeartbeats 1000000 in
theorem numReads_walk (s : ByteArray) (w0 : s.size ≤ maxLen) (width : Int) (w1 : (Lit.int .i64 width).wf = true) (w : World) :
    Calls Try.prog 5 #[.string s, .int .i64 width] w fun e w' => e = .returned (.bool true) ∧ Below w.heap.size w w' := by
  by_cases hs : 20000 < s.size
  · obtain ⟨t, ht⟩ : ∃ t, t = s.extract 0 20000 := ⟨_, rfl⟩
    have htz : t.size ≤ 20000 := by rw [ht, ByteArray.size_extract]; omega
    obtain ⟨x1, b1, hu1, hu2⟩ := readU_both t width htz
    obtain ⟨x2, y2, b2, hv1, hv2⟩ := readV_both t htz
    obtain ⟨x3, y3, b3, hs1, hs2⟩ := readS_both t htz
    have Hu1 := Lib.hid hu1
    have Hu2 := Lib.hid hu2
    have Hv1 := Lib.hid hv1
    have Hv2 := Lib.hid hv2
    have Hs1 := Lib.hid hs1
    have Hs2 := Lib.hid hs2
    have Ht := Lib.hid ht
    clear ht hu1 hu2 hv1 hv2 hs1 hs2
    go_enter Try.func5, Try.ntmps5
    go_wp2_with fail
    rw [← Ht.out]
    go_wp2_with (first | (go_at_call 9; refine (Hu1.out _).mono ?_; rintro e w' ⟨rfl, rfl⟩) | (go_at_call 20; refine (Hu2.out _).mono ?_; rintro e w' ⟨rfl, rfl⟩) | (go_at_call 10; refine (Hv1.out _).mono ?_; rintro e w' ⟨rfl, rfl⟩) | (go_at_call 21; refine (Hv2.out _).mono ?_; rintro e w2 ⟨rfl, hb2⟩) | (go_at_call 11; refine (Hs1.out _).mono ?_; rintro e w3 ⟨rfl, hb3⟩) | (go_at_call 22; refine (Hs2.out _).mono ?_; rintro e w4 ⟨rfl, hb4⟩) | (go_at_call 15; refine (awake_any _).mono ?_; rintro e w5 ⟨rfl, hb5⟩))
    go_ret
    exact ⟨rfl, bnext (bnext (bnext hb2 hb3) hb4) hb5⟩
  · have htz : s.size ≤ 20000 := by omega
    obtain ⟨x1, b1, hu1, hu2⟩ := readU_both s width htz
    obtain ⟨x2, y2, b2, hv1, hv2⟩ := readV_both s htz
    obtain ⟨x3, y3, b3, hs1, hs2⟩ := readS_both s htz
    have Hu1 := Lib.hid hu1
    have Hu2 := Lib.hid hu2
    have Hv1 := Lib.hid hv1
    have Hv2 := Lib.hid hv2
    have Hs1 := Lib.hid hs1
    have Hs2 := Lib.hid hs2
    clear hu1 hu2 hv1 hv2 hs1 hs2
    go_enter Try.func5, Try.ntmps5
    go_wp2_with (first | (go_at_call 9; refine (Hu1.out _).mono ?_; rintro e w' ⟨rfl, rfl⟩) | (go_at_call 20; refine (Hu2.out _).mono ?_; rintro e w' ⟨rfl, rfl⟩) | (go_at_call 10; refine (Hv1.out _).mono ?_; rintro e w' ⟨rfl, rfl⟩) | (go_at_call 21; refine (Hv2.out _).mono ?_; rintro e w2 ⟨rfl, hb2⟩) | (go_at_call 11; refine (Hs1.out _).mono ?_; rintro e w3 ⟨rfl, hb3⟩) | (go_at_call 22; refine (Hs2.out _).mono ?_; rintro e w4 ⟨rfl, hb4⟩) | (go_at_call 15; refine (awake_any _).mono ?_; rintro e w5 ⟨rfl, hb5⟩))
    go_ret
    exact ⟨rfl, bnext (bnext (bnext hb2 hb3) hb4) hb5⟩
end Go.Proofs.Ytnfghgkdedmphaa
