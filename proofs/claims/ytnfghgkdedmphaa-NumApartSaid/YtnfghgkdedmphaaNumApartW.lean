/-
  NumApart walked.
-/
import Derived.Test.YtnfghgkdedmphaaNumAwake
import Derived.Test.YtnfghgkdedmphaaNumOrder
import Derived.Test.YtnfghgkdedmphaaOpen
namespace Go.Proofs.Ytnfghgkdedmphaa
open Go.RowKit
set_option linter.unusedVariables false

theorem one_of (a : Nat) (ha : a < Nm.top) (sa : ByteArray) (hsa : sa = ⟨(Nm.grp a).toArray⟩) (w : World) (A : Option Addr) (h : Lies w A (uc [a])) :
    Calls Try.prog 13 #[.slice A 1 1] w fun e w' => e = .returned (.string sa) ∧ Below w.heap.size w w' := by
  have := V_any [a] (by simpa using ha) A 1 w h (by simp)
  have e : vs [a] = Nm.grp a := by simp [vs]
  rw [e] at this
  unfold RetS at this
  rw [← hsa] at this
  exact this

/-- What the walk needs of the two texts. -/
theorem apart_facts (a b : Nat) (ha : a < Nm.top) (hb : b < Nm.top) (sa sb : ByteArray) (hsa : sa = ⟨(Nm.grp a).toArray⟩) (hsb : sb = ⟨(Nm.grp b).toArray⟩) (hne : a ≠ b) :
    (sa.toList == sb.toList) = false ∧ (sa.size < sb.size → a < b) ∧ (sa.size ≤ sb.size → ((sb.extract 0 sa.size).toList == sa.toList) = false) ∧ (sa.size = sb.size → Op.bytesLess sa.toList sb.toList = decide (a < b)) := by
  have la : sa.toList = Nm.grp a := by rw [hsa, ByteArray.toList_mk]
  have lb : sb.toList = Nm.grp b := by rw [hsb, ByteArray.toList_mk]
  have za : sa.size = (Nm.grp a).length := by rw [Lib.size_eq, ← ByteArray.toList_eq, la]
  have zb : sb.size = (Nm.grp b).length := by rw [Lib.size_eq, ← ByteArray.toList_eq, lb]
  refine ⟨?_, ?_, ?_, ?_⟩
  · rw [la, lb, beq_eq_false_iff_ne]
    exact fun h => hne (Nm.grp_inj ha hb h)
  · rw [za, zb]; exact Nm.grp_len_lt ha hb
  · intro _
    rw [beq_eq_false_iff_ne, Lib.extract_toList, la, List.drop_zero, Nat.sub_zero]
    intro h
    apply hne
    refine Nm.grp_apart ha hb (sb.data.toList.drop sa.size) ?_
    rw [← h, List.take_append_drop, ← ByteArray.toList_eq, lb]
  · intro h
    rw [la, lb]
    exact Nm.grp_less a b ha hb (by rw [← za, ← zb]; exact h)

theorem apart_size (a : Nat) (ha : a < Nm.top) (sa : ByteArray) (hsa : sa = ⟨(Nm.grp a).toArray⟩) : 1 ≤ sa.size ∧ sa.size ≤ 10 := by
  have : sa.size = Nm.cnt a + 1 := by rw [Lib.size_eq, hsa]; simp [Nm.grp_length]
  have h := (Nm.cnt_spec a ha).2.2
  omega

set_option maxHeartbeats 1000000 in
set_option maxRecDepth 100000 in
theorem numApart_same (a : Nat) (ha : a < Nm.top) (w : World) :
    Calls Try.prog 7 #[.int .u64 (a : Int), .int .u64 (a : Int)] w fun e w' => e = .returned (.bool true) ∧ Below w.heap.size w w' := by
  obtain ⟨sa, hsa⟩ : ∃ sa : ByteArray, sa = ⟨(Nm.grp a).toArray⟩ := ⟨_, rfl⟩
  have hz := apart_size a ha sa hsa
  obtain ⟨hz1, hz2⟩ := hz
  have Hv := Lib.hid (one_of a ha sa hsa)
  have hl : Op.bytesLess sa.toList sa.toList = false := by
    have := Nm.grp_less a a ha ha rfl
    rw [hsa, ByteArray.toList_mk, this]; simp
  clear hsa ha
  go_enter Try.func7, Try.ntmps7
  go_wp2_with (first | (go_at_call 13; refine (Hv.out _ _ (Lies.new _ (uc [a]) _)).mono ?_; rintro e w1 ⟨rfl, hb1⟩) | (go_at_call 15; refine (awake_any _).mono ?_; rintro e w3 ⟨rfl, hb3⟩))
  go_ret
  exact ⟨rfl, by repeat (first | exact Below.refl _ _ | refine bnew ?_ _ | refine bnext ?_ (by assumption))⟩

set_option maxHeartbeats 2000000 in
set_option maxRecDepth 100000 in
theorem numApart_other (a b : Nat) (ha : a < Nm.top) (hb : b < Nm.top) (w : World) (hne : a ≠ b) :
    Calls Try.prog 7 #[.int .u64 (a : Int), .int .u64 (b : Int)] w fun e w' => e = .returned (.bool true) ∧ Below w.heap.size w w' := by
  obtain ⟨sa, hsa⟩ : ∃ sa : ByteArray, sa = ⟨(Nm.grp a).toArray⟩ := ⟨_, rfl⟩
  obtain ⟨sb, hsb⟩ : ∃ sb : ByteArray, sb = ⟨(Nm.grp b).toArray⟩ := ⟨_, rfl⟩
  obtain ⟨hz1, hz2⟩ := apart_size a ha sa hsa
  obtain ⟨hz3, hz4⟩ := apart_size b hb sb hsb
  obtain ⟨f1, f2, f3, f4⟩ := apart_facts a b ha hb sa sb hsa hsb hne
  have Hva := Lib.hid (one_of a ha sa hsa)
  have Hvb := Lib.hid (one_of b hb sb hsb)
  have e1 : ((a : Int) == (b : Int)) = false := by rw [beq_eq_false_iff_ne]; omega
  have e2 : ((a : Int) != (b : Int)) = true := by rw [bne_iff_ne]; omega
  have d1 : decide ((sa.size : Int) < 1) = false := by simp; omega
  have d2 : decide ((10 : Int) < (sa.size : Int)) = false := by simp; omega
  have d3 : decide ((sb.size : Int) < 1) = false := by simp; omega
  have d4 : decide ((10 : Int) < (sb.size : Int)) = false := by simp; omega
  clear hsa hsb ha hb hne
  rcases Nat.lt_trichotomy sa.size sb.size with h | h | h
  · have g1 := f2 h
    have g2 := f3 (by omega)
    have g3 : ((sa.size : Int) != (sb.size : Int)) = true := by rw [bne_iff_ne]; omega
    clear f2 f3 f4
    go_enter Try.func7, Try.ntmps7
    go_wp2_with fail
    refine (Hva.out _ _ (Lies.new _ (uc [a]) _)).mono ?_
    rintro e w1 ⟨rfl, hb1⟩
    go_wp2_with fail
    refine (Hvb.out _ _ (Lies.new _ (uc [b]) _)).mono ?_
    rintro e w2 ⟨rfl, hb2⟩
    go_wp2_with (go_at_call 15; refine (awake_any _).mono ?_; rintro e w3 ⟨rfl, hb3⟩)
    go_ret
    exact ⟨rfl, bnext (bnext (bnew (bnext (bnew (Below.refl _ _) _) hb1) _) hb2) hb3⟩
  · have g2 := f3 (by omega)
    have g4 := f4 h
    have g3 : ((sa.size : Int) != (sb.size : Int)) = false := by rw [bne_eq_false_iff_eq]; omega
    have h5 : sa.size ≤ sb.size := by omega
    have h6 : sb.size ≤ sa.size := by omega
    clear f2 f3 f4 h
    go_enter Try.func7, Try.ntmps7
    go_wp2_with fail
    refine (Hva.out _ _ (Lies.new _ (uc [a]) _)).mono ?_
    rintro e w1 ⟨rfl, hb1⟩
    go_wp2_with fail
    refine (Hvb.out _ _ (Lies.new _ (uc [b]) _)).mono ?_
    rintro e w2 ⟨rfl, hb2⟩
    go_wp2_with (go_at_call 15; refine (awake_any _).mono ?_; rintro e w3 ⟨rfl, hb3⟩)
    go_ret
    exact ⟨rfl, bnext (bnext (bnew (bnext (bnew (Below.refl _ _) _) hb1) _) hb2) hb3⟩
  · have g3 : ((sa.size : Int) != (sb.size : Int)) = true := by rw [bne_iff_ne]; omega
    clear f2 f3 f4
    go_enter Try.func7, Try.ntmps7
    go_wp2_with fail
    refine (Hva.out _ _ (Lies.new _ (uc [a]) _)).mono ?_
    rintro e w1 ⟨rfl, hb1⟩
    go_wp2_with fail
    refine (Hvb.out _ _ (Lies.new _ (uc [b]) _)).mono ?_
    rintro e w2 ⟨rfl, hb2⟩
    go_wp2_with (go_at_call 15; refine (awake_any _).mono ?_; rintro e w3 ⟨rfl, hb3⟩)
    go_ret
    exact ⟨rfl, bnext (bnext (bnew (bnext (bnew (Below.refl _ _) _) hb1) _) hb2) hb3⟩

theorem numApart_walk (a : Int) (w0 : (Lit.int .u64 a).wf = true) (b : Int) (w1 : (Lit.int .u64 b).wf = true) (w : World) :
    Calls Try.prog 7 #[.int .u64 a, .int .u64 b] w fun e w' => e = .returned (.bool true) ∧ Below w.heap.size w w' := by
  obtain ⟨a, rfl, ha⟩ := u64_nat w0
  obtain ⟨b, rfl, hb⟩ := u64_nat w1
  by_cases h : a = b
  · subst h; exact numApart_same a ha w
  · exact numApart_other a b ha hb w h
end Go.Proofs.Ytnfghgkdedmphaa
