/-
  wapentakeref01.S walked.
-/
import Derived.Test.YtnfghgkdedmphaaNumRef
namespace Go.Proofs.Ytnfghgkdedmphaa
open Go.RowKit

theorem str_snoc (l : List UInt8) (t : ByteArray) : ByteArray.mk l.toArray ++ t = ⟨(l ++ t.data.toList).toArray⟩ := by
  apply ByteArray.ext
  simp [ByteArray.data_append]

set_option maxHeartbeats 1000000 in
theorem refS_any (ss : List ByteArray) (A : Option Addr) (cap : Nat) (w : World) (hl : Lies w A (sc ss)) (hlen : ss.length ≤ 1000000000) (hsum : (sr ss).length ≤ 100000000) :
    Calls Try.prog 18 #[.slice A ss.length cap] w (RetS (sr ss) w) := by
  go_enter Try.func18, Try.ntmps18
  go_wp2
  go_loopw [3, 4] (fun v i wr => ∃ (k : Nat) (s : ByteArray), k ≤ ss.length ∧ i = .int .i64 k ∧ v = .string s ∧ s = ⟨(sr (ss.take k)).toArray⟩ ∧ Below w.heap.size w wr) (fun _ i _ => ss.length - (intOf i).toNat)
  case atStart => exact ⟨0, _, Nat.zero_le _, rfl, rfl, rfl, Below.refl _ _⟩
  case round =>
    obtain ⟨k, s, hk, rfl, rfl, hs, hb⟩ := hrel
    have hvl : s.size ≤ (sr ss).length := by
      have := sr_take_le ss k
      rw [hs, Lib.size_eq]; simpa using this
    by_cases hlt : k < ss.length
    · rcases hl with hl | ⟨b, off, rfl, hlb, hc⟩
      · exfalso; have := congrArg List.length hl; simp [sc] at this; simp [this] at hlt
      · have hcell : wr.cell? ⟨b, off + k, none⟩ = some (.string ss[k]) := (hb.cell (p := ⟨b, off + k, none⟩) hlb).trans (hc k _ (by simp [sc, hlt]))
        have hts := sr_take ss k hlt
        have hv2 := sr_take_le ss (k + 1)
        have hsz : s.size + (Nm.grp ss[k].size).length + ss[k].size ≤ (sr ss).length := by
          rw [hts, List.length_append, List.length_append] at hv2
          have : s.size = (sr (ss.take k)).length := by rw [hs, Lib.size_eq]
          rw [this]
          exact hv2
        obtain ⟨t, ht⟩ : ∃ t, t = ss[k] := ⟨_, rfl⟩
        rw [← ht] at hcell hsz hts
        clear ht
        obtain ⟨g, hg⟩ : ∃ g : ByteArray, g = ⟨(Nm.grp t.size).toArray⟩ := ⟨_, rfl⟩
        have hgz : g.size = (Nm.grp t.size).length := by rw [hg, Lib.size_eq]
        rw [← hgz] at hsz
        have hone : ∀ W, Calls Try.prog 26 #[.int .u64 (t.size : Int)] W fun e w' => e = .returned (.string g) ∧ Below W.heap.size W w' := fun W => by
          have := refOne_any t.size (by unfold Nm.top; omega) W; unfold RetS at this; rw [← hg] at this; exact this
        have Hone := Lib.hid hone
        have Hg := Lib.hid hg
        have Hts := Lib.hid hts
        have Hs := Lib.hid hs
        clear hc hone hg hts hs hv2 hgz
        have hwb : b < wr.heap.size := Nat.lt_of_lt_of_le hlb hb.size
        have hi0 : (0 : Int) ≤ (k : Int) := by omega
        have hi1 : (k : Int) < (ss.length : Int) := by omega
        have hwr : IntKind.u64.wrap (t.size : Int) = (t.size : Int) := wrap_u64_nat _ (by unfold Nm.top; omega)
        have ha1 : ∀ W : World, (Op.stringOp .add s g).run Try.prog W = .ok (.string (s ++ g)) W := fun W => run_string_add_sum W s g (by omega)
        have ha2 : ∀ W : World, (Op.stringOp .add (s ++ g) t).run Try.prog W = .ok (.string (s ++ g ++ t)) W := fun W => run_string_add_sum W (s ++ g) t (by rw [ByteArray.size_append]; omega)
        have Hb := Lib.hid hb
        clear hb hvl
        go_wp2_with fail
        go_region_held3 (fun w' => w'.cell? ⟨b, off + k, none⟩ = some (.string t)) (first | go_keep | exact (World.cell?_of_block (hb1.block b hwb)).trans (by assumption)) (first | (go_at_call 26; refine (Hone.out _).mono ?_; rintro e w1 ⟨rfl, hb1⟩))
        go_wp2
        go_roundw
        case rel => exact ⟨k + 1, s ++ g ++ t, by omega, by go_num, rfl, by rw [Hts.out, Hs.out, Hg.out, ByteArray.mk_append_mk]; exact str_snoc _ _, bnext Hb.out.drew hb1⟩
        case measure => simp [intOf]; omega
    · obtain rfl : k = ss.length := by omega
      have Hs := Lib.hid hs
      clear hs
      go_wp2
      go_ret
      exact ⟨by rw [Hs.out, List.take_length]; rfl, hb⟩
end Go.Proofs.Ytnfghgkdedmphaa
