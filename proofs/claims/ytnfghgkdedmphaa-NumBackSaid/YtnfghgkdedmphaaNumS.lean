/-
  num.S walked: the rows of strings.
-/
import Derived.Test.YtnfghgkdedmphaaNumPut
namespace Go.Proofs.Ytnfghgkdedmphaa
open Go.RowKit

/-- A string's row; the rows of strings. -/
def row (l : List UInt8) : List UInt8 := Nm.grp l.length ++ l
def sr (ss : List ByteArray) : List UInt8 := (ss.map fun s => row s.data.toList).flatten
theorem sr_take (ss : List ByteArray) (k : Nat) (hk : k < ss.length) : sr (ss.take (k + 1)) = sr (ss.take k) ++ Nm.grp ss[k].size ++ ss[k].data.toList := by
  unfold sr
  rw [List.take_succ_eq_append_getElem hk, List.map_append, List.flatten_append, List.map_singleton, List.flatten_singleton, row, ← List.append_assoc]
  rfl
theorem sr_take_le (ss : List ByteArray) (k : Nat) : (sr (ss.take k)).length ≤ (sr ss).length := by
  have e : sr ss = sr (ss.take k) ++ sr (ss.drop k) := by
    unfold sr
    rw [← List.flatten_append, ← List.map_append, List.take_append_drop]
  rw [e, List.length_append]; omega
/-- Strings as cells. -/
def sc (ss : List ByteArray) : List Value := ss.map fun s => Value.string s

theorem own_str {w wr w1 : World} {base : Nat} {v v' : Value} {l : List UInt8} {s : ByteArray} (ho : OwnB wr base v l) (hb : Below base w wr) (hB : base ≤ wr.heap.size)
    (ho1 : w1.ownsRow base 5 1 v' (l.length + s.size) (bc l ++ Lib.strCells s)) (hg : wr.grownBy w1 v.ownBlock) : OwnB w1 base v' (l ++ s.data.toList) ∧ Below base w w1 := by
  refine ⟨?_, hb.grown hg hB (fun k hk => (World.ownsRow.lt ho k hk).1)⟩
  unfold OwnB
  rw [bc_append, List.length_append]
  exact ho1

set_option maxHeartbeats 400000 in
theorem S_any (ss : List ByteArray) (A : Option Addr) (cap : Nat) (w : World) (hl : Lies w A (sc ss)) (hlen : ss.length ≤ 1000000000) (hsum : (sr ss).length ≤ 100000000) :
    Calls Try.prog 14 #[.slice A ss.length cap] w (RetS (sr ss) w) := by
  obtain ⟨i0, hi, hz0, hz1, hz2⟩ := info_parts Try.infoByte
  go_enter Try.func14, Try.ntmps14
  go_wp2
  go_loopw [3, 8] (fun v i wr => ∃ k : Nat, k ≤ ss.length ∧ i = .int .i64 k ∧ OwnB wr w.heap.size v (sr (ss.take k)) ∧ Below w.heap.size w wr) (fun _ i _ => ss.length - (intOf i).toNat)
  case atStart => exact ⟨0, Nat.zero_le _, rfl, OwnB.nil _ _, Below.refl _ _⟩
  case round =>
    obtain ⟨k, hk, rfl, ho, hb⟩ := hrel
    have hvl := sr_take_le ss k
    have hbs := hb.size
    by_cases hlt : k < ss.length
    · rcases hl with hl | ⟨b, off, rfl, hlb, hc⟩
      · exfalso; have := congrArg List.length hl; simp [sc] at this; simp [this] at hlt
      · have hcell : wr.cell? ⟨b, off + k, none⟩ = some (.string ss[k]) := (hb.cell (p := ⟨b, off + k, none⟩) hlb).trans (hc k _ (by simp [sc, hlt]))
        have hts := sr_take ss k hlt
        have hv2 := sr_take_le ss (k + 1)
        have hsz : (sr (ss.take k)).length + (Nm.grp ss[k].size).length + ss[k].size ≤ (sr ss).length := by
          rw [hts, List.length_append, List.length_append] at hv2
          exact hv2
        have Hts := Lib.hid hts
        clear hts hv2 hc
        obtain ⟨s, hs⟩ : ∃ s, s = ss[k] := ⟨_, rfl⟩
        rw [← hs] at hcell hsz Hts
        clear hs
        have hst : s.size < Nm.top := by unfold Nm.top; omega
        have Hst := Lib.hid hst
        clear hst
        go_wp2_with (first | (go_at_call 25; refine (appendGroups_any _ Hst.out w.heap.size _ _ _ ho hbs (by omega)).mono ?_; rintro e w1 ⟨v1, rfl, ho1, hb1⟩; have hbs1 := (hb.trans hb1).size) | (at_builtin; refine Lib.wpList_append_own_string _ rfl (.tmp 17) (.tmp 18) 46 9 rfl w.heap.size 5 i0 Try.underlying46 Try.underlying9 hi hz0 hz1 hz2 v1 _ _ rfl ho1 s rfl (by simp only [maxLen, List.length_append]; omega) (by simp only [List.length_append]; omega) (by omega) ?_; intro v2 w2 ho2 hg2 _))
        have R := own_str ho1 (hb.trans hb1) hbs1 ho2 hg2
        clear ho1 ho2 hg2 hb1
        go_roundw
        case rel => exact ⟨k + 1, by omega, by go_num, by rw [Hts.out]; exact R.1, R.2⟩
        case measure => simp [intOf]; omega
    · obtain rfl : k = ss.length := by omega
      have hcv := run_string_own ho
      rw [List.take_length] at hcv
      go_wp2
      go_ret
      exact ⟨rfl, hb⟩
end Go.Proofs.Ytnfghgkdedmphaa
