/-
  The document's own answers of layer 1 (wapentakeref01) walked.
-/
import Derived.Test.YtnfghgkdedmphaaNumRead
import Derived.Test.YtnfghgkdedmphaaNumS
import Derived.Deep.QuietTactic
import Derived.BigQuiet
import Derived.Deep.RegionHeld3
namespace Go.Proofs.Ytnfghgkdedmphaa
open Go.RowKit

/-- One byte as a string. -/
theorem str1 (W : World) (z : Int) (b : UInt8) (h : z = (b.toNat : Int)) : (convert 46 9 (.slice (some ⟨W.heap.size, 0, none⟩) 1 1)).run Try.prog (W.alloc (.cells #[.int .u8 z] 5)) = .ok (.string ⟨#[b]⟩) (W.alloc (.cells #[.int .u8 z] 5)) := by
  subst h
  refine run_convert_bytes_back (P := Try.prog) _ 46 9 5 ⟨W.heap.size, 0, none⟩ 1 [b] Try.underlying46 Try.underlying5 Try.underlying9 (fun j hj => ?_)
  have : j = 0 := by simp at hj; omega
  subst this
  exact cell_one_new _ _ _ 0 _ rfl

theorem div7 (n k : Nat) : n / 128 ^ k / 128 = n / 128 ^ (k + 1) := by rw [Nat.div_div_eq_div_mul, Nat.pow_succ]
/-- The text of the lowest digits. -/
def low (j n : Nat) : ByteArray := ⟨(Nm.hi j n ++ [Nm.b8 (n % 128)]).toArray⟩
theorem low_size (j n : Nat) : (low j n).size = j + 1 := by rw [Lib.size_eq]; simp [low, Nm.hi_length]
theorem low_step (j n : Nat) : (⟨#[Nm.b8 (n / 128 ^ (j + 1) % 128 + 128)]⟩ : ByteArray) ++ low j n = low (j + 1) n := by
  apply ByteArray.ext
  simp [low, ByteArray.data_append, Nm.hi]

set_option maxRecDepth 100000 in
set_option maxHeartbeats 400000 in
theorem refOne_any (n : Nat) (hn : n < Nm.top) (w : World) : Calls Try.prog 26 #[.int .u64 (n : Int)] w (RetS (Nm.grp n) w) := by
  have hcs := (Nm.cnt_spec n hn).2.2
  have Hn := Lib.hid hn
  clear hn
  have hc0 := str1 w ((n : Int) % 128) (Nm.b8 (n % 128)) (by rw [Nm.digit_lo]; omega)
  go_enter Try.func26, Try.ntmps26
  go_wp2
  clear hc0
  go_loopw [0, 3] (fun x v wr => ∃ (j : Nat) (s : ByteArray), j ≤ Nm.cnt n ∧ x = .int .u64 ((n / 128 ^ j : Nat) : Int) ∧ v = .string s ∧ s = low j n ∧ Below w.heap.size w wr) (fun x _ _ => (intOf x).toNat)
  case atStart => exact ⟨0, _, Nat.zero_le _, by simp, rfl, rfl, bnew (Below.refl _ _) _⟩
  case round =>
    obtain ⟨j, s, hj, rfl, rfl, hs, hb⟩ := hrel
    have hsz : s.size ≤ 10 := by rw [hs, low_size]; omega
    have ht := Nm.cnt_test n j Hn.out
    have Hs := Lib.hid hs
    have Hd := Lib.hid (div7 n j)
    clear hs
    obtain ⟨q, hq⟩ : ∃ q, q = n / 128 ^ j := ⟨_, rfl⟩
    have hq2 : q ≤ 18446744073709551615 := by
      have h1 := Hn.out
      unfold Nm.top at h1
      have := Nat.div_le_self n (128 ^ j)
      omega
    rw [← hq] at ht Hd ⊢
    clear hq
    by_cases hlt : j < Nm.cnt n
    · have hq := ht.2 hlt
      clear ht
      have hc := str1 wr (128 + (q : Int) / 128 % 128) (Nm.b8 (n / 128 ^ (j + 1) % 128 + 128)) (by rw [Nm.digit_hi, ← Hd.out]; omega)
      have hz : (ByteArray.mk #[Nm.b8 (n / 128 ^ (j + 1) % 128 + 128)]).size = 1 := rfl
      obtain ⟨c, hcc⟩ : ∃ c : ByteArray, c = ByteArray.mk #[Nm.b8 (n / 128 ^ (j + 1) % 128 + 128)] := ⟨_, rfl⟩
      rw [← hcc] at hc hz
      have Hc := Lib.hid hcc
      clear hcc
      go_wp2
      go_roundw
      case rel =>
        exact ⟨j + 1, c ++ s, by omega, by rw [← Hd.out]; go_num, rfl, by rw [Hc.out, Hs.out, low_step], bnew hb _⟩
      case measure => simp [intOf]; omega
    · have hq : q ≤ 127 := by
        have : ¬ 127 < q := fun h => hlt (ht.1 h)
        omega
      obtain rfl : j = Nm.cnt n := by omega
      clear ht
      go_wp2
      go_ret
      exact ⟨by rw [Hs.out]; rfl, hb⟩

/-! V. -/
set_option maxHeartbeats 400000 in
theorem refV_any (ns : List Nat) (hns : ∀ n ∈ ns, n < Nm.top) (A : Option Addr) (cap : Nat) (w : World) (hl : Lies w A (uc ns)) (hlen : ns.length ≤ 1000000000) :
    Calls Try.prog 17 #[.slice A ns.length cap] w (RetS (vs ns) w) := by
  have Hns := Lib.hid hns
  clear hns
  go_enter Try.func17, Try.ntmps17
  go_wp2
  go_loopw [3, 4] (fun v i wr => ∃ (k : Nat) (s : ByteArray), k ≤ ns.length ∧ i = .int .i64 k ∧ v = .string s ∧ s = ⟨(vs (ns.take k)).toArray⟩ ∧ Below w.heap.size w wr) (fun _ i _ => ns.length - (intOf i).toNat)
  case atStart => exact ⟨0, _, Nat.zero_le _, rfl, rfl, rfl, Below.refl _ _⟩
  case round =>
    obtain ⟨k, s, hk, rfl, rfl, hs, hb⟩ := hrel
    have hvl : s.size ≤ 10 * k := by
      have := vs_len (ns.take k) (fun x hx => Hns.out x (List.mem_of_mem_take hx))
      rw [hs, Lib.size_eq]
      simp only [List.length_take] at this
      simp only
      omega
    have Hs := Lib.hid hs
    clear hs
    by_cases hlt : k < ns.length
    · rcases hl with hl | ⟨b, off, rfl, hlb, hc⟩
      · exfalso; have := congrArg List.length hl; simp [uc] at this; simp [this] at hlt
      · have hcell : wr.cell? ⟨b, off + k, none⟩ = some (.int .u64 (ns[k] : Nat)) := (hb.cell (p := ⟨b, off + k, none⟩) hlb).trans (hc k _ (by simp [uc, hlt]))
        have hnk : ns[k] < Nm.top := Hns.out _ (List.getElem_mem hlt)
        have hgl := grp_len _ hnk
        obtain ⟨g, hg⟩ : ∃ g : ByteArray, g = ⟨(Nm.grp ns[k]).toArray⟩ := ⟨_, rfl⟩
        have hgz : g.size ≤ 10 := by rw [hg, Lib.size_eq]; simpa using hgl
        have hone : ∀ W, Calls Try.prog 26 #[.int .u64 (ns[k] : Nat)] W fun e w' => e = .returned (.string g) ∧ Below W.heap.size W w' := fun W => by
          have := refOne_any ns[k] hnk W; unfold RetS at this; rw [← hg] at this; exact this
        have Hone := Lib.hid hone
        have Hg := Lib.hid hg
        have Hts := Lib.hid (vs_take ns k hlt)
        clear hnk hc hone hg hgl
        go_wp2_with (go_at_call 26; refine (Hone.out _).mono ?_; rintro e w1 ⟨rfl, hb1⟩)
        go_roundw
        case rel => exact ⟨k + 1, s ++ g, by omega, by go_num, rfl, by rw [Hts.out, Hs.out, Hg.out, ByteArray.mk_append_mk], bnext hb hb1⟩
        case measure => simp [intOf]; omega
    · obtain rfl : k = ns.length := by omega
      go_wp2
      go_ret
      exact ⟨by rw [Hs.out, List.take_length]; rfl, hb⟩

end Go.Proofs.Ytnfghgkdedmphaa
