/-
  wapentakelaw07.same walked: two disks that stand for the same tell the same.
-/
import Derived.Test.YtjmnoogaffjdiaaRDkNow
import Derived.StillTailTactics
set_option linter.unusedSimpArgs false
set_option linter.unusedVariables false
namespace Go.Proofs.Ytjmnoogaffjdiaa
open Go.RowKit
/-- A string of a slice of strings. -/
theorem Lies.str {w : World} {A : Option Addr} {ss : List ByteArray} (h : Lies w A (sc ss)) (i : Nat) (hi : i < ss.length) :
    ∃ b off, A = some ⟨b, off, none⟩ ∧ b < w.heap.size ∧ w.cell? ⟨b, off + i, none⟩ = some (.string ss[i]) := by
  rcases h with h | ⟨b, off, rfl, hb, hc⟩
  · exfalso
    have := sc_length ss
    rw [h] at this
    simp at this; omega
  · refine ⟨b, off, rfl, hb, hc i _ ?_⟩
    simp [sc, List.getElem?_map, List.getElem?_eq_getElem hi]
theorem Dk.name_ok {d : Dk.D} (h : Dk.Inv d) {k : Nat} (hk : k < (Dk.list d).length) : (Dk.list d)[k].size ≤ 32 := by
  have hm : (Dk.list d)[k] ∈ Dk.list d := List.getElem_mem hk
  obtain ⟨f, hf, he⟩ := List.mem_map.1 hm
  rw [← he]; exact (h.ok f hf).name.2
theorem Dk.list_len (d : Dk.D) : (Dk.list d).length ≤ Dk.load d := by
  show (d.files.map (·.name)).length ≤ _
  rw [List.length_map]; exact Dk.fsLoad_len d.files
section
variable {At : DkAt}
set_option maxRecDepth 100000 in
set_option maxHeartbeats 8000000 in
theorem same_any (K : DiskK At) (w : World) (p q : Nat) (S T : Nat → Prop) (d : Dk.D) (hp : At w p S d) (hq : At w q T d) :
    Calls Try.prog 31 #[.pointer (some ⟨p, 0, none⟩), .pointer (some ⟨q, 0, none⟩)] w fun e w' => e = .returned (.bool true) ∧ Below w.heap.size w w' := by
  have HNm : Hid (∀ k, (hk : k < (Dk.list d).length) → (Dk.list d)[k].size ≤ 100000000) := Lib.hid fun k hk => Nat.le_trans (Dk.name_ok (K.inv hp) hk) (by omega)
  have HLl : Hid ((Dk.list d).length ≤ 100000000) := Lib.hid (Nat.le_trans (Dk.list_len d) (K.load hp))
  have HP : Hid (∀ W, Below w.heap.size w W → At W p S d) := Lib.hid fun W hb => K.below hp hb
  have HQ : Hid (∀ W, Below w.heap.size w W → At W q T d) := Lib.hid fun W hb => K.below hq hb
  have HK := Lib.hid K
  obtain ⟨L, hL⟩ : ∃ L, L = Dk.list d := ⟨_, rfl⟩
  have HList : Hid (∀ W r R, At W r R d → Calls Try.prog 25 #[.pointer (some ⟨r, 0, none⟩)] W fun e w' => ∃ A cap, e = .returned (.slice A L.length cap) ∧ Lies w' A (sc L) ∧ Below W.heap.size W w') := Lib.hid fun W r R h => by
    subst hL
    exact (K.list W r R d h).mono fun e w' ⟨A, cap, e1, e2, _, e3⟩ => ⟨A, cap, e1, e2, e3⟩
  rw [← hL] at HNm HLl
  clear hp hq K hL
  have HB0 := Lib.hid (Below.refl w.heap.size w)
  go_enter Try.func31, Try.ntmps31
  go_wp2_with fail
  refine (HList.out _ _ _ (HP.out _ HB0.out)).mono ?_
  rintro e w1 ⟨A, ca, rfl, hl1, hb1⟩
  have HL1 := Lib.hid hl1
  have HB1 := Lib.hid hb1
  clear hl1 hb1
  go_wp2_with fail
  refine (HList.out _ _ _ (HQ.out _ HB1.out)).mono ?_
  rintro e w2 ⟨B, cb, rfl, hl2, hb2⟩
  have HL2 := Lib.hid (And.intro (HL1.out.below hb2) hl2)
  have HB2 := Lib.hid (bnext HB1.out hb2)
  clear hl2 hb2 HL1 HB1
  have hl8 := HLl.out
  have n1 : ((L.length : Int) != (L.length : Int)) = false := by simp
  go_wp2_with fail
  refine (HK.out.down _ _ _ _ (HP.out _ HB2.out)).mono ?_
  rintro e w3 ⟨rfl, hb3⟩
  have HB3 := Lib.hid (And.intro hb3 (bnext HB2.out hb3))
  clear hb3
  go_wp2_with fail
  refine (HK.out.down _ _ _ _ (HQ.out _ HB3.out.2)).mono ?_
  rintro e w4 ⟨rfl, hb4⟩
  have HB4 := Lib.hid (And.intro (bnext HB3.out.1 hb4) (bnext HB3.out.2 hb4))
  clear hb4 HB3
  go_wp2_with fail
  refine (HK.out.fused _ _ _ _ (HP.out _ HB4.out.2)).mono ?_
  rintro e w5 ⟨rfl, hb5⟩
  have HB5 := Lib.hid (And.intro (bnext HB4.out.1 hb5) (bnext HB4.out.2 hb5))
  clear hb5 HB4
  go_wp2_with fail
  refine (HK.out.fused _ _ _ _ (HQ.out _ HB5.out.2)).mono ?_
  rintro e w6 ⟨rfl, hb6⟩
  have HB6 := Lib.hid (And.intro (bnext HB5.out.1 hb6) (bnext HB5.out.2 hb6))
  clear hb6 HB5
  go_wp2_with fail
  go_loopw [7] (fun i wr => ∃ k : Nat, k ≤ L.length ∧ i = .int .i64 (k : Int) ∧ Below w2.heap.size w2 wr ∧ Below w.heap.size w wr) (fun i _ => L.length - (intOf i).toNat)
  case atStart => exact ⟨0, Nat.zero_le _, rfl, HB6.out⟩
  case round =>
    obtain ⟨k, hk, rfl, hb, hbw⟩ := hrel
    have Hb := Lib.hid hb
    have Hw := Lib.hid hbw
    clear hb hbw
    by_cases hlt : k < L.length
    · obtain ⟨b1, o1, hA, lt1, c1⟩ := HL2.out.1.str k hlt
      obtain ⟨b2, o2, hB, lt2, c2⟩ := HL2.out.2.str k hlt
      have hnz := HNm.out k hlt
      obtain ⟨s, hs⟩ : ∃ s, s = L[k] := ⟨_, rfl⟩
      rw [← hs] at c1 c2 hnz
      subst hA hB
      have HC : Hid (∀ W, Below w2.heap.size w2 W → W.cell? ⟨b1, o1 + k, none⟩ = some (.string s) ∧ W.cell? ⟨b2, o2 + k, none⟩ = some (.string s)) := Lib.hid fun W h => ⟨(h.cell (p := ⟨b1, o1 + k, none⟩) lt1).trans c1, (h.cell (p := ⟨b2, o2 + k, none⟩) lt2).trans c2⟩
      have HN := Lib.hid hnz
      clear c1 c2 lt1 lt2 hs hnz
      obtain ⟨x1, x2⟩ := HC.out _ Hb.out
      have HRec : Hid (∀ W r R, At W r R d → Calls Try.prog 20 #[.pointer (some ⟨r, 0, none⟩), .string s] W fun e w' => e = .returned (.tuple #[.int .i64 ((Dk.records d s).1 : Int), .int .i64 ((Dk.records d s).2 : Int)]) ∧ Below W.heap.size W w') := Lib.hid fun W r R h => HK.out.records W r R d s h HN.out
      have HRd : Hid (∀ W r R, At W r R d → Calls Try.prog 19 #[.pointer (some ⟨r, 0, none⟩), .string s] W fun e w' => e = .returned (.tuple #[.string ⟨(Dk.read d s).1.toArray⟩, .int .i64 (eno (Dk.read d s).2)]) ∧ Below W.heap.size W w') := Lib.hid fun W r R h => HK.out.read W r R d s h HN.out
      obtain ⟨ra, hra⟩ : ∃ ra, ra = (Dk.records d s).1 := ⟨_, rfl⟩
      obtain ⟨rb, hrb⟩ : ∃ ra, ra = (Dk.records d s).2 := ⟨_, rfl⟩
      obtain ⟨t, ht⟩ : ∃ t : ByteArray, t = ⟨(Dk.read d s).1.toArray⟩ := ⟨_, rfl⟩
      obtain ⟨ev, hev⟩ : ∃ ev : Int, ev = eno (Dk.read d s).2 := ⟨_, rfl⟩
      rw [← hra, ← hrb] at HRec
      rw [← ht, ← hev] at HRd
      clear hra hrb ht hev
      go_wp2_with fail
      refine (HRec.out _ _ _ (HP.out _ Hw.out)).mono ?_
      rintro e w7 ⟨rfl, h7⟩
      have H7 := Lib.hid (And.intro (bnext Hb.out h7) (bnext Hw.out h7))
      clear h7 x1 x2
      obtain ⟨x1, x2⟩ := HC.out _ H7.out.1
      go_wp2_with fail
      refine (HRec.out _ _ _ (HQ.out _ H7.out.2)).mono ?_
      rintro e w8 ⟨rfl, h8⟩
      have H8 := Lib.hid (And.intro (bnext H7.out.1 h8) (bnext H7.out.2 h8))
      clear h8 x1 x2
      obtain ⟨x1, x2⟩ := HC.out _ H8.out.1
      go_wp2_with fail
      refine (HRd.out _ _ _ (HP.out _ H8.out.2)).mono ?_
      rintro e w9 ⟨rfl, h9⟩
      have H9 := Lib.hid (And.intro (bnext H8.out.1 h9) (bnext H8.out.2 h9))
      clear h9 x1 x2
      obtain ⟨x1, x2⟩ := HC.out _ H9.out.1
      go_wp2_with fail
      refine (HRd.out _ _ _ (HQ.out _ H9.out.2)).mono ?_
      rintro e w10 ⟨rfl, h10⟩
      have H10 := Lib.hid (And.intro (bnext H9.out.1 h10) (bnext H9.out.2 h10))
      clear h10 x1 x2
      obtain ⟨x1, x2⟩ := HC.out _ H10.out.1
      go_wp2_with fail
      go_quiet (fail)
      go_wp2_with fail
      go_roundw
      case rel => exact ⟨k + 1, by omega, by go_num, below_drewN H10.out.1 _, below_drewN H10.out.2 _⟩
      case measure => simp [intOf]; omega
    · obtain rfl : k = L.length := by omega
      go_wp2_with fail
      go_ret
      exact ⟨rfl, Hw.out⟩
end
end Go.Proofs.Ytjmnoogaffjdiaa
