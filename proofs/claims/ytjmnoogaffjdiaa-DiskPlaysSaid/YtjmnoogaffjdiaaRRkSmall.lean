/-
  The document's disk: goes, right, Fuse, Bytes walked.
-/
import Derived.Test.YtjmnoogaffjdiaaRRkBase
import Derived.Test.YtjmnoogaffjdiaaRDkSame
set_option linter.unusedSimpArgs false
set_option linter.unusedVariables false
namespace Go.Proofs.Ytjmnoogaffjdiaa
open Go.RowKit
def atP (p : Nat) (k : Nat) : Prop := k = p
/-- Another head: the power and the fuse. -/
theorem RI.head {W W' : World} {p : Nat} {xs : List Fx} {A : Option Addr} {cap : Nat} {off off' : Bool} {left left' : Nat} (h : RI W p xs A cap off left) (hk : Ko (atP p) W W')
    (hr : W'.heap[p]? = some (.cells #[.slice A xs.length cap, .bool off', .int .i64 (left' : Int)] 30 (0, 0))) : RI W' p xs A cap off' left' := by
  refine ⟨hr, ?_, fun x hx => (h.lies x hx).ko (fun b o hv he hp => h.ap x hx b o (fun hh => hv (by rw [hh]; rfl)) he hp) hk, h.ap, h.av, h.pv, h.room⟩
  exact h.own.kept (row := some p) ⟨hk.os, hk.tape, hk.output, hk.size, fun i hi hne => hk.block i hi (fun hp => hne (by rw [hp]))⟩ (by
    rcases h.blk with ⟨_, rfl, rfl⟩ | ⟨g, cur, hA, _⟩
    · simp [Value.ownBlock]
    · subst hA
      have := h.pv g 0 rfl
      simp [Value.ownBlock]; exact this)
theorem Ko.setp {p : Nat} {W W' : World} (h : Ko (atP p) W W') (i : Nat) (v : Value) : Ko (atP p) W (W'.setCell ⟨p, i, none⟩ v) :=
  ⟨h.os, h.tape, h.output, by simpa using h.size, fun k hk hn => (Below.heap_setCell _ _ _ _ (fun he => hn (show k = p from he))).trans (h.block k hk hn)⟩
set_option maxRecDepth 100000 in
theorem goes_any (W : World) (p : Nat) (xs : List Fx) (A : Option Addr) (cap : Nat) (left : Nat) (h : RI W p xs A cap false left) (hl : left ≤ 9223372036854775807) :
    Calls Try.prog 55 #[.pointer (some ⟨p, 0, none⟩)] W fun e w' => e = .returned (.bool (decide (left ≠ 1))) ∧ RI w' p xs A cap (decide (left = 1)) (left - 1) ∧ Ko (atP p) W w' := by
  have c1 : W.cell? ⟨p, 1, none⟩ = some (.bool false) := cell_of_row W p 1 _ _ _ h.row
  have c2 : W.cell? ⟨p, 2, none⟩ = some (.int .i64 (left : Int)) := cell_of_row W p 2 _ _ _ h.row
  have f1 : W.frozen? ⟨p, 1, none⟩ = false := frozen_of_row W p 1 _ _ h.row
  have f2 : W.frozen? ⟨p, 2, none⟩ = false := frozen_of_row W p 2 _ _ h.row
  by_cases h1 : left = 1
  · subst h1
    have HE : Hid (RI ((W.setCell ⟨p, 1, none⟩ (.bool true)).setCell ⟨p, 2, none⟩ (.int .i64 0)) p xs A cap true 0 ∧ Ko (atP p) W ((W.setCell ⟨p, 1, none⟩ (.bool true)).setCell ⟨p, 2, none⟩ (.int .i64 0))) := Lib.hid
      ⟨h.head (((Ko.refl _ _).setp 1 _).setp 2 _) (heap_setCell_same _ p 2 _ _ _ (heap_setCell_same W p 1 _ _ _ h.row)), ((Ko.refl _ _).setp 1 _).setp 2 _⟩
    clear h
    go_enter Try.func55, Try.ntmps55
    go_wp2_with fail
    go_ret
    exact ⟨rfl, HE.out.1, HE.out.2⟩
  · by_cases h0 : left = 0
    · subst h0
      have HE := Lib.hid h
      clear h
      go_enter Try.func55, Try.ntmps55
      go_wp2_with fail
      go_ret
      exact ⟨rfl, HE.out, Ko.refl _ _⟩
    · have q1 : ((left : Int) == 1) = false := by simp; omega
      have q2 : decide ((0 : Int) < (left : Int)) = true := by simp; omega
      have e1 : decide (left ≠ 1) = true := by simpa using h1
      have e2 : decide (left = 1) = false := by simpa using h1
      have hcast : ((left - 1 : Nat) : Int) = (left : Int) - 1 := by omega
      have HE : Hid (RI (W.setCell ⟨p, 2, none⟩ (.int .i64 ((left : Int) - 1))) p xs A cap false (left - 1) ∧ Ko (atP p) W (W.setCell ⟨p, 2, none⟩ (.int .i64 ((left : Int) - 1)))) := Lib.hid
        ⟨h.head ((Ko.refl _ _).setp 2 _) (by rw [hcast]; exact heap_setCell_same _ p 2 _ _ _ h.row), (Ko.refl _ _).setp 2 _⟩
      have E1 := Lib.hid e1
      have E2 := Lib.hid e2
      have b1 : 0 < (left : Int) := by omega
      clear h h1 h0 e1 e2 hcast
      go_enter Try.func55, Try.ntmps55
      go_wp2_with fail
      go_ret
      exact ⟨by rw [E1.out]; rfl, by rw [E2.out]; exact HE.out.1, HE.out.2⟩
set_option maxRecDepth 100000 in
theorem right_any (W : World) (n : ByteArray) : Calls Try.prog 53 #[.string n] W fun e w' => e = .returned (.bool (decide (Dk.okName n))) ∧ W = w' := by
  obtain ⟨B, hB⟩ : ∃ B, B = decide (Dk.okName n) := ⟨_, rfl⟩
  rw [← hB]
  by_cases h1 : 1 ≤ n.size
  · have q1 : decide ((1 : Int) ≤ (n.size : Int)) = true := by simp; omega
    by_cases h2 : n.size ≤ 32
    · have q2 : decide ((n.size : Int) ≤ 32) = true := by simp; omega
      have E : Hid (B = true) := Lib.hid (by rw [hB]; exact decide_eq_true ⟨h1, h2⟩)
      clear hB h1 h2
      go_enter Try.func53, Try.ntmps53
      go_wp2_with fail
      go_ret
      exact ⟨by rw [E.out]; rfl, rfl⟩
    · have q2 : decide ((n.size : Int) ≤ 32) = false := by simp; omega
      have E : Hid (B = false) := Lib.hid (by rw [hB]; exact decide_eq_false fun h => h2 h.2)
      clear hB h1 h2
      go_enter Try.func53, Try.ntmps53
      go_wp2_with fail
      go_ret
      exact ⟨by rw [E.out]; rfl, rfl⟩
  · have q1 : decide ((1 : Int) ≤ (n.size : Int)) = false := by simp; omega
    have E : Hid (B = false) := Lib.hid (by rw [hB]; exact decide_eq_false fun h => h1 h.1)
    clear hB h1
    go_enter Try.func53, Try.ntmps53
    go_wp2_with fail
    go_ret
    exact ⟨by rw [E.out]; rfl, rfl⟩
set_option maxRecDepth 100000 in
theorem fuse_any (W : World) (p : Nat) (xs : List Fx) (A : Option Addr) (cap : Nat) (off : Bool) (left : Nat) (h : RI W p xs A cap off left) (n : Int) :
    Calls Try.prog 37 #[.pointer (some ⟨p, 0, none⟩), .int .i64 n] W fun e w' => e = .returned (.tuple #[]) ∧ RI w' p xs A cap off n.toNat ∧ Ko (atP p) W w' := by
  have c2 : W.cell? ⟨p, 2, none⟩ = some (.int .i64 (left : Int)) := cell_of_row W p 2 _ _ _ h.row
  have f2 : W.frozen? ⟨p, 2, none⟩ = false := frozen_of_row W p 2 _ _ h.row
  by_cases h1 : n < 1
  · have q1 : decide (n < 1) = true := decide_eq_true h1
    have HE : Hid (RI ((W.setCell ⟨p, 2, none⟩ (.int .i64 n)).setCell ⟨p, 2, none⟩ (.int .i64 0)) p xs A cap off n.toNat ∧ Ko (atP p) W ((W.setCell ⟨p, 2, none⟩ (.int .i64 n)).setCell ⟨p, 2, none⟩ (.int .i64 0))) := Lib.hid
      ⟨h.head (((Ko.refl _ _).setp 2 _).setp 2 _) (by rw [show n.toNat = 0 by omega]; exact heap_setCell_same _ p 2 _ _ _ (heap_setCell_same W p 2 _ _ _ h.row)), ((Ko.refl _ _).setp 2 _).setp 2 _⟩
    clear h h1
    go_enter Try.func37, Try.ntmps37
    go_wp2_with fail
    go_end0
    exact ⟨rfl, HE.out.1, HE.out.2⟩
  · have q1 : decide (n < 1) = false := decide_eq_false h1
    have HE : Hid (RI (W.setCell ⟨p, 2, none⟩ (.int .i64 n)) p xs A cap off n.toNat ∧ Ko (atP p) W (W.setCell ⟨p, 2, none⟩ (.int .i64 n))) := Lib.hid
      ⟨h.head ((Ko.refl _ _).setp 2 _) (by rw [show ((n.toNat : Nat) : Int) = n by omega]; exact heap_setCell_same _ p 2 _ _ _ h.row), (Ko.refl _ _).setp 2 _⟩
    clear h h1
    go_enter Try.func37, Try.ntmps37
    go_wp2_with fail
    go_end0
    exact ⟨rfl, HE.out.1, HE.out.2⟩
/-- The bytes of the first records. -/
def catB (l : List ByteArray) : ByteArray := ⟨(Dk.cat l).toArray⟩
theorem catB_nil : catB [] = ⟨#[]⟩ := rfl
theorem catB_size (l : List ByteArray) : (catB l).size = Dk.sz l := by rw [← Dk.cat_length]; simp [catB, ByteArray.size]
theorem catB_append (a b : List ByteArray) : catB (a ++ b) = catB a ++ catB b := by
  apply ByteArray.ext; apply Array.toList_inj.1
  simp [catB, Dk.cat_append]
theorem catB_succ (l : List ByteArray) (k : Nat) (h : k < l.length) : catB (l.take (k + 1)) = catB (l.take k) ++ l[k] := by
  rw [List.take_succ_eq_append_getElem h, catB_append]
  congr 1
  apply ByteArray.ext; apply Array.toList_inj.1
  simp [catB, Dk.cat]
set_option maxRecDepth 100000 in
set_option maxHeartbeats 2000000 in
theorem bytes_any (W : World) (x : Fx) (hx : Lies W x.ra (sc x.f.recs)) (hz : Dk.flLoad x.f ≤ 100000000) :
    Calls Try.prog 39 #[.agg (flC x)] W fun e w' => e = .returned (.string ⟨(Dk.bytes x.f).toArray⟩) ∧ Below W.heap.size W w' := by
  have hz2 : x.f.recs.length ≤ 100000000 ∧ Dk.sz x.f.recs + x.f.torn.size ≤ 100000000 := by unfold Dk.flLoad at hz; omega
  obtain ⟨hl8, hsz⟩ := hz2
  have HS : Hid (∀ k, Dk.sz (x.f.recs.take k) + x.f.torn.size ≤ 100000000) := Lib.hid fun k => by have := Dk.sz_take x.f.recs k; omega
  have HE : Hid ((⟨(Dk.bytes x.f).toArray⟩ : ByteArray) = catB x.f.recs ++ x.f.torn) := Lib.hid (by
    apply ByteArray.ext; apply Array.toList_inj.1
    simp [catB, Dk.bytes])
  have HX := Lib.hid hx
  obtain ⟨⟨nm, rs, sy, ct, tn⟩, ra, rc⟩ := x
  simp only at hl8 HS HX
  have HB := Lib.hid (Below.refl W.heap.size W)
  unfold flC
  simp only
  clear hz hx hsz
  go_enter Try.func39, Try.ntmps39
  go_wp2_with fail
  go_loopw [3, 4] (fun s i wr => ∃ k : Nat, k ≤ rs.length ∧ i = .int .i64 (k : Int) ∧ s = .string (catB (rs.take k)) ∧ wr = W.alloc (.cells #[.string nm, .slice ra rs.length rc, .int .i64 (sy : Int), .bool ct, .string tn] 65)) (fun _ i _ => rs.length - (intOf i).toNat)
  case atStart => exact ⟨0, Nat.zero_le _, rfl, rfl, rfl⟩
  case round =>
    obtain ⟨k, hk, rfl, rfl, rfl⟩ := hrel
    by_cases hlt : k < rs.length
    · obtain ⟨b, off, hA, hlb, hc⟩ := HX.out.str k hlt
      have hc2 := ((bnew (Below.refl _ _) (.cells #[.string nm, .slice ra rs.length rc, .int .i64 (sy : Int), .bool ct, .string tn] 65)).cell (p := ⟨b, off + k, none⟩) hlb).trans hc
      have HC := Lib.hid (catB_succ rs k hlt)
      have hs1 := HS.out (k + 1)
      have hs2 : (catB (rs.take k)).size + rs[k].size ≤ 100000000 := by
        have h1 := catB_size (rs.take (k + 1))
        rw [HC.out, ByteArray.size_append] at h1
        omega
      obtain ⟨t, ht⟩ : ∃ t, t = catB (rs.take k) := ⟨_, rfl⟩
      obtain ⟨r, hr⟩ : ∃ r, r = rs[k] := ⟨_, rfl⟩
      rw [← ht, ← hr] at HC hs2
      rw [← hr] at hc2
      rw [← ht]
      subst hA
      clear hc hs1 ht hr
      go_wp2_with fail
      go_roundw
      case rel => exact ⟨k + 1, by omega, by go_num, by rw [HC.out], trivial⟩
      case measure => simp [intOf]; omega
    · obtain rfl : k = rs.length := by omega
      have hs1 := HS.out rs.length
      have h1 := catB_size rs
      rw [List.take_length] at hs1
      rw [List.take_length]
      have hs2 : (catB rs).size + tn.size ≤ 100000000 := by omega
      obtain ⟨t, ht⟩ : ∃ t, t = catB rs := ⟨_, rfl⟩
      rw [← ht] at HE hs2 ⊢
      clear hs1 h1 ht
      go_wp2_with fail
      go_ret
      exact ⟨by rw [HE.out]; rfl, bnew (Below.refl _ _) _⟩
end Go.Proofs.Ytjmnoogaffjdiaa
