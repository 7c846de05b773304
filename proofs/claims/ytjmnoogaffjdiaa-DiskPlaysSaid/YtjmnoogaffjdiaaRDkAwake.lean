/-
  wapentakelaw07.awake walked: what is synced lasts, and a beginning of what is not.
-/
import Derived.Test.YtjmnoogaffjdiaaRDkNow
set_option linter.unusedSimpArgs false
set_option linter.unusedVariables false
namespace Go.Proofs.Ytjmnoogaffjdiaa
open Go.RowKit
def awN : ByteArray := ⟨#[97]⟩
def aw0 : Dk.D := Dk.D.new
def aw1 : Dk.D := (Dk.append aw0 awN ⟨#[120, 121, 122]⟩).2
def aw2 : Dk.D := (Dk.sync aw1 awN).2
def aw3 : Dk.D := (Dk.append aw2 awN ⟨#[112, 113]⟩).2
def aw4 : Dk.D := (Dk.append aw3 awN ⟨#[114, 115, 116]⟩).2
def aw5 : Dk.D := Dk.crash aw4 [1] [2]
def aw6 : Dk.D := Dk.start aw5
section
variable {At : DkAt} {w W : World} {p : Nat} {S : Nat → Prop}
theorem awAppend1 (K : DiskK At) (hn : Now At w W p S aw0) : Calls Try.prog 21 #[.pointer (some ⟨p, 0, none⟩), .string ⟨#[97]⟩, .string ⟨#[120, 121, 122]⟩] W fun e w' => e = .returned (.int .i64 0) ∧ Now At w w' p S aw1 :=
  (K.appendN hn awN ⟨#[120, 121, 122]⟩ (by decide +kernel)).mono fun e w' ⟨e1, e2⟩ => ⟨e1.trans (by rw [show eno (Dk.append aw0 awN ⟨#[120, 121, 122]⟩).1 = 0 by decide +kernel]), e2⟩
theorem awSync (K : DiskK At) (hn : Now At w W p S aw1) : Calls Try.prog 22 #[.pointer (some ⟨p, 0, none⟩), .string ⟨#[97]⟩] W fun e w' => e = .returned (.int .i64 0) ∧ Now At w w' p S aw2 :=
  (K.syncN hn awN (by decide +kernel)).mono fun e w' ⟨e1, e2⟩ => ⟨e1.trans (by rw [show eno (Dk.sync aw1 awN).1 = 0 by decide +kernel]), e2⟩
theorem awAppend2 (K : DiskK At) (hn : Now At w W p S aw2) : Calls Try.prog 21 #[.pointer (some ⟨p, 0, none⟩), .string ⟨#[97]⟩, .string ⟨#[112, 113]⟩] W fun e w' => e = .returned (.int .i64 0) ∧ Now At w w' p S aw3 :=
  (K.appendN hn awN ⟨#[112, 113]⟩ (by decide +kernel)).mono fun e w' ⟨e1, e2⟩ => ⟨e1.trans (by rw [show eno (Dk.append aw2 awN ⟨#[112, 113]⟩).1 = 0 by decide +kernel]), e2⟩
theorem awAppend3 (K : DiskK At) (hn : Now At w W p S aw3) : Calls Try.prog 21 #[.pointer (some ⟨p, 0, none⟩), .string ⟨#[97]⟩, .string ⟨#[114, 115, 116]⟩] W fun e w' => e = .returned (.int .i64 0) ∧ Now At w w' p S aw4 :=
  (K.appendN hn awN ⟨#[114, 115, 116]⟩ (by decide +kernel)).mono fun e w' ⟨e1, e2⟩ => ⟨e1.trans (by rw [show eno (Dk.append aw3 awN ⟨#[114, 115, 116]⟩).1 = 0 by decide +kernel]), e2⟩
theorem awRead5 (K : DiskK At) (hn : Now At w W p S aw5) : Calls Try.prog 19 #[.pointer (some ⟨p, 0, none⟩), .string ⟨#[97]⟩] W fun e w' => e = .returned (.tuple #[.string ⟨#[]⟩, .int .i64 7]) ∧ Now At w w' p S aw5 :=
  (K.readN hn awN (by decide +kernel)).mono fun e w' ⟨e1, e2⟩ => ⟨e1.trans (by rw [show Dk.read aw5 awN = ([], .down) by decide +kernel]; rfl), e2⟩
theorem awRead6 (K : DiskK At) (hn : Now At w W p S aw6) : Calls Try.prog 19 #[.pointer (some ⟨p, 0, none⟩), .string ⟨#[97]⟩] W fun e w' => e = .returned (.tuple #[.string ⟨#[120, 121, 122, 112, 113, 114, 115]⟩, .int .i64 0]) ∧ Now At w w' p S aw6 :=
  (K.readN hn awN (by decide +kernel)).mono fun e w' ⟨e1, e2⟩ => ⟨e1.trans (by rw [show Dk.read aw6 awN = ([120, 121, 122, 112, 113, 114, 115], .ok) by decide +kernel]; rfl), e2⟩
theorem awRecords (K : DiskK At) (hn : Now At w W p S aw6) : Calls Try.prog 20 #[.pointer (some ⟨p, 0, none⟩), .string ⟨#[97]⟩] W fun e w' => e = .returned (.tuple #[.int .i64 2, .int .i64 2]) ∧ Now At w w' p S aw6 :=
  (K.recordsN hn awN (by decide +kernel)).mono fun e w' ⟨e1, e2⟩ => ⟨e1.trans (by rw [show Dk.records aw6 awN = (2, 2) by decide +kernel]; rfl), e2⟩
theorem awCrash (K : DiskK At) (hn : Now At w W p S aw4) : Calls Try.prog 17 #[.pointer (some ⟨p, 0, none⟩), .agg #[.slice (some ⟨W.heap.size, 0, none⟩) 1 1, .slice (some ⟨W.heap.size + 1, 0, none⟩) 1 1]] ((W.alloc (.cells #[.int .i64 1] 3)).alloc (.cells #[.int .i64 2] 3)) fun e w' => e = .returned (.tuple #[]) ∧ Now At w w' p S aw5 :=
  K.crash1 hn 1 2 (by decide) (by decide)
set_option maxRecDepth 100000 in
set_option maxHeartbeats 4000000 in
theorem awake_any (K : DiskK At) (w : World) : Calls Try.prog 11 #[] w fun e w' => e = .returned (.bool true) ∧ Below w.heap.size w w' := by
  have HK := Lib.hid K
  clear K
  go_enter Try.func11, Try.ntmps11
  go_wp2_with fail
  refine (HK.out.new _).mono ?_
  rintro e w1 ⟨p, S, rfl, h1, h2, h3⟩
  have HF : Hid (∀ W, Now At w1 W p S aw6 → Below w.heap.size w W) := Lib.hid fun W h => h.below h3 h2
  have HN := Lib.hid (Now.start h1 : Now At w1 w1 p S aw0)
  clear h1 h2 h3
  go_wp2_with fail
  refine (awAppend1 HK.out HN.out).mono ?_
  rintro e w2 ⟨rfl, hn⟩
  have HN2 := Lib.hid hn
  clear hn HN
  go_wp2_with fail
  refine (awSync HK.out HN2.out).mono ?_
  rintro e w3 ⟨rfl, hn⟩
  have HN3 := Lib.hid hn
  clear hn HN2
  go_wp2_with fail
  refine (awAppend2 HK.out HN3.out).mono ?_
  rintro e w4 ⟨rfl, hn⟩
  have HN4 := Lib.hid hn
  clear hn HN3
  go_wp2_with fail
  refine (awAppend3 HK.out HN4.out).mono ?_
  rintro e w5 ⟨rfl, hn⟩
  have HN5 := Lib.hid hn
  clear hn HN4
  go_wp2_with fail
  refine (awCrash HK.out HN5.out).mono ?_
  rintro e w6 ⟨rfl, hn⟩
  have HN6 := Lib.hid hn
  clear hn HN5
  go_wp2_with fail
  refine (awRead5 HK.out HN6.out).mono ?_
  rintro e w7 ⟨rfl, hn⟩
  have HN7 := Lib.hid hn
  clear hn HN6
  go_wp2_with fail
  refine (HK.out.startN HN7.out).mono ?_
  rintro e w8 ⟨rfl, hn⟩
  have HN8 := Lib.hid (hn : Now At w1 w8 p S aw6)
  clear hn HN7
  go_wp2_with fail
  refine (awRead6 HK.out HN8.out).mono ?_
  rintro e w9 ⟨rfl, hn⟩
  have HN9 := Lib.hid hn
  clear hn HN8
  go_wp2_with fail
  refine (awRecords HK.out HN9.out).mono ?_
  rintro e w10 ⟨rfl, hn⟩
  have HN10 := Lib.hid hn
  clear hn HN9
  go_wp2_with fail
  go_ret
  exact ⟨rfl, HF.out _ HN10.out⟩
end
end Go.Proofs.Ytjmnoogaffjdiaa
