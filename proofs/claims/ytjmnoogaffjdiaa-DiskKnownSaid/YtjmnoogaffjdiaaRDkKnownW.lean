/-
  DiskKnown walked. WRITTEN BY wip/tools/gen_dkknown.py.
-/
import Derived.Test.YtjmnoogaffjdiaaRDkAwake
import Derived.Test.YtjmnoogaffjdiaaRDkSame
import Derived.Laws.IdiomStrings
set_option linter.unusedSimpArgs false
set_option linter.unusedVariables false
namespace Go.Proofs.Ytjmnoogaffjdiaa
open Go.RowKit
def longN : ByteArray := ⟨Array.replicate 33 0⟩
def longM : ByteArray := ⟨Array.replicate 32 0⟩
def kn0 : Dk.D := Dk.D.new
def kn1 : Dk.D := (Dk.append kn0 (⟨#[97]⟩ : ByteArray) (⟨#[120, 121, 122]⟩ : ByteArray)).2
def kn2 : Dk.D := (Dk.sync kn1 (⟨#[97]⟩ : ByteArray)).2
def kn3 : Dk.D := (Dk.append kn2 (⟨#[97]⟩ : ByteArray) (⟨#[112, 113]⟩ : ByteArray)).2
def kn4 : Dk.D := (Dk.append kn3 (⟨#[97]⟩ : ByteArray) (⟨#[114, 115, 116]⟩ : ByteArray)).2
def kn5 : Dk.D := Dk.crash kn4 [1] [2]
def kn6 : Dk.D := Dk.start kn5
def kn7 : Dk.D := (Dk.append kn6 (⟨#[97]⟩ : ByteArray) (⟨#[117]⟩ : ByteArray)).2
def kn8 : Dk.D := (Dk.rename kn7 (⟨#[97]⟩ : ByteArray) (⟨#[98]⟩ : ByteArray)).2
def kn9 : Dk.D := (Dk.append kn8 (⟨#[97]⟩ : ByteArray) (⟨#[117]⟩ : ByteArray)).2
def kn10 : Dk.D := Dk.fuse kn9 2
def kn11 : Dk.D := (Dk.sync kn10 (⟨#[97]⟩ : ByteArray)).2
def kn12 : Dk.D := (Dk.delete kn11 (⟨#[98]⟩ : ByteArray)).2
def kn13 : Dk.D := Dk.start kn12
def kn14 : Dk.D := (Dk.append kn13 (⟨#[99]⟩ : ByteArray) (⟨#[]⟩ : ByteArray)).2
def kn15 : Dk.D := (Dk.sync kn14 (⟨#[99]⟩ : ByteArray)).2
def kn16 : Dk.D := (Dk.append kn15 (⟨#[]⟩ : ByteArray) (⟨#[120]⟩ : ByteArray)).2
def kn17 : Dk.D := (Dk.append kn16 (longN : ByteArray) (⟨#[120]⟩ : ByteArray)).2
def kn18 : Dk.D := (Dk.append kn17 (longM : ByteArray) (⟨#[120]⟩ : ByteArray)).2
def kn19 : Dk.D := (Dk.rename kn18 (⟨#[97]⟩ : ByteArray) (longN : ByteArray)).2
def kn20 : Dk.D := (Dk.rename kn19 (⟨#[122]⟩ : ByteArray) (⟨#[121]⟩ : ByteArray)).2
def kn21 : Dk.D := (Dk.rename kn20 (⟨#[97]⟩ : ByteArray) (⟨#[97]⟩ : ByteArray)).2
section
variable {At : DkAt} {w W : World} {p : Nat} {S : Nat → Prop}
theorem DiskK.listN (K : DiskK At) {d : Dk.D} (hn : Now At w W p S d) :
    Calls Try.prog 25 #[.pointer (some ⟨p, 0, none⟩)] W fun e w' => ∃ A cap, e = .returned (.slice A (Dk.list d).length cap) ∧ Lies w' A (sc (Dk.list d)) ∧ Now At w w' p S d := by
  obtain ⟨⟨S', h1, h2⟩, h3⟩ := hn
  exact (K.list W p S' d h1).mono fun e w' ⟨A, cap, e1, e2, _, e3⟩ => ⟨A, cap, e1, e2, Now.trans h3 h2 (K.now h1 e3)⟩
theorem long_conv (W : World) : (convert 56 9 (.slice (some ⟨W.heap.size, 0, none⟩) 33 33)).run Try.prog (W.alloc (.cells (Array.replicate 33 (.int .u8 0)) 5)) = .ok (.string longN) (W.alloc (.cells (Array.replicate 33 (.int .u8 0)) 5)) := by
  have h : longN = ⟨(List.replicate 33 (0 : UInt8)).toArray⟩ := by decide +kernel
  rw [h]
  refine run_convert_bytes_back (W.alloc (.cells (Array.replicate 33 (.int .u8 0)) 5)) 56 9 5 ⟨W.heap.size, 0, none⟩ 33 (List.replicate 33 (0 : UInt8)) Try.underlying56 Try.underlying5 Try.underlying9 (fun j hj => ?_)
  have hj : j < 33 := by simpa using hj
  have h2 := cell_of_row (W.alloc (.cells (Array.replicate 33 (.int .u8 0)) 5)) W.heap.size j _ _ _ (heap_alloc_new W _)
  have h3 : (⟨W.heap.size, 0, none⟩ : Addr).add j = ⟨W.heap.size, j, none⟩ := by unfold Addr.add; split <;> simp_all
  rw [h3, h2, Array.getElem?_replicate, if_pos hj, List.getElem_replicate]; rfl
theorem kn_0 (K : DiskK At) (hn : Now At w W p S kn0) : Calls Try.prog 21 #[.pointer (some ⟨p, 0, none⟩), .string ⟨#[97]⟩, .string ⟨#[120, 121, 122]⟩] W fun e w' => e = .returned (.int .i64 0) ∧ Now At w w' p S kn1 :=
  (K.appendN hn ⟨#[97]⟩ ⟨#[120, 121, 122]⟩ (by decide +kernel)).mono fun e w' ⟨e1, e2⟩ => ⟨e1.trans (by rw [show eno (Dk.append kn0 (⟨#[97]⟩ : ByteArray) (⟨#[120, 121, 122]⟩ : ByteArray)).1 = 0 by decide +kernel]), e2⟩
theorem kn_1 (K : DiskK At) (hn : Now At w W p S kn1) : Calls Try.prog 22 #[.pointer (some ⟨p, 0, none⟩), .string ⟨#[97]⟩] W fun e w' => e = .returned (.int .i64 0) ∧ Now At w w' p S kn2 :=
  (K.syncN hn ⟨#[97]⟩ (by decide +kernel)).mono fun e w' ⟨e1, e2⟩ => ⟨e1.trans (by rw [show eno (Dk.sync kn1 (⟨#[97]⟩ : ByteArray)).1 = 0 by decide +kernel]), e2⟩
theorem kn_2 (K : DiskK At) (hn : Now At w W p S kn2) : Calls Try.prog 21 #[.pointer (some ⟨p, 0, none⟩), .string ⟨#[97]⟩, .string ⟨#[112, 113]⟩] W fun e w' => e = .returned (.int .i64 0) ∧ Now At w w' p S kn3 :=
  (K.appendN hn ⟨#[97]⟩ ⟨#[112, 113]⟩ (by decide +kernel)).mono fun e w' ⟨e1, e2⟩ => ⟨e1.trans (by rw [show eno (Dk.append kn2 (⟨#[97]⟩ : ByteArray) (⟨#[112, 113]⟩ : ByteArray)).1 = 0 by decide +kernel]), e2⟩
theorem kn_3 (K : DiskK At) (hn : Now At w W p S kn3) : Calls Try.prog 21 #[.pointer (some ⟨p, 0, none⟩), .string ⟨#[97]⟩, .string ⟨#[114, 115, 116]⟩] W fun e w' => e = .returned (.int .i64 0) ∧ Now At w w' p S kn4 :=
  (K.appendN hn ⟨#[97]⟩ ⟨#[114, 115, 116]⟩ (by decide +kernel)).mono fun e w' ⟨e1, e2⟩ => ⟨e1.trans (by rw [show eno (Dk.append kn3 (⟨#[97]⟩ : ByteArray) (⟨#[114, 115, 116]⟩ : ByteArray)).1 = 0 by decide +kernel]), e2⟩
theorem kn_4 (K : DiskK At) (hn : Now At w W p S kn4) : Calls Try.prog 17 #[.pointer (some ⟨p, 0, none⟩), .agg #[.slice (some ⟨W.heap.size, 0, none⟩) 1 1, .slice (some ⟨W.heap.size + 1, 0, none⟩) 1 1]] ((W.alloc (.cells #[.int .i64 1] 3)).alloc (.cells #[.int .i64 2] 3)) fun e w' => e = .returned (.tuple #[]) ∧ Now At w w' p S kn5 :=
  K.crash1 hn 1 2 (by decide) (by decide)
theorem kn_5 (K : DiskK At) (hn : Now At w W p S kn5) : Calls Try.prog 18 #[.pointer (some ⟨p, 0, none⟩)] W fun e w' => e = .returned (.tuple #[]) ∧ Now At w w' p S kn6 := K.startN hn
theorem kn_6 (K : DiskK At) (hn : Now At w W p S kn6) : Calls Try.prog 21 #[.pointer (some ⟨p, 0, none⟩), .string ⟨#[97]⟩, .string ⟨#[117]⟩] W fun e w' => e = .returned (.int .i64 9) ∧ Now At w w' p S kn7 :=
  (K.appendN hn ⟨#[97]⟩ ⟨#[117]⟩ (by decide +kernel)).mono fun e w' ⟨e1, e2⟩ => ⟨e1.trans (by rw [show eno (Dk.append kn6 (⟨#[97]⟩ : ByteArray) (⟨#[117]⟩ : ByteArray)).1 = 9 by decide +kernel]), e2⟩
theorem kn_7 (K : DiskK At) (hn : Now At w W p S kn7) : Calls Try.prog 23 #[.pointer (some ⟨p, 0, none⟩), .string ⟨#[97]⟩, .string ⟨#[98]⟩] W fun e w' => e = .returned (.int .i64 0) ∧ Now At w w' p S kn8 :=
  (K.renameN hn ⟨#[97]⟩ ⟨#[98]⟩ (by decide +kernel) (by decide +kernel)).mono fun e w' ⟨e1, e2⟩ => ⟨e1.trans (by rw [show eno (Dk.rename kn7 (⟨#[97]⟩ : ByteArray) (⟨#[98]⟩ : ByteArray)).1 = 0 by decide +kernel]), e2⟩
theorem kn_8 (K : DiskK At) (hn : Now At w W p S kn8) : Calls Try.prog 21 #[.pointer (some ⟨p, 0, none⟩), .string ⟨#[97]⟩, .string ⟨#[117]⟩] W fun e w' => e = .returned (.int .i64 0) ∧ Now At w w' p S kn9 :=
  (K.appendN hn ⟨#[97]⟩ ⟨#[117]⟩ (by decide +kernel)).mono fun e w' ⟨e1, e2⟩ => ⟨e1.trans (by rw [show eno (Dk.append kn8 (⟨#[97]⟩ : ByteArray) (⟨#[117]⟩ : ByteArray)).1 = 0 by decide +kernel]), e2⟩
theorem kn_9 (K : DiskK At) (hn : Now At w W p S kn9) : Calls Try.prog 16 #[.pointer (some ⟨p, 0, none⟩), .int .i64 2] W fun e w' => e = .returned (.tuple #[]) ∧ Now At w w' p S kn10 := K.fuseN hn 2 (by decide)
theorem kn_10 (K : DiskK At) (hn : Now At w W p S kn10) : Calls Try.prog 22 #[.pointer (some ⟨p, 0, none⟩), .string ⟨#[97]⟩] W fun e w' => e = .returned (.int .i64 0) ∧ Now At w w' p S kn11 :=
  (K.syncN hn ⟨#[97]⟩ (by decide +kernel)).mono fun e w' ⟨e1, e2⟩ => ⟨e1.trans (by rw [show eno (Dk.sync kn10 (⟨#[97]⟩ : ByteArray)).1 = 0 by decide +kernel]), e2⟩
theorem kn_11 (K : DiskK At) (hn : Now At w W p S kn11) : Calls Try.prog 26 #[.pointer (some ⟨p, 0, none⟩)] W fun e w' => e = .returned (.int .i64 1) ∧ Now At w w' p S kn11 :=
  (K.fusedN hn).mono fun e w' ⟨e1, e2⟩ => ⟨e1.trans (by rw [show ((kn11.left : Nat) : Int) = 1 by decide +kernel]), e2⟩
theorem kn_12 (K : DiskK At) (hn : Now At w W p S kn11) : Calls Try.prog 24 #[.pointer (some ⟨p, 0, none⟩), .string ⟨#[98]⟩] W fun e w' => e = .returned (.int .i64 7) ∧ Now At w w' p S kn12 :=
  (K.deleteN hn ⟨#[98]⟩ (by decide +kernel)).mono fun e w' ⟨e1, e2⟩ => ⟨e1.trans (by rw [show eno (Dk.delete kn11 (⟨#[98]⟩ : ByteArray)).1 = 7 by decide +kernel]), e2⟩
theorem kn_13 (K : DiskK At) (hn : Now At w W p S kn12) : Calls Try.prog 19 #[.pointer (some ⟨p, 0, none⟩), .string ⟨#[97]⟩] W fun e w' => e = .returned (.tuple #[.string ⟨#[]⟩, .int .i64 7]) ∧ Now At w w' p S kn12 :=
  (K.readN hn ⟨#[97]⟩ (by decide +kernel)).mono fun e w' ⟨e1, e2⟩ => ⟨e1.trans (by rw [show Dk.read kn12 ⟨#[97]⟩ = ([], .down) by decide +kernel]; rfl), e2⟩
theorem kn_14 (K : DiskK At) (hn : Now At w W p S kn12) : Calls Try.prog 18 #[.pointer (some ⟨p, 0, none⟩)] W fun e w' => e = .returned (.tuple #[]) ∧ Now At w w' p S kn13 := K.startN hn
theorem kn_15 (K : DiskK At) (hn : Now At w W p S kn13) : Calls Try.prog 25 #[.pointer (some ⟨p, 0, none⟩)] W fun e w' => ∃ b off cap, e = .returned (.slice (some ⟨b, off, none⟩) 2 cap) ∧ b < w'.heap.size ∧ w'.cell? ⟨b, off, none⟩ = some (.string ⟨#[97]⟩) ∧ w'.cell? ⟨b, off + 1, none⟩ = some (.string ⟨#[98]⟩) ∧ Now At w w' p S kn13 := by
  have hL : Dk.list kn13 = [⟨#[97]⟩, ⟨#[98]⟩] := by decide +kernel
  refine (K.listN hn).mono ?_
  rintro e w' ⟨L, cap, rfl, h1, h2⟩
  rw [hL] at h1 ⊢
  rcases h1 with h1 | ⟨b, off, rfl, hlt, hc⟩
  · cases h1
  · exact ⟨b, off, cap, rfl, hlt, hc 0 _ rfl, hc 1 _ rfl, h2⟩
theorem kn_17 (K : DiskK At) (hn : Now At w W p S kn13) : Calls Try.prog 21 #[.pointer (some ⟨p, 0, none⟩), .string ⟨#[99]⟩, .string ⟨#[]⟩] W fun e w' => e = .returned (.int .i64 1) ∧ Now At w w' p S kn14 :=
  (K.appendN hn ⟨#[99]⟩ ⟨#[]⟩ (by decide +kernel)).mono fun e w' ⟨e1, e2⟩ => ⟨e1.trans (by rw [show eno (Dk.append kn13 (⟨#[99]⟩ : ByteArray) (⟨#[]⟩ : ByteArray)).1 = 1 by decide +kernel]), e2⟩
theorem kn_18 (K : DiskK At) (hn : Now At w W p S kn14) : Calls Try.prog 22 #[.pointer (some ⟨p, 0, none⟩), .string ⟨#[99]⟩] W fun e w' => e = .returned (.int .i64 4) ∧ Now At w w' p S kn15 :=
  (K.syncN hn ⟨#[99]⟩ (by decide +kernel)).mono fun e w' ⟨e1, e2⟩ => ⟨e1.trans (by rw [show eno (Dk.sync kn14 (⟨#[99]⟩ : ByteArray)).1 = 4 by decide +kernel]), e2⟩
theorem kn_19 (K : DiskK At) (hn : Now At w W p S kn15) : Calls Try.prog 21 #[.pointer (some ⟨p, 0, none⟩), .string ⟨#[]⟩, .string ⟨#[120]⟩] W fun e w' => e = .returned (.int .i64 1) ∧ Now At w w' p S kn16 :=
  (K.appendN hn ⟨#[]⟩ ⟨#[120]⟩ (by decide +kernel)).mono fun e w' ⟨e1, e2⟩ => ⟨e1.trans (by rw [show eno (Dk.append kn15 (⟨#[]⟩ : ByteArray) (⟨#[120]⟩ : ByteArray)).1 = 1 by decide +kernel]), e2⟩
theorem kn_20 (K : DiskK At) (hn : Now At w W p S kn16) : Calls Try.prog 21 #[.pointer (some ⟨p, 0, none⟩), .string longN, .string ⟨#[120]⟩] W fun e w' => e = .returned (.int .i64 1) ∧ Now At w w' p S kn17 :=
  (K.appendN hn longN ⟨#[120]⟩ (by decide +kernel)).mono fun e w' ⟨e1, e2⟩ => ⟨e1.trans (by rw [show eno (Dk.append kn16 (longN : ByteArray) (⟨#[120]⟩ : ByteArray)).1 = 1 by decide +kernel]), e2⟩
theorem kn_21 (K : DiskK At) (hn : Now At w W p S kn17) : Calls Try.prog 21 #[.pointer (some ⟨p, 0, none⟩), .string longM, .string ⟨#[120]⟩] W fun e w' => e = .returned (.int .i64 0) ∧ Now At w w' p S kn18 :=
  (K.appendN hn longM ⟨#[120]⟩ (by decide +kernel)).mono fun e w' ⟨e1, e2⟩ => ⟨e1.trans (by rw [show eno (Dk.append kn17 (longM : ByteArray) (⟨#[120]⟩ : ByteArray)).1 = 0 by decide +kernel]), e2⟩
theorem kn_22 (K : DiskK At) (hn : Now At w W p S kn18) : Calls Try.prog 23 #[.pointer (some ⟨p, 0, none⟩), .string ⟨#[97]⟩, .string longN] W fun e w' => e = .returned (.int .i64 1) ∧ Now At w w' p S kn19 :=
  (K.renameN hn ⟨#[97]⟩ longN (by decide +kernel) (by decide +kernel)).mono fun e w' ⟨e1, e2⟩ => ⟨e1.trans (by rw [show eno (Dk.rename kn18 (⟨#[97]⟩ : ByteArray) (longN : ByteArray)).1 = 1 by decide +kernel]), e2⟩
theorem kn_23 (K : DiskK At) (hn : Now At w W p S kn19) : Calls Try.prog 23 #[.pointer (some ⟨p, 0, none⟩), .string ⟨#[122]⟩, .string ⟨#[121]⟩] W fun e w' => e = .returned (.int .i64 4) ∧ Now At w w' p S kn20 :=
  (K.renameN hn ⟨#[122]⟩ ⟨#[121]⟩ (by decide +kernel) (by decide +kernel)).mono fun e w' ⟨e1, e2⟩ => ⟨e1.trans (by rw [show eno (Dk.rename kn19 (⟨#[122]⟩ : ByteArray) (⟨#[121]⟩ : ByteArray)).1 = 4 by decide +kernel]), e2⟩
theorem kn_24 (K : DiskK At) (hn : Now At w W p S kn20) : Calls Try.prog 23 #[.pointer (some ⟨p, 0, none⟩), .string ⟨#[97]⟩, .string ⟨#[97]⟩] W fun e w' => e = .returned (.int .i64 0) ∧ Now At w w' p S kn21 :=
  (K.renameN hn ⟨#[97]⟩ ⟨#[97]⟩ (by decide +kernel) (by decide +kernel)).mono fun e w' ⟨e1, e2⟩ => ⟨e1.trans (by rw [show eno (Dk.rename kn20 (⟨#[97]⟩ : ByteArray) (⟨#[97]⟩ : ByteArray)).1 = 0 by decide +kernel]), e2⟩
set_option maxRecDepth 100000 in
set_option maxHeartbeats 8000000 in
theorem diskKnown_walk (K : DiskK At) (w : World) : Calls Try.prog 5 #[] w fun e w' => e = .returned (.bool true) ∧ Below w.heap.size w w' := by
  have HK := Lib.hid K
  have HA := Lib.hid (awake_any K)
  clear K
  go_enter Try.func5, Try.ntmps5
  go_wp2_with fail
  refine (HK.out.new _).mono ?_
  rintro e w1 ⟨p, S, rfl, h1, h2, h3⟩
  have HF : Hid (∀ W d, Now At w1 W p S d → Below w.heap.size w W) := Lib.hid fun W d h => h.below h3 h2
  have HN1 := Lib.hid (Now.start h1 : Now At w1 w1 p S kn0)
  clear h1 h2 h3
  go_wp2_with fail
  refine (kn_0 HK.out HN1.out).mono ?_
  rintro e w2 ⟨rfl, hn⟩
  have HN2 := Lib.hid hn
  clear hn HN1
  go_wp2_with fail
  refine (kn_1 HK.out HN2.out).mono ?_
  rintro e w3 ⟨rfl, hn⟩
  have HN3 := Lib.hid hn
  clear hn HN2
  go_wp2_with fail
  refine (kn_2 HK.out HN3.out).mono ?_
  rintro e w4 ⟨rfl, hn⟩
  have HN4 := Lib.hid hn
  clear hn HN3
  go_wp2_with fail
  refine (kn_3 HK.out HN4.out).mono ?_
  rintro e w5 ⟨rfl, hn⟩
  have HN5 := Lib.hid hn
  clear hn HN4
  go_wp2_with fail
  refine (kn_4 HK.out HN5.out).mono ?_
  rintro e w6 ⟨rfl, hn⟩
  have HN6 := Lib.hid hn
  clear hn HN5
  go_wp2_with fail
  refine (kn_5 HK.out HN6.out).mono ?_
  rintro e w7 ⟨rfl, hn⟩
  have HN7 := Lib.hid hn
  clear hn HN6
  go_wp2_with fail
  refine (kn_6 HK.out HN7.out).mono ?_
  rintro e w8 ⟨rfl, hn⟩
  have HN8 := Lib.hid hn
  clear hn HN7
  go_wp2_with fail
  refine (kn_7 HK.out HN8.out).mono ?_
  rintro e w9 ⟨rfl, hn⟩
  have HN9 := Lib.hid hn
  clear hn HN8
  go_wp2_with fail
  refine (kn_8 HK.out HN9.out).mono ?_
  rintro e w10 ⟨rfl, hn⟩
  have HN10 := Lib.hid hn
  clear hn HN9
  go_wp2_with fail
  refine (kn_9 HK.out HN10.out).mono ?_
  rintro e w11 ⟨rfl, hn⟩
  have HN11 := Lib.hid hn
  clear hn HN10
  go_wp2_with fail
  refine (kn_10 HK.out HN11.out).mono ?_
  rintro e w12 ⟨rfl, hn⟩
  have HN12 := Lib.hid hn
  clear hn HN11
  go_wp2_with fail
  refine (kn_11 HK.out HN12.out).mono ?_
  rintro e w13 ⟨rfl, hn⟩
  have HN13 := Lib.hid hn
  clear hn HN12
  go_wp2_with fail
  refine (kn_12 HK.out HN13.out).mono ?_
  rintro e w14 ⟨rfl, hn⟩
  have HN14 := Lib.hid hn
  clear hn HN13
  go_wp2_with fail
  refine (kn_13 HK.out HN14.out).mono ?_
  rintro e w15 ⟨rfl, hn⟩
  have HN15 := Lib.hid hn
  clear hn HN14
  go_wp2_with fail
  refine (kn_14 HK.out HN15.out).mono ?_
  rintro e w16 ⟨rfl, hn⟩
  have HN16 := Lib.hid hn
  clear hn HN15
  go_wp2_with fail
  refine (kn_15 HK.out HN16.out).mono ?_
  rintro e w17 ⟨bl, ol, cl, rfl, hbl, hc0, hc1, hn⟩
  have HN17 := Lib.hid hn
  clear hn HN16
  have hmk : ∀ W : World, (Instr.makeSlice 56 (.int .i64 33) (.int .i64 33)).run Try.prog W = .ok (.slice (some ⟨W.heap.size, 0, none⟩) 33 33) (W.alloc (.cells (Array.replicate 33 (.int .u8 0)) 5)) := fun _ => by kernel_rfl
  have hcv := long_conv w17
  have hc0' : (w17.alloc (.cells (Array.replicate 33 (.int .u8 0)) 5)).cell? ⟨bl, ol, none⟩ = some (.string ⟨#[97]⟩) := ((bnew (Below.refl _ _) _).cell (p := ⟨bl, ol, none⟩) hbl).trans hc0
  have hc1' : (w17.alloc (.cells (Array.replicate 33 (.int .u8 0)) 5)).cell? ⟨bl, ol + 1, none⟩ = some (.string ⟨#[98]⟩) := ((bnew (Below.refl _ _) _).cell (p := ⟨bl, ol + 1, none⟩) hbl).trans hc1
  have HN18 := Lib.hid (HK.out.more HN17.out (bnew (Below.refl _ (w17)) (.cells (Array.replicate 33 (.int .u8 0)) 5)))
  have hlx : longN.extract 1 longN.size = longM := by decide +kernel
  have hlz : longN.size = 33 := by decide +kernel
  clear HN17 hc0 hc1
  go_wp2_with fail
  refine (kn_17 HK.out HN18.out).mono ?_
  rintro e w19 ⟨rfl, hn⟩
  have HN19 := Lib.hid hn
  clear hn HN18
  go_wp2_with fail
  refine (kn_18 HK.out HN19.out).mono ?_
  rintro e w20 ⟨rfl, hn⟩
  have HN20 := Lib.hid hn
  clear hn HN19
  go_wp2_with fail
  refine (kn_19 HK.out HN20.out).mono ?_
  rintro e w21 ⟨rfl, hn⟩
  have HN21 := Lib.hid hn
  clear hn HN20
  go_wp2_with fail
  refine (kn_20 HK.out HN21.out).mono ?_
  rintro e w22 ⟨rfl, hn⟩
  have HN22 := Lib.hid hn
  clear hn HN21
  go_wp2_with fail
  refine (kn_21 HK.out HN22.out).mono ?_
  rintro e w23 ⟨rfl, hn⟩
  have HN23 := Lib.hid hn
  clear hn HN22
  go_wp2_with fail
  refine (kn_22 HK.out HN23.out).mono ?_
  rintro e w24 ⟨rfl, hn⟩
  have HN24 := Lib.hid hn
  clear hn HN23
  go_wp2_with fail
  refine (kn_23 HK.out HN24.out).mono ?_
  rintro e w25 ⟨rfl, hn⟩
  have HN25 := Lib.hid hn
  clear hn HN24
  go_wp2_with fail
  refine (kn_24 HK.out HN25.out).mono ?_
  rintro e w26 ⟨rfl, hn⟩
  have HN26 := Lib.hid hn
  clear hn HN25
  go_wp2_with fail
  refine (HA.out _).mono ?_
  rintro e w99 ⟨rfl, hb⟩
  go_wp2_with fail
  go_ret
  exact ⟨rfl, bnext (HF.out _ _ HN26.out) hb⟩
end
end Go.Proofs.Ytjmnoogaffjdiaa
