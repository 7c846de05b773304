/-
  wal's readRow walked.
  wal's readHead walked.
  wapentakeref08's Name walked.
  wapentakeref08's Number walked.
-/
import Derived.Test.YtjhbpcecdhdnoaaGreatDoorRWwAZ
import Derived.Test.YtjhbpcecdhdnoaaGreatDoorREnR
import Derived.Test.YtjhbpcecdhdnoaaGreatDoorRWords
import Derived.Test.YtjhbpcecdhdnoaaGreatDoorRWlM
import Derived.Deep.QuietTactic
import Derived.BigQuiet
import Derived.Deep.RegionHeld3
set_option linter.unusedSimpArgs false
set_option linter.unusedVariables false
namespace Go.Proofs.YtjhbpcecdhdnoaaGreatDoor
open Go.RowKit
def RowV (o : Option (List UInt8 × List UInt8)) : Value := match o with
  | some (t, _) => .tuple #[.string (Wl.ba t), .int .i64 (((Wl.row t).length : Nat) : Int), .bool true]
  | none => .tuple #[.string ⟨#[]⟩, .int .i64 0, .bool false]
theorem readV_le {l : List UInt8} {n k : Nat} (h : Nm.readV l = some (n, k)) : n < Nm.top ∧ k ≤ l.length := by
  obtain ⟨h1, r, h2, h3⟩ := (Nm.readV_iff l n k).1 h
  exact ⟨h1, by rw [h2, h3]; simp⟩
theorem row1_no {s : ByteArray} (h : Nm.readV s.data.toList = none) : Wl.row1 s.data.toList = none := by
  unfold Wl.row1 Cm.rdV; rw [h]; rfl
theorem row1_ext {s : ByteArray} {n k : Nat} (h : Nm.readV s.data.toList = some (n, k)) (x : ByteArray) (hx : x = s.extract k s.size) :
    Wl.row1 s.data.toList = if x.size < 4 + n then none else if Nm.val8 (x.data.toList.take 4) = Cr.crc (x.extract 4 (4 + n)).data.toList then some ((x.extract 4 (4 + n)).data.toList, (x.extract (4 + n) x.size).data.toList) else none := by
  unfold Wl.row1 Cm.rdV
  rw [h]
  have e : s.data.toList.drop k = x.data.toList := by rw [hx, ext_drop]
  have e2 : (x.extract 4 (4 + n)).data.toList = (x.data.toList.drop 4).take n := by rw [Lib.extract_data, Nat.add_sub_cancel_left]
  simp only [Option.bind_some]
  rw [e, e2, ext_drop, Lib.size_eq]
theorem row1_size {l t r : List UInt8} {n k : Nat} (hv : Nm.readV l = some (n, k)) (h : Wl.row1 l = some (t, r)) : (Wl.row t).length = k + 4 + n := by
  obtain ⟨h1, rfl⟩ := (Wl.row1_iff _ _ _).1 h
  have e : Wl.row t ++ r = Nm.grp t.length ++ (Nm.wid 4 (Cr.crc t) ++ t ++ r) := by simp [Wl.row]
  have h2 := Nm.readV_grp t.length h1 (Nm.wid 4 (Cr.crc t) ++ t ++ r)
  rw [← e, hv] at h2
  simp only [Option.some.injEq, Prod.mk.injEq] at h2
  unfold Wl.row
  rw [List.length_append, List.length_append, Nm.wid_length]
  omega
theorem row1_drop {x : ByteArray} {t r : List UInt8} (h : Wl.row1 x.data.toList = some (t, r)) : (Wl.row t).length ≤ x.size ∧ x.extract (Wl.row t).length x.size = Wl.ba r := by
  obtain ⟨_, e⟩ := (Wl.row1_iff _ _ _).1 h
  refine ⟨by rw [Lib.size_eq, e, List.length_append]; omega, ?_⟩
  rw [ext_drop, e, List.drop_left]; rfl
set_option maxRecDepth 100000 in
set_option maxHeartbeats 4000000 in
theorem readRow_any (W : World) (g o : Nat) (s : ByteArray) (ht : TabO W g o Cr.tab) (hs : s.size ≤ 100000000) :
    Calls Tryz.prog 97 #[.pointer (some ⟨g, o, none⟩), .string s] W fun e w' => e = .returned (RowV (Wl.row1 s.data.toList)) ∧ Below W.heap.size W w' := by
  have HV := Lib.hid (ReadV_any s W (by omega))
  rcases hv : Nm.readV s.data.toList with _ | ⟨n, k⟩
  · have E := Lib.hid (row1_no hv)
    rw [hv] at HV
    unfold rv at HV
    clear hv ht
    go_enter Tryz.func97, Tryz.ntmps97
    go_wp2_with fail
    refine HV.out.mono ?_
    rintro e w1 ⟨rfl, rfl⟩
    go_wp2_with fail
    go_ret3
    exact ⟨by rw [E.out]; rfl, Below.refl _ _⟩
  obtain ⟨hn, hk⟩ := readV_le hv
  rw [← Lib.size_eq] at hk
  have hki : (k : Int) ≤ (s.size : Int) := by omega
  obtain ⟨x, hx⟩ : ∃ x, x = s.extract k s.size := ⟨_, rfl⟩
  have zx : x.size = s.size - k := by rw [hx, ByteArray.size_extract]; omega
  have E := Lib.hid (row1_ext hv x hx)
  have Hx := Lib.hid hx
  have HZ := Lib.hid (fun t r => row1_size (t := t) (r := r) hv)
  rw [hv] at HV
  unfold rv at HV
  have hn2 : n ≤ 18446744073709551615 := by unfold Nm.top at hn; omega
  clear hv
  by_cases h4 : x.size < 4
  · have HU := Lib.hid (ReadU_no x 4 W (by omega))
    have E2 : Hid (Wl.row1 s.data.toList = none) := Lib.hid (by rw [E.out, if_pos (by omega)])
    clear ht h4 hx zx
    go_enter Tryz.func97, Tryz.ntmps97
    go_wp2_with fail
    refine HV.out.mono ?_
    rintro e w1 ⟨rfl, rfl⟩
    go_wp2_with fail
    rw [← Hx.out]
    refine HU.out.mono ?_
    rintro e w1 ⟨rfl, rfl⟩
    go_wp2_with fail
    go_ret3
    exact ⟨by rw [E2.out]; rfl, Below.refl _ _⟩
  have HU := Lib.hid (ReadU_any x 4 W (by omega) (by decide) (by decide) (by omega))
  obtain ⟨c, hc⟩ : ∃ c, c = Nm.val8 (x.data.toList.take 4) := ⟨_, rfl⟩
  rw [← hc] at HU E
  have hcl : c < 4294967296 := by
    rw [hc]
    have h1 := Nm.val8_lt (x.data.toList.take 4)
    rw [List.length_take, ← Lib.size_eq, Nat.min_eq_left (by omega)] at h1
    simpa using h1
  clear hc
  have p4 : (0 : Int) ≤ (s.size : Int) - ((k : Int) + 4) := by omega
  by_cases hlen : x.size < 4 + n
  · have d1 : decide (((s.size : Int) - ((k : Int) + 4)) < (n : Int)) = true := by simp; omega
    have E2 : Hid (Wl.row1 s.data.toList = none) := Lib.hid (by rw [E.out, if_pos hlen])
    clear ht hlen hx zx h4
    go_enter Tryz.func97, Tryz.ntmps97
    go_wp2_with fail
    refine HV.out.mono ?_
    rintro e w1 ⟨rfl, rfl⟩
    go_wp2_with fail
    rw [← Hx.out]
    refine HU.out.mono ?_
    rintro e w1 ⟨rfl, rfl⟩
    go_wp2_with fail
    go_ret3
    exact ⟨by rw [E2.out]; rfl, Below.refl _ _⟩
  have d1 : decide (((s.size : Int) - ((k : Int) + 4)) < (n : Int)) = false := by simp; omega
  have d2 : (k : Int) + 4 + (n : Int) ≤ (s.size : Int) := by omega
  have hn3 : n ≤ 100000000 := by omega
  obtain ⟨t, ht1⟩ : ∃ t, t = x.extract 4 (4 + n) := ⟨_, rfl⟩
  obtain ⟨r, hr1⟩ : ∃ r, r = x.extract (4 + n) x.size := ⟨_, rfl⟩
  have E2 := E.out
  rw [if_neg hlen, ← ht1, ← hr1] at E2
  have zt : t.size = n := by rw [ht1, ByteArray.size_extract]; omega
  have et : ∀ a m, a = k + 4 → m = k + 4 + n → s.extract a m = t := fun a m ha hm => by
    rw [ht1, hx, ByteArray.extract_extract, ha, hm]
    congr 1; omega
  have HO : Hid (∀ w1, Below W.heap.size W w1 → Calls Tryz.prog 150 #[.pointer (some ⟨g, o, none⟩), .slice (some ⟨w1.heap.size, 0, none⟩) 1 1] (w1.alloc (.cells #[.string t] 9)) fun e w' => e = .returned (.int .u32 ((Cr.crc t.data.toList : Nat) : Int)) ∧ Below w1.heap.size w1 w') := Lib.hid fun w1 hb => by
    refine (ofO_one _ g o _ 1 t ((ht.below hb).below (bnew (Below.refl _ _) _)) (Lies.new w1 (sc [t]) 9) (by omega)).mono ?_
    rintro e w' ⟨h1, h2⟩
    exact ⟨h1, bnext (bnew (Below.refl _ _) _) h2⟩
  have HC := Lib.hid (fun w => stringsClone_any t w (by omega))
  have hfl := Cr.crc_lt t.data.toList
  obtain ⟨f, hf⟩ : ∃ f, f = Cr.crc t.data.toList := ⟨_, rfl⟩
  rw [← hf] at HO E2 hfl
  have HE2 := Lib.hid E2
  have Het := Lib.hid et
  clear E2 E ht1 hr1 hf ht hlen hx et zx h4
  go_enter Tryz.func97, Tryz.ntmps97
  go_wp2_with fail
  refine HV.out.mono ?_
  rintro e w1 ⟨rfl, rfl⟩
  go_wp2_with fail
  rw [← Hx.out]
  refine HU.out.mono ?_
  rintro e w1 ⟨rfl, rfl⟩
  go_wp2_with fail
  rw [Het.out _ _ rfl rfl]
  refine (HO.out W (Below.refl _ _)).mono ?_
  rintro e w2 ⟨rfl, hb2⟩
  have H2 := Lib.hid hb2
  clear hb2
  by_cases hcf : c = f
  · have e1 : ((f : Int) != (c : Int)) = false := by simp; omega
    have e2 : ((f : Int) = (c : Int)) = True := by simp; omega
    have E3 : Hid (Wl.row1 s.data.toList = some (t.data.toList, r.data.toList)) := Lib.hid (by rw [HE2.out, if_pos hcf])
    clear hcf
    go_wp2_with fail
    refine (HC.out _).mono ?_
    rintro e w3 ⟨rfl, hb3⟩
    go_wp2_with fail
    go_ret3
    refine ⟨?_, bnext H2.out hb3⟩
    have hz := HZ.out _ _ E3.out
    rw [E3.out]
    unfold RowV
    simp only [hz, Wl.ba]
    congr 3
  · have e1 : ((f : Int) != (c : Int)) = true := by simp; omega
    have e2 : ((f : Int) = (c : Int)) = False := by simp; omega
    have E3 : Hid (Wl.row1 s.data.toList = none) := Lib.hid (by rw [HE2.out, if_neg hcf])
    clear hcf
    go_wp2_with fail
    go_ret3
    exact ⟨by rw [E3.out]; rfl, H2.out⟩
end Go.Proofs.YtjhbpcecdhdnoaaGreatDoor
namespace Go.Proofs.YtjhbpcecdhdnoaaGreatDoor
open Go.RowKit
def HeadV (o : Option (Nat × Nat)) : Value := match o with
  | some (b, s) => .tuple #[.int .u64 (b : Int), .int .u64 (s : Int), .bool true]
  | none => .tuple #[.int .u64 0, .int .u64 0, .bool false]
theorem rdB_ext {s : ByteArray} (h : 0 < s.size) : Cm.rdB s.data.toList = some (s[0].toNat, (s.extract 1 s.size).data.toList) := by
  have hd := drop_cons s 0 h
  rw [List.drop_zero] at hd
  conv => lhs; rw [hd]
  rw [ext_drop]; rfl
theorem rdB_no {s : ByteArray} (h : s.size = 0) : Cm.rdB s.data.toList = none := by
  rw [Lib.size_eq] at h
  rw [List.eq_nil_of_length_eq_zero h]; rfl
theorem nil_iff (y : ByteArray) (m : Nat) (hm : m ≤ y.size) : ((y.extract m y.size).data.toList = []) = (m = y.size) := by
  rw [ext_drop]
  simp only [List.toList_toArray, List.drop_eq_nil_iff, eq_iff_iff]
  rw [← Lib.size_eq]; omega
theorem head_other {s : ByteArray} (h : 0 < s.size) (h1 : s[0].toNat ≠ 1) : Wl.headP s.data.toList = none := by
  unfold Wl.headP
  rw [rdB_ext h, Option.bind_some]
  simp [h1]
theorem head_ext {s : ByteArray} (h : 0 < s.size) (h1 : s[0].toNat = 1) : Wl.headP s.data.toList = (Cm.rdV (s.extract 1 s.size).data.toList).bind fun (b, l) => (Cm.rdV l).bind fun (s, l) => if l = [] then some (b, s) else none := by
  unfold Wl.headP
  rw [rdB_ext h, Option.bind_some]
  simp [h1]
set_option maxRecDepth 100000 in
set_option maxHeartbeats 4000000 in
theorem wreadHead_any (W : World) (s : ByteArray) (hs : s.size ≤ 100000000) :
    Calls Tryz.prog 98 #[.string s] W fun e w' => e = .returned (HeadV (Wl.headP s.data.toList)) ∧ W = w' := by
  by_cases h0 : s.size = 0
  · have E : Hid (Wl.headP s.data.toList = none) := Lib.hid (by unfold Wl.headP; rw [rdB_no h0]; rfl)
    have es : s = ⟨#[]⟩ := ByteArray.ext (Array.eq_empty_of_size_eq_zero h0)
    have b1 : (s.toList == []) = true := by rw [es, ByteArray.toList_eq]; rfl
    clear h0 es
    go_enter Tryz.func98, Tryz.ntmps98
    go_wp2_with fail
    go_ret3
    exact ⟨by rw [E.out]; rfl, rfl⟩
  have hp : 0 < s.size := by omega
  have b1 : (s.toList == []) = false := by
    rw [ByteArray.toList_eq]
    cases hl : s.data.toList with
    | nil => rw [Lib.size_eq, hl] at hp; simp at hp
    | cons a l => rfl
  by_cases h1 : s[0].toNat = 1
  case neg =>
    have E := Lib.hid (head_other hp h1)
    have d1 : ((s[0].toNat : Int) != 1) = true := by simp; omega
    have d2 : ((s[0].toNat : Int) = 1) = False := by simp; omega
    clear h0 h1
    go_enter Tryz.func98, Tryz.ntmps98
    go_wp2_with fail
    go_ret3
    exact ⟨by rw [E.out]; rfl, rfl⟩
  have d1 : ((s[0].toNat : Int) != 1) = false := by simp; omega
  have d2 : ((s[0].toNat : Int) = 1) = True := by simp; omega
  have E := head_ext hp h1
  have p1 : (1 : Int) ≤ (s.size : Int) := by omega
  obtain ⟨x, hx⟩ : ∃ x, x = s.extract 1 s.size := ⟨_, rfl⟩
  have zx : x.size ≤ 100000000 := by rw [hx, ByteArray.size_extract]; omega
  rw [← hx, rdV_ext] at E
  have Hx := Lib.hid hx
  have HV := Lib.hid (ReadV_any x W (by omega))
  clear hx h1 h0
  rcases hv : Nm.readV x.data.toList with _ | ⟨b, k⟩
  · rw [hv] at HV E
    unfold rv at HV
    have E2 : Hid (Wl.headP s.data.toList = none) := Lib.hid (by rw [E]; rfl)
    clear hv E
    go_enter Tryz.func98, Tryz.ntmps98
    go_wp2_with fail
    rw [← Hx.out]
    refine HV.out.mono ?_
    rintro e w1 ⟨rfl, rfl⟩
    go_wp2_with fail
    go_ret3
    exact ⟨by rw [E2.out]; rfl, rfl⟩
  obtain ⟨hb, hk⟩ := readV_le hv
  rw [← Lib.size_eq] at hk
  have hki : (k : Int) ≤ (x.size : Int) := by omega
  obtain ⟨y, hy⟩ : ∃ y, y = x.extract k x.size := ⟨_, rfl⟩
  have zy : y.size ≤ 100000000 := by rw [hy, ByteArray.size_extract]; omega
  rw [hv] at HV E
  unfold rv at HV
  simp only [Option.bind_some] at E
  rw [← hy, rdV_ext] at E
  have Hy := Lib.hid hy
  have HV2 := Lib.hid (ReadV_any y W (by omega))
  clear hy hv hb
  rcases hv : Nm.readV y.data.toList with _ | ⟨n, m⟩
  · rw [hv] at HV2 E
    unfold rv at HV2
    have E2 : Hid (Wl.headP s.data.toList = none) := Lib.hid (by rw [E]; rfl)
    clear hv E
    go_enter Tryz.func98, Tryz.ntmps98
    go_wp2_with fail
    rw [← Hx.out]
    refine HV.out.mono ?_
    rintro e w1 ⟨rfl, rfl⟩
    go_wp2_with fail
    rw [← Hy.out]
    refine HV2.out.mono ?_
    rintro e w1 ⟨rfl, rfl⟩
    go_wp2_with fail
    go_ret3
    exact ⟨by rw [E2.out]; rfl, rfl⟩
  obtain ⟨hn, hm⟩ := readV_le hv
  rw [← Lib.size_eq] at hm
  rw [hv] at HV2 E
  unfold rv at HV2
  simp only [Option.bind_some, nil_iff y m hm] at E
  clear hv hn
  by_cases hmy : m < y.size
  · have d3 : decide (m < y.size) = true := by simp; omega
    have E2 : Hid (Wl.headP s.data.toList = none) := Lib.hid (by rw [E, if_neg (by omega)])
    clear E hmy hm
    go_enter Tryz.func98, Tryz.ntmps98
    go_wp2_with fail
    rw [← Hx.out]
    refine HV.out.mono ?_
    rintro e w1 ⟨rfl, rfl⟩
    go_wp2_with fail
    rw [← Hy.out]
    refine HV2.out.mono ?_
    rintro e w1 ⟨rfl, rfl⟩
    go_wp2_with fail
    go_ret3
    exact ⟨by rw [E2.out]; rfl, rfl⟩
  · have d3 : decide (m < y.size) = false := by simp; omega
    have E2 : Hid (Wl.headP s.data.toList = some (b, n)) := Lib.hid (by rw [E, if_pos (by omega)])
    clear E hmy hm
    go_enter Tryz.func98, Tryz.ntmps98
    go_wp2_with fail
    rw [← Hx.out]
    refine HV.out.mono ?_
    rintro e w1 ⟨rfl, rfl⟩
    go_wp2_with fail
    rw [← Hy.out]
    refine HV2.out.mono ?_
    rintro e w1 ⟨rfl, rfl⟩
    go_wp2_with fail
    go_ret3
    exact ⟨by rw [E2.out]; rfl, rfl⟩
end Go.Proofs.YtjhbpcecdhdnoaaGreatDoor
namespace Go.Proofs.YtjhbpcecdhdnoaaGreatDoor
open Go.RowKit
def szOf : Value → Nat
  | .string b => b.size
  | _ => 0
end Go.Proofs.YtjhbpcecdhdnoaaGreatDoor
namespace Go.Proofs.YtjhbpcecdhdnoaaGreatDoor
open Go.RowKit
def RetNum (s : ByteArray) (w : World) (e : Ending) (w' : World) : Prop :=
  ∃ (v : Nat) (ok : Bool), e = .returned (.tuple #[.int .u64 (v : Nat), .bool ok]) ∧ v < Nm.top ∧ (ok = true → Wl.name v = s) ∧ (ok = false → ∀ n, n < Nm.top → Wl.name n ≠ s) ∧ Below w.heap.size w w'
theorem name_data {n : Nat} {s : ByteArray} (h : Wl.name n = s) : Wl.nameL n = s.data.toList := by rw [← h]; simp [Wl.name]
theorem wstr_eqb (x y : ByteArray) : (x.toList == y.toList) = decide (x = y) := by
  rw [Bool.eq_iff_iff, decide_eq_true_iff, beq_iff_eq, ByteArray.toList_eq, ByteArray.toList_eq]
  exact ⟨fun h => ByteArray.ext (Array.toList_inj.mp h), fun h => by rw [h]⟩
end Go.Proofs.YtjhbpcecdhdnoaaGreatDoor
