/-
  wal.Number walked, over the library's numerals.
  stable's snapName and isSnapName walked. WRITTEN BY wip/tools/gen_stname.py.
  stable's remove and writeSnap walked.
  stable's readHead walked.
-/
import Derived.Test.YtjhbpcecdhdnoaaGreatDoorRWwN
import Derived.Test.YtjhbpcecdhdnoaaGreatDoorRWwRZ
import Derived.Test.YtjhbpcecdhdnoaaGreatDoorRStSaveZ
import Derived.Test.YtjhbpcecdhdnoaaGreatDoorRStCloneZ
import Derived.Test.YtjhbpcecdhdnoaaGreatDoorRWwW
import Derived.Lib.ParseIntBCases
set_option linter.unusedSimpArgs false
set_option linter.unusedVariables false
namespace Go.Proofs.YtjhbpcecdhdnoaaGreatDoor
open Go.RowKit
def EnvE (w : World) : Prop := ∃ t1 p1 t2 p2, w.var? Tryz.prog "strconv.ErrSyntax" = some #[.iface t1 p1] ∧ w.var? Tryz.prog "strconv.ErrRange" = some #[.iface t2 p2]
theorem gSyn : Tryz.prog.globalNamed "strconv.ErrSyntax" = some 0 := by kernel_rfl
theorem gRng : Tryz.prog.globalNamed "strconv.ErrRange" = some 1 := by kernel_rfl
theorem EnvE.below {w w' : World} {B : Nat} (h : EnvE w) (hb : Below B w w') (hB : w.heap.size ≤ B) : EnvE w' := by
  obtain ⟨t1, p1, t2, p2, h1, h2⟩ := h
  exact ⟨t1, p1, t2, p2, Joins.var_stays gSyn h1 hb hB, Joins.var_stays gRng h2 hb hB⟩
theorem parse_digits : ∀ (l : List UInt8) (acc : Nat), (∀ c ∈ l, 48 ≤ c.toNat ∧ c.toNat ≤ 57) → l.foldl (fun v c => 10 * v + (c.toNat - 48)) acc < Nm.top → Lib.parseUintM 18446744073709551615 acc l = .ok (l.foldl (fun v c => 10 * v + (c.toNat - 48)) acc)
  | [], _, _, _ => rfl
  | c :: r, acc, hc, hv => by
    have h1 := hc c (List.mem_cons_self ..)
    have hmono : ∀ (l : List UInt8) (a : Nat), a ≤ l.foldl (fun v c => 10 * v + (c.toNat - 48)) a := by
      intro l
      induction l with
      | nil => intro a; exact Nat.le_refl _
      | cons x l ih => intro a; rw [List.foldl_cons]; exact Nat.le_trans (by omega) (ih _)
    rw [List.foldl_cons] at hv ⊢
    have h2 := hmono r (10 * acc + (c.toNat - 48))
    unfold Lib.parseUintM
    unfold Nm.top at hv
    rw [if_pos h1, if_neg (by omega), if_neg (by omega), Nat.mul_comm acc 10]
    exact parse_digits r _ (fun x hx => hc x (List.mem_cons_of_mem _ hx)) (by unfold Nm.top; exact hv)
theorem parse_wd {n : Nat} (h : n < Nm.top) : Lib.parseUintB 64 (Wl.wd (Wl.w10 n) n) = .ok n := by
  unfold Lib.parseUintB
  have hl := Wl.wd_length (Wl.w10 n) n
  have h8 := (Wl.w10_le h).1
  rw [if_neg (by intro e; rw [e] at hl; simp at hl; omega)]
  have hv := Wl.w10_val h
  have := parse_digits (Wl.wd (Wl.w10 n) n) 0 (Wl.wd_digs _ _) (by unfold Wl.v10 at hv; rw [hv]; exact h)
  unfold Wl.v10 at hv
  rw [hv] at this
  exact this
theorem trim_name {n : Nat} : Lib.trimPrefix (Wl.nameL n) [115, 101, 103, 46] = Wl.wd (Wl.w10 n) n := by
  unfold Lib.trimPrefix Lib.hasPrefix Wl.nameL
  simp [List.isPrefixOf]
def RetWN (s : ByteArray) (w : World) (e : Ending) (w' : World) : Prop :=
  ∃ (v : Nat) (ok : Bool), e = .returned (.tuple #[.int .u64 (v : Nat), .bool ok]) ∧ v < Nm.top ∧ (ok = true → Wl.name v = s) ∧ (ok = false → v = 0 ∧ ∀ n, n < Nm.top → Wl.name n ≠ s) ∧ Below w.heap.size w w'
set_option maxRecDepth 100000 in
set_option maxHeartbeats 1000000 in
theorem wnumber_any (s : ByteArray) (w : World) (hE : EnvT w) (hF : EnvE w) (hs : s.size ≤ 1000000000) : Calls Tryz.prog 59 #[.string s] w (RetWN s w) := by
  have HT : Hid (∀ W, Calls Tryz.prog 116 #[.string s, .string ⟨#[115, 101, 103, 46]⟩] W fun e w' => e = .returned (.string ⟨(Lib.trimPrefix s.data.toList [115, 101, 103, 46]).toArray⟩) ∧ w' = W) := Lib.hid fun W => Any.strings_TrimPrefix ws_lays101 s ⟨#[115, 101, 103, 46]⟩ W
  have hno : ∀ u, Lib.parseUintB 64 (Lib.trimPrefix s.data.toList [115, 101, 103, 46]) = u → (∀ v, u = .ok v → v < Nm.top ∧ (Wl.name v ≠ s → ∀ n, n < Nm.top → Wl.name n ≠ s)) ∧ ((∀ v, u ≠ .ok v) → ∀ n, n < Nm.top → Wl.name n ≠ s) := fun u hu => by
    have key : ∀ n, n < Nm.top → Wl.name n = s → u = .ok n := fun n hn he => by
      rw [← hu, ← name_data he, trim_name, parse_wd hn]
    refine ⟨fun v hv => ⟨?_, fun hne n hn he => ?_⟩, fun hv n hn he => hv n (key n hn he)⟩
    · rw [hv] at hu
      have := Lib.parseUintB_le hu
      unfold Nm.top; omega
    · have h1 := key n hn he
      rw [hv] at h1
      injection h1 with h1
      subst h1
      exact hne he
  have hlen : (Lib.trimPrefix s.data.toList [115, 101, 103, 46]).length ≤ s.size := by
    rw [Lib.size_eq]
    unfold Lib.trimPrefix
    split
    · rw [List.length_drop]; omega
    · exact Nat.le_refl _
  obtain ⟨x, hx⟩ : ∃ x : ByteArray, x = ⟨(Lib.trimPrefix s.data.toList [115, 101, 103, 46]).toArray⟩ := ⟨_, rfl⟩
  have hxd : Lib.trimPrefix s.data.toList [115, 101, 103, 46] = x.data.toList := by rw [hx]
  have hxz : x.size ≤ 1000000000 := by rw [Lib.size_eq, ← hxd]; omega
  rw [← hx] at HT
  rw [hxd] at hno
  clear hx hxd hlen
  have HNm := Lib.hid (fun n (hn : n < Nm.top) W (hb : Below w.heap.size w W) => nameSays n W hn (hE.below hb (Nat.le_refl _)))
  rcases hu : Lib.parseUintB 64 x.data.toList with u | _ | _
  · obtain ⟨h1, h2⟩ := (hno _ hu).1 u rfl
    have HP : Hid (Calls Tryz.prog 115 #[.string x, .int .i64 10, .int .i64 64] w fun e w' => e = .returned (.tuple #[.int .u64 (u : Int), .nilIface]) ∧ Below w.heap.size w w') := Lib.hid ((Any.strconv_ParseUint_10_at64_ok ws_laysPu14 x (by omega) u hu w).mono fun e w' ⟨h3, h4⟩ => ⟨h3, by rcases h4 with rfl | rfl; exact Below.refl _ _; exact Lib.bytesWorld_below _ _ _⟩)
    have HN := Lib.hid (fun W hb => HNm.out u h1 W hb)
    have Hno := Lib.hid h2
    have Hlt := Lib.hid h1
    clear hno hu h1 h2 hE hF HNm
    by_cases he : Wl.name u = s
    · have b1 : ((Wl.name u).toList == s.toList) = true := by rw [he]; simp
      have He := Lib.hid he
      have b2 : ((Wl.name u).toList != s.toList) = false := by rw [he]; simp
      clear he
      go_enter Tryz.func59, Tryz.ntmps59
      go_wp2_with fail
      refine (HT.out _).mono ?_
      rintro e w1 ⟨rfl, rfl⟩
      go_wp2_with fail
      refine HP.out.mono ?_
      rintro e w2 ⟨rfl, hb2⟩
      have H2 := Lib.hid hb2
      clear hb2
      go_wp2_with fail
      refine (HN.out _ H2.out).mono ?_
      rintro e w3 ⟨rfl, hb3⟩
      go_wp2_with fail
      go_ret2
      exact ⟨u, true, rfl, Hlt.out, fun _ => He.out, fun h => Bool.noConfusion h, bnext H2.out hb3⟩
    · have b1 : ((Wl.name u).toList == s.toList) = false := by
        rw [wstr_eqb]; simpa using he
      have b2 : ((Wl.name u).toList != s.toList) = true := by unfold bne; rw [b1]; rfl
      have He := Lib.hid he
      clear he
      go_enter Tryz.func59, Tryz.ntmps59
      go_wp2_with fail
      refine (HT.out _).mono ?_
      rintro e w1 ⟨rfl, rfl⟩
      go_wp2_with fail
      refine HP.out.mono ?_
      rintro e w2 ⟨rfl, hb2⟩
      have H2 := Lib.hid hb2
      clear hb2
      go_wp2_with fail
      refine (HN.out _ H2.out).mono ?_
      rintro e w3 ⟨rfl, hb3⟩
      go_wp2_with fail
      go_ret2
      exact ⟨0, false, rfl, by decide, fun h => Bool.noConfusion h, fun _ => ⟨rfl, Hno.out He.out⟩, bnext H2.out hb3⟩
  · have h2 := (hno _ hu).2 (fun v h => by cases h)
    obtain ⟨t1, p1, t2, p2, hv1, hv2⟩ := hF
    have HP : Hid (Calls Tryz.prog 115 #[.string x, .int .i64 10, .int .i64 64] w fun e w' => ∃ N, e = .returned (.tuple #[.int .u64 0, .iface 259 (.pointer (some ⟨N, 0, none⟩))]) ∧ Below w.heap.size w w') := Lib.hid ((Any.strconv_ParseUint_10_at64_syntax ws_laysPu14 x (by omega) hu (.iface t1 p1) w (show w.cell? ⟨0, 0, none⟩ = _ by have h0 := World.var?_cell gSyn hv1 0; simpa using h0) (.inr ⟨_, _, rfl⟩)).mono fun e w' ⟨N, h3, _, _, h4⟩ => ⟨N, h3, h4⟩)
    have Hno := Lib.hid h2
    clear hno hu h2 hE HNm hv1 hv2
    go_enter Tryz.func59, Tryz.ntmps59
    go_wp2_with fail
    refine (HT.out _).mono ?_
    rintro e w1 ⟨rfl, rfl⟩
    go_wp2_with fail
    refine HP.out.mono ?_
    rintro e w2 ⟨N, rfl, hb2⟩
    have H2 := Lib.hid hb2
    clear hb2
    go_wp2_with fail
    go_ret2
    exact ⟨0, false, rfl, by decide, fun h => Bool.noConfusion h, fun _ => ⟨rfl, Hno.out⟩, H2.out⟩
  · have h2 := (hno _ hu).2 (fun v h => by cases h)
    obtain ⟨t1, p1, t2, p2, hv1, hv2⟩ := hF
    have HP : Hid (Calls Tryz.prog 115 #[.string x, .int .i64 10, .int .i64 64] w fun e w' => ∃ N, e = .returned (.tuple #[.int .u64 18446744073709551615, .iface 259 (.pointer (some ⟨N, 0, none⟩))]) ∧ Below w.heap.size w w') := Lib.hid ((Any.strconv_ParseUint_10_at64_range ws_laysPu14 x (by omega) hu (.iface t2 p2) w (show w.cell? ⟨1, 0, none⟩ = _ by have h0 := World.var?_cell gRng hv2 0; simpa using h0) (.inr ⟨_, _, rfl⟩)).mono fun e w' ⟨N, h3, _, _, h4⟩ => ⟨N, h3, h4⟩)
    have Hno := Lib.hid h2
    clear hno hu h2 hE HNm hv1 hv2
    go_enter Tryz.func59, Tryz.ntmps59
    go_wp2_with fail
    refine (HT.out _).mono ?_
    rintro e w1 ⟨rfl, rfl⟩
    go_wp2_with fail
    refine HP.out.mono ?_
    rintro e w2 ⟨N, rfl, hb2⟩
    have H2 := Lib.hid hb2
    clear hb2
    go_wp2_with fail
    go_ret2
    exact ⟨0, false, rfl, by decide, fun h => Bool.noConfusion h, fun _ => ⟨rfl, Hno.out⟩, H2.out⟩
end Go.Proofs.YtjhbpcecdhdnoaaGreatDoor
namespace Go.Proofs.YtjhbpcecdhdnoaaGreatDoor
open Go.RowKit Go.Sort
theorem sname_digits {n : Nat} (h : n < Nm.top) : St.snL n = [115, 110, 97, 112, 46] ++ (List.replicate (8 - Lib.nDigits n) 48 ++ Lib.decDigits n) := by
  unfold St.snL
  rw [w10_digits h, wd_zeros (Lib.lt_pow_nDigits n), ← decDigits_wd]
  rfl
theorem trim_sname {n : Nat} : Lib.trimPrefix (St.snL n) [115, 110, 97, 112, 46] = Wl.wd (Wl.w10 n) n := by
  unfold Lib.trimPrefix Lib.hasPrefix St.snL
  simp [List.isPrefixOf]
theorem sname_data {n : Nat} {s : ByteArray} (h : St.sname n = s) : St.snL n = s.data.toList := by rw [← h]; simp [St.sname]
theorem isSn_not {s : ByteArray} (h : ∀ n, n < Nm.top → St.sname n ≠ s) : St.isSn s = false := by
  cases hx : St.isSn s with
  | false => rfl
  | true => obtain ⟨i, h1, h2⟩ := St.isSn_some hx; exact absurd h2 (h i h1)
set_option maxRecDepth 100000 in
set_option maxHeartbeats 1000000 in
theorem snapName_any (n : Nat) (W : World) (hn : n < Nm.top) (hE : EnvT W) : Calls Tryz.prog 132 #[.int .u64 (n : Int)] W fun e w' => e = .returned (.string (St.sname n)) ∧ Below W.heap.size W w' := by
  have HF := Lib.hid (fun w hw => formatUintP_any n hn w (hE.below hw (Nat.le_refl _)))
  have hnd20 : Lib.nDigits n ≤ 20 := nd_le20 n hn
  have hnd1 := Lib.nDigits_pos n
  have HR : Hid (∀ w, Calls Tryz.prog 141 #[.string ⟨#[48]⟩, .int .i64 ((8 - Lib.nDigits n : Nat) : Int)] w fun e w' => e = .returned (.string ⟨(Lib.repeatL (⟨#[48]⟩ : ByteArray).data.toList (8 - Lib.nDigits n)).toArray⟩) ∧ Below w.heap.size w w') := Lib.hid (fun w => Any.strings_Repeat ws_lays105 ws_Builder_Extra_105 ⟨#[48]⟩ (8 - Lib.nDigits n) w (by omega) (by have e : (⟨#[48]⟩ : ByteArray).size = 1 := rfl; rw [e]; omega))
  rw [show (⟨#[48]⟩ : ByteArray).data.toList = [48] from rfl, repeat_one] at HR
  obtain ⟨s, hs⟩ : ∃ s : ByteArray, s = ⟨(Lib.decDigits n).toArray⟩ := ⟨_, rfl⟩
  obtain ⟨z, hz⟩ : ∃ z : ByteArray, z = ⟨(List.replicate (8 - Lib.nDigits n) (48 : UInt8)).toArray⟩ := ⟨_, rfl⟩
  rw [← hs] at HF
  rw [← hz] at HR
  have hsz : s.size = Lib.nDigits n := by rw [hs, Lib.size_eq]; simp [Lib.decDigits_length]
  have hzz : z.size ≤ 8 := by rw [hz, Lib.size_eq]; simp
  have HE : Hid ((⟨#[115, 110, 97, 112, 46]⟩ : ByteArray) ++ z ++ s = St.sname n) := Lib.hid (by
    rw [hz, hs]
    have e : (⟨#[115, 110, 97, 112, 46]⟩ : ByteArray) = ⟨([115, 110, 97, 112, 46] : List UInt8).toArray⟩ := rfl
    rw [e, ba_add2, ba_add2]
    unfold St.sname
    rw [sname_digits hn, List.append_assoc])
  clear hs hz hE
  generalize Lib.nDigits n = m at *
  go_enter Tryz.func132, Tryz.ntmps132
  go_wp2_with fail
  refine (HF.out _ (Below.refl _ _)).mono ?_
  rintro e w1 ⟨rfl, hb1⟩
  go_wp2_with fail
  rw [show max ((8 : Int) - (m : Int)) 0 = ((8 - m : Nat) : Int) by omega]
  refine (HR.out _).mono ?_
  rintro e w2 ⟨rfl, hb2⟩
  go_wp2_with fail
  go_ret
  exact ⟨by rw [← HE.out]; rfl, bnext hb1 hb2⟩
set_option maxRecDepth 100000 in
set_option maxHeartbeats 1000000 in
theorem isSnapName_any (s : ByteArray) (w : World) (hE : EnvT w) (hF : EnvE w) (hs : s.size ≤ 1000000000) : Calls Tryz.prog 183 #[.string s] w fun e w' => e = .returned (.bool (St.isSn s)) ∧ Below w.heap.size w w' := by
  have HT : Hid (∀ W, Calls Tryz.prog 116 #[.string s, .string ⟨#[115, 110, 97, 112, 46]⟩] W fun e w' => e = .returned (.string ⟨(Lib.trimPrefix s.data.toList [115, 110, 97, 112, 46]).toArray⟩) ∧ w' = W) := Lib.hid fun W => Any.strings_TrimPrefix ws_lays101 s ⟨#[115, 110, 97, 112, 46]⟩ W
  have hno : ∀ u, Lib.parseUintB 64 (Lib.trimPrefix s.data.toList [115, 110, 97, 112, 46]) = u → (∀ v, u = .ok v → v < Nm.top ∧ (St.sname v ≠ s → ∀ n, n < Nm.top → St.sname n ≠ s)) ∧ ((∀ v, u ≠ .ok v) → ∀ n, n < Nm.top → St.sname n ≠ s) := fun u hu => by
    have key : ∀ n, n < Nm.top → St.sname n = s → u = .ok n := fun n hn he => by
      rw [← hu, ← sname_data he, trim_sname, parse_wd hn]
    refine ⟨fun v hv => ⟨?_, fun hne n hn he => ?_⟩, fun hv n hn he => hv n (key n hn he)⟩
    · rw [hv] at hu
      have := Lib.parseUintB_le hu
      unfold Nm.top; omega
    · have h1 := key n hn he
      rw [hv] at h1
      injection h1 with h1
      subst h1
      exact hne he
  have hlen : (Lib.trimPrefix s.data.toList [115, 110, 97, 112, 46]).length ≤ s.size := by
    rw [Lib.size_eq]
    unfold Lib.trimPrefix
    split
    · rw [List.length_drop]; omega
    · exact Nat.le_refl _
  obtain ⟨x, hx⟩ : ∃ x : ByteArray, x = ⟨(Lib.trimPrefix s.data.toList [115, 110, 97, 112, 46]).toArray⟩ := ⟨_, rfl⟩
  have hxd : Lib.trimPrefix s.data.toList [115, 110, 97, 112, 46] = x.data.toList := by rw [hx]
  have hxz : x.size ≤ 1000000000 := by rw [Lib.size_eq, ← hxd]; omega
  rw [← hx] at HT
  rw [hxd] at hno
  clear hx hxd hlen
  have HNm := Lib.hid (fun n (hn : n < Nm.top) W (hb : Below w.heap.size w W) => snapName_any n W hn (hE.below hb (Nat.le_refl _)))
  rcases hu : Lib.parseUintB 64 x.data.toList with u | _ | _
  · obtain ⟨h1, h2⟩ := (hno _ hu).1 u rfl
    have HP : Hid (Calls Tryz.prog 115 #[.string x, .int .i64 10, .int .i64 64] w fun e w' => e = .returned (.tuple #[.int .u64 (u : Int), .nilIface]) ∧ Below w.heap.size w w') := Lib.hid ((Any.strconv_ParseUint_10_at64_ok ws_laysPu14 x (by omega) u hu w).mono fun e w' ⟨h3, h4⟩ => ⟨h3, by rcases h4 with rfl | rfl; exact Below.refl _ _; exact Lib.bytesWorld_below _ _ _⟩)
    have HN := Lib.hid (fun W hb => HNm.out u h1 W hb)
    have Hno := Lib.hid h2
    have Hlt := Lib.hid h1
    clear hno hu h1 h2 hE hF HNm
    by_cases he : St.sname u = s
    · have b1 : ((St.sname u).toList == s.toList) = true := by rw [he]; simp
      have He := Lib.hid he
      have b2 : ((St.sname u).toList != s.toList) = false := by rw [he]; simp
      clear he
      go_enter Tryz.func183, Tryz.ntmps183
      go_wp2_with fail
      refine (HT.out _).mono ?_
      rintro e w1 ⟨rfl, rfl⟩
      go_wp2_with fail
      refine HP.out.mono ?_
      rintro e w2 ⟨rfl, hb2⟩
      have H2 := Lib.hid hb2
      clear hb2
      go_wp2_with fail
      refine (HN.out _ H2.out).mono ?_
      rintro e w3 ⟨rfl, hb3⟩
      go_wp2_with fail
      go_ret
      exact ⟨by rw [← He.out, St.isSn_sname Hlt.out]; rfl, bnext H2.out hb3⟩
    · have b1 : ((St.sname u).toList == s.toList) = false := by
        rw [wstr_eqb]; simpa using he
      have b2 : ((St.sname u).toList != s.toList) = true := by unfold bne; rw [b1]; rfl
      have He := Lib.hid he
      clear he
      go_enter Tryz.func183, Tryz.ntmps183
      go_wp2_with fail
      refine (HT.out _).mono ?_
      rintro e w1 ⟨rfl, rfl⟩
      go_wp2_with fail
      refine HP.out.mono ?_
      rintro e w2 ⟨rfl, hb2⟩
      have H2 := Lib.hid hb2
      clear hb2
      go_wp2_with fail
      refine (HN.out _ H2.out).mono ?_
      rintro e w3 ⟨rfl, hb3⟩
      go_wp2_with fail
      go_ret
      exact ⟨by rw [isSn_not (Hno.out He.out)]; rfl, bnext H2.out hb3⟩
  · have h2 := (hno _ hu).2 (fun v h => by cases h)
    obtain ⟨t1, p1, t2, p2, hv1, hv2⟩ := hF
    have HP : Hid (Calls Tryz.prog 115 #[.string x, .int .i64 10, .int .i64 64] w fun e w' => ∃ N, e = .returned (.tuple #[.int .u64 0, .iface 259 (.pointer (some ⟨N, 0, none⟩))]) ∧ Below w.heap.size w w') := Lib.hid ((Any.strconv_ParseUint_10_at64_syntax ws_laysPu14 x (by omega) hu (.iface t1 p1) w (show w.cell? ⟨0, 0, none⟩ = _ by have h0 := World.var?_cell gSyn hv1 0; simpa using h0) (.inr ⟨_, _, rfl⟩)).mono fun e w' ⟨N, h3, _, _, h4⟩ => ⟨N, h3, h4⟩)
    have Hno := Lib.hid h2
    clear hno hu h2 hE HNm hv1 hv2
    go_enter Tryz.func183, Tryz.ntmps183
    go_wp2_with fail
    refine (HT.out _).mono ?_
    rintro e w1 ⟨rfl, rfl⟩
    go_wp2_with fail
    refine HP.out.mono ?_
    rintro e w2 ⟨N, rfl, hb2⟩
    have H2 := Lib.hid hb2
    clear hb2
    go_wp2_with fail
    go_ret
    exact ⟨by rw [isSn_not Hno.out]; rfl, H2.out⟩
  · have h2 := (hno _ hu).2 (fun v h => by cases h)
    obtain ⟨t1, p1, t2, p2, hv1, hv2⟩ := hF
    have HP : Hid (Calls Tryz.prog 115 #[.string x, .int .i64 10, .int .i64 64] w fun e w' => ∃ N, e = .returned (.tuple #[.int .u64 18446744073709551615, .iface 259 (.pointer (some ⟨N, 0, none⟩))]) ∧ Below w.heap.size w w') := Lib.hid ((Any.strconv_ParseUint_10_at64_range ws_laysPu14 x (by omega) hu (.iface t2 p2) w (show w.cell? ⟨1, 0, none⟩ = _ by have h0 := World.var?_cell gRng hv2 0; simpa using h0) (.inr ⟨_, _, rfl⟩)).mono fun e w' ⟨N, h3, _, _, h4⟩ => ⟨N, h3, h4⟩)
    have Hno := Lib.hid h2
    clear hno hu h2 hE HNm hv1 hv2
    go_enter Tryz.func183, Tryz.ntmps183
    go_wp2_with fail
    refine (HT.out _).mono ?_
    rintro e w1 ⟨rfl, rfl⟩
    go_wp2_with fail
    refine HP.out.mono ?_
    rintro e w2 ⟨N, rfl, hb2⟩
    have H2 := Lib.hid hb2
    clear hb2
    go_wp2_with fail
    go_ret
    exact ⟨by rw [isSn_not Hno.out]; rfl, H2.out⟩
end Go.Proofs.YtjhbpcecdhdnoaaGreatDoor
namespace Go.Proofs.YtjhbpcecdhdnoaaGreatDoor
open Go.RowKit
theorem TabO.ko {S : Nat → Prop} {w W : World} {g o : Nat} {f : Nat → Nat} (h : TabO w g o f) (hk : Ko S w W) (hg : ¬ S g) : TabO W g o f :=
  ⟨Nat.lt_of_lt_of_le h.1 hk.size, fun i hi => by
    have hb := hk.block g h.1 hg
    have := h.2 i hi
    unfold World.cell? at this ⊢
    simp only [hb]
    exact this⟩
theorem Now.le {At : DkAt} {w W : World} {p : Nat} {S : Nat → Prop} {d : Dk.D} (h : Now At w W p S d) : w.heap.size ≤ W.heap.size := h.ko.size
section
variable {At : DkAt}
set_option maxRecDepth 100000 in
theorem remove_any (K : DiskK At) (w W : World) (p : Nat) (S : Nat → Prop) (d : Dk.D) (x : ByteArray) (hn : Now At w W p S d) (hx : x.size ≤ 100000000) :
    Calls Tryz.prog 131 #[.pointer (some ⟨p, 0, none⟩), .string x] W fun e w' => e = .returned (.int .i64 (eno (St.remove d x).1)) ∧ Now At w w' p S (St.remove d x).2 := by
  have HD := Lib.hid (K.deleteN hn x hx)
  obtain ⟨E, hE⟩ : ∃ E, E = Dk.delete d x := ⟨_, rfl⟩
  have HR : Hid (St.remove d x = if E.1 = .none then (.ok, E.2) else E) := Lib.hid (by rw [hE]; rfl)
  rw [← hE] at HD
  clear hE hn hx K
  by_cases h4 : E.1 = .none
  · have h5 : eno E.1 = 4 := by rw [h4]; rfl
    rw [h5] at HD
    have H4 := Lib.hid h4
    clear h4 h5
    go_enter Tryz.func131, Tryz.ntmps131
    go_wp2_with fail
    refine HD.out.mono ?_
    rintro e w1 ⟨rfl, hn1⟩
    go_wp2_with fail
    go_ret
    rw [HR.out, if_pos H4.out]
    exact ⟨rfl, hn1⟩
  · have z1 : (eno E.1 == 4) = false := by revert h4; cases E.1 <;> simp [eno]
    have z2 : (eno E.1 = 4) = False := by revert h4; cases E.1 <;> simp [eno]
    have H4 := Lib.hid h4
    obtain ⟨v, hv⟩ : ∃ v, v = eno E.1 := ⟨_, rfl⟩
    rw [← hv] at HD z1 z2
    have Hv := Lib.hid hv
    clear h4 hv
    go_enter Tryz.func131, Tryz.ntmps131
    go_wp2_with fail
    refine HD.out.mono ?_
    rintro e w1 ⟨rfl, hn1⟩
    go_wp2_with fail
    go_ret
    rw [HR.out, if_neg H4.out, ← Hv.out]
    exact ⟨rfl, hn1⟩
theorem V_three (W : World) (n m l : Nat) (hn : n < Nm.top) (hm : m < Nm.top) (hl : l < Nm.top) : Calls Tryz.prog 147 #[.slice (some ⟨W.heap.size, 0, none⟩) 3 3] (W.alloc (.cells #[.int .u64 (n : Int), .int .u64 (m : Int), .int .u64 (l : Int)] 38)) (RetS (Nm.grp n ++ (Nm.grp m ++ Nm.grp l)) W) := by
  refine (V_any [n, m, l] (fun x hx => by simp at hx; rcases hx with rfl | rfl | rfl <;> assumption) _ 3 _ (Lies.new W (uc [n, m, l]) 38) (by simp)).mono ?_
  rintro e w' ⟨h1, h2⟩
  exact ⟨by rw [h1]; simp [vs], bnext (bnew (Below.refl _ _) _) h2⟩
theorem head_size {s : St.Sn} (h : St.SnFits s) : (St.headS s).length ≤ 100 := by
  have hm : s.mem < Nm.top := by have := h.mem; unfold Nm.top; omega
  have h1 := (Nm.cnt_spec s.idx h.idx).2.2
  have h2 := (Nm.cnt_spec s.trm h.trm).2.2
  have h3 := (Nm.cnt_spec s.mem hm).2.2
  unfold St.headS
  rw [List.length_append, List.length_append, Nm.grp_length, Nm.grp_length, Nm.grp_length]
  omega
theorem srow_get {s : St.Sn} (h : St.SnFits s) (k : Nat) (hk : k < 5) : (St.srow s).drop (k + 1) = (St.sx s k).data.toList :: (St.srow s).drop (k + 2) := by
  have hl := h.len
  unfold St.srow
  rw [List.drop_succ_cons, List.drop_succ_cons, List.drop_eq_getElem_cons (by rw [List.length_map]; omega), List.getElem_map]
  unfold St.sx
  rw [List.getD_eq_getElem?_getD, List.getElem?_eq_getElem (by omega)]; rfl
theorem index_sec (s : St.Sn) (k : Nat) (hk : k < 5) (W : World) : (Instr.index 53 (.agg #[.string (St.sx s 0), .string (St.sx s 1), .string (St.sx s 2), .string (St.sx s 3), .string (St.sx s 4)]) (.int .i64 (k : Int))).run Tryz.prog W = .ok (.string (St.sx s k)) W := by
  match k, hk with
  | 0, _ => exact index_sec0 s W
  | 1, _ => exact index_sec1 s W
  | 2, _ => exact index_sec2 s W
  | 3, _ => exact index_sec3 s W
  | 4, _ => exact index_sec4 s W
structure Tb (S : Nat → Prop) (W : World) (g o : Nat) : Prop where
  env : ∀ W', Ko S W W' → EnvT W'
  tab : TabO W g o Cr.tab
  ng : ¬ S g
theorem Tb.at_ {S : Nat → Prop} {W W' : World} {g o : Nat} (h : Tb S W g o) (hk : Ko S W W') : TabO W' g o Cr.tab := h.tab.ko hk h.ng
theorem Ko.after {S : Nat → Prop} {a b c : World} (h : Below a.heap.size a b) (k : Ko S b c) : Ko S a c := (Ko.bel h).trans k fun _ hs => .inl hs
theorem Now.after {S : Nat → Prop} {a b c : World} {p : Nat} {d : Dk.D} (h : Below a.heap.size a b) (k : Now At b c p S d) : Now At a c p S d := Now.trans (Ko.bel h) (fun _ hs => .inl hs) k
set_option maxRecDepth 100000 in
set_option maxHeartbeats 4000000 in
theorem writeSnap_any (K : DiskK At) (W : World) (p g o : Nat) (S : Nat → Prop) (d : Dk.D) (s : St.Sn) (hA : At W p S d) (hT : Tb S W g o) (hs : St.SnFits s) (hc : Dk.load d + 200 + Wl.cost (St.srow s) ≤ 100000000) :
    Calls Tryz.prog 130 #[.pointer (some ⟨p, 0, none⟩), .pointer (some ⟨g, o, none⟩), .agg (snC s)] W fun e w' => e = .returned (.int .i64 (eno (St.writeSnap d s).1)) ∧ Now At W w' p S (St.writeSnap d s).2 := by
  have hi := hs.idx
  have hnz := (St.sname_size hi).2
  have HK := Lib.hid K
  have HSn := Lib.hid (fun W1 (h : Ko S W W1) => snapName_any s.idx W1 hi (hT.env W1 h))
  obtain ⟨nm, hnm⟩ : ∃ nm, nm = St.sname s.idx := ⟨_, rfl⟩
  rw [← hnm] at HSn hnz
  obtain ⟨d1, hd1⟩ : ∃ d1, d1 = St.remove d nm := ⟨_, rfl⟩
  have HR := Lib.hid (fun w W1 (h : Now At w W1 p S d) => remove_any K w W1 p S d nm h (by omega))
  have HW : Hid (St.writeSnap d s = if d1.1 = .ok then Wl.lay d1.2 nm (St.srow s) else d1) := Lib.hid (by rw [hd1, hnm]; rfl)
  have hld1 : Dk.load d1.2 ≤ Dk.load d := by
    rw [hd1]; unfold St.remove; split <;> exact Dk.load_delete d nm
  rw [← hd1] at HR
  have HTb := Lib.hid hT
  have HA := Lib.hid (And.intro hA (K.lt hA))
  have hm2 : s.mem < 256 := hs.mem
  have ht2 := hs.trm
  have hm3 : s.mem < Nm.top := by unfold Nm.top; omega
  have HV := Lib.hid (fun W1 => V_three W1 s.idx s.trm s.mem hi ht2 hm3)
  obtain ⟨hd, hhd⟩ : ∃ hd : ByteArray, hd = ⟨(Nm.grp s.idx ++ (Nm.grp s.trm ++ Nm.grp s.mem)).toArray⟩ := ⟨_, rfl⟩
  have hhz : hd.size ≤ 100 := by
    have := head_size hs
    rw [hhd, Lib.size_eq]; exact this
  have hhD : hd.data.toList = St.headS s := by rw [hhd]; rfl
  unfold RetS at HV
  rw [← hhd] at HV
  have hi2 : s.idx ≤ 18446744073709551615 := by unfold Nm.top at hi; omega
  have ht3 : s.trm ≤ 18446744073709551615 := by unfold Nm.top at ht2; omega
  have HS := Lib.hid hs
  have Hc := Lib.hid (show Dk.load d1.2 + 200 + Wl.cost (St.srow s) ≤ 100000000 by omega)
  have HhD := Lib.hid hhD
  clear hnm hd1 hA hT hs hc K hi hld1 ht2 hm3 hhd hhD
  have ho : (snC s).size = 8 := rfl
  obtain ⟨X, hX⟩ : ∃ X, X = snC s := ⟨_, rfl⟩
  have HX : Hid (X[0]? = some (.int .u64 (s.idx : Int)) ∧ X[1]? = some (.int .u64 (s.trm : Int)) ∧ X[2]? = some (.int .u8 (s.mem : Int)) ∧ ∀ j, j < (secA s).size → X[3 + j]? = (secA s)[j]?) := Lib.hid (by rw [hX]; exact ⟨rfl, rfl, rfl, snC_sec s⟩)
  rw [← hX] at ho ⊢
  clear hX
  go_enter Tryz.func130, Tryz.ntmps130
  go_upto_region 1 with (fail)
  refine forget (fun W1 => Rw W1 W.heap.size X 55 ∧ At W1 p S d ∧ Bl W W1 ∧ ¬ S W.heap.size) ⟨Rw.new W X _, HK.out.below HA.out.1 (bnew (Below.refl _ _) _), (Bl.refl W).alloc _, fun h => absurd (HA.out.2 _ h) (Nat.lt_irrefl _)⟩ ?_
  intro W1 H1
  obtain ⟨gb, hgb⟩ : ∃ gb, gb = W.heap.size := ⟨_, rfl⟩
  rw [← hgb] at H1 ⊢
  have HI := Lib.hid H1
  have c0 := H1.1.cell 0 HX.out.1
  clear hgb H1
  go_wp2_with fail
  refine (HSn.out _ (Ko.bel HI.out.2.2.1.bel)).mono ?_
  rintro e w1 ⟨rfl, hb1⟩
  have H2 : Hid (Now At W1 w1 p S d) := Lib.hid (HK.out.now HI.out.2.1 hb1)
  clear hb1 c0
  go_wp2_with fail
  refine (HR.out _ _ H2.out).mono ?_
  rintro e w2 ⟨rfl, hn2⟩
  have H3 := Lib.hid hn2
  clear hn2 H2
  by_cases hok : d1.1 = .ok
  case neg =>
    obtain ⟨z1, z2, z3⟩ := eno_ne hok
    have Hok := Lib.hid hok
    obtain ⟨v, hv⟩ : ∃ v, v = eno d1.1 := ⟨_, rfl⟩
    rw [← hv] at z1 z2 z3 ⊢
    have Hv := Lib.hid hv
    clear hok hv
    go_wp2_with fail
    go_ret
    rw [HW.out, if_neg Hok.out, ← Hv.out]
    exact ⟨rfl, H3.out.after HI.out.2.2.1⟩
  rw [if_pos hok] at HW
  rw [hok]
  simp only [eno]
  have r2 : Rw w2 gb X 55 := H3.out.ko.row HI.out.2.2.2 HI.out.1
  have c0 := r2.cell 0 HX.out.1
  have c1 := r2.cell 1 HX.out.2.1
  have c2 := r2.cell 2 HX.out.2.2.1
  have HKo2 := Lib.hid (Ko.after HI.out.2.2.1 H3.out.ko)
  clear hok r2
  go_wp2_with fail
  refine (HV.out _).mono ?_
  rintro e w3 ⟨rfl, hb3⟩
  have H3b : Hid (Now At W1 w3 p S d1.2) := Lib.hid (HK.out.more H3.out hb3)
  clear hb3 c0 c1 c2
  obtain ⟨r0, hr0⟩ : ∃ r0, r0 = Wl.ba (Wl.row (St.headS s)) := ⟨_, rfl⟩
  have hr0z : r0.size ≤ 114 := by
    have h1 := head_size HS.out
    have := Wl.row_size_le (t := St.headS s) (by unfold Nm.top; omega)
    rw [hr0]; omega
  have HRW : Hid (∀ W2, Now At W1 W2 p S d1.2 → Calls Tryz.prog 143 #[.pointer (some ⟨g, o, none⟩), .string hd] W2 fun e w' => e = .returned (.string r0) ∧ Below W2.heap.size W2 w') := Lib.hid fun W2 hn => by
    have h := row_any W2 g o hd (HTb.out.at_ (Ko.after HI.out.2.2.1 hn.ko)) (by omega)
    rw [HhD.out] at h
    rw [hr0]; exact h
  obtain ⟨E1, hE1⟩ : ∃ E1, E1 = Dk.append d1.2 nm r0 := ⟨_, rfl⟩
  have HAp : Hid (∀ W2, Now At W1 W2 p S d1.2 → Calls Tryz.prog 28 #[.pointer (some ⟨p, 0, none⟩), .string nm, .string r0] W2 fun e w' => e = .returned (.int .i64 (eno E1.1)) ∧ Now At W1 w' p S E1.2) := Lib.hid fun W2 hn => by
    rw [hE1]
    exact HK.out.appendN hn nm r0 (by have := Hc.out; omega)
  have HLy : Hid (St.writeSnap d s = if E1.1 = .ok then Wl.lay E1.2 nm ((St.srow s).drop 1) else E1) := Lib.hid (by rw [HW.out, hE1, hr0]; rfl)
  have HcE : Hid (E1.1 = .ok → Dk.load E1.2 + 80 + Wl.cost ((St.srow s).drop 1) ≤ 100000000) := Lib.hid fun _ => by
    have hinv : Dk.Inv d1.2 := by obtain ⟨⟨S', h1, _⟩, _⟩ := H3b.out; exact HK.out.inv h1
    have h1 := Dk.load_append hinv nm r0
    have h2 := Hc.out
    have h3 : Wl.cost (St.srow s) = 60 + (St.headS s).length + Wl.cost ((St.srow s).drop 1) := rfl
    rw [hE1]
    have h4 := Wl.row_size_le (t := St.headS s) (by have := head_size HS.out; unfold Nm.top; omega)
    rw [← hr0] at h4
    omega
  clear hr0 hE1 HV
  go_wp2_with fail
  refine (HRW.out _ H3b.out).mono ?_
  rintro e w4 ⟨rfl, hb4⟩
  have H4 := Lib.hid (HK.out.more H3b.out hb4)
  clear hb4
  go_wp2_with fail
  refine (HAp.out _ H4.out).mono ?_
  rintro e w5 ⟨rfl, hn5⟩
  have H5 := Lib.hid hn5
  clear hn5 H4 H3b H3
  by_cases hok : E1.1 = .ok
  case neg =>
    obtain ⟨z1, z2, z3⟩ := eno_ne hok
    have Hok := Lib.hid hok
    obtain ⟨v, hv⟩ : ∃ v, v = eno E1.1 := ⟨_, rfl⟩
    rw [← hv] at z1 z2 z3 ⊢
    have Hv := Lib.hid hv
    clear hok hv
    go_wp2_with fail
    go_ret
    rw [HLy.out, if_neg Hok.out, ← Hv.out]
    exact ⟨rfl, H5.out.after HI.out.2.2.1⟩
  rw [if_pos hok] at HLy
  rw [hok]
  have HcE2 := Lib.hid (HcE.out hok)
  simp only [eno]
  have r5 : Rw w5 gb X 55 := H5.out.ko.row HI.out.2.2.2 HI.out.1
  have HR5 := Lib.hid r5
  have HA5 : Hid ((Tryz.prog.info? 53).map (·.size) = some (secA s).size) := Lib.hid sizeSec
  have HX5 := Lib.hid HX.out.2.2.2
  unfold secA at HX5 HA5
  clear hok r5 HcE HAp HRW
  go_upto_region 9 with (refine wpList_load_sub rfl 53 _ rfl gb 3 rfl 55 X _ (0, 0) _ HR5.out HX5.out Tryz.underlying53 rfl HA5.out ?_)
  go_loopw [41] (fun v wr => ∃ (k : Nat) (D : Dk.D), k ≤ 5 ∧ v = .int .i64 (k : Int) ∧ Now At W1 wr p S D ∧ St.writeSnap d s = Wl.lay D nm ((St.srow s).drop (k + 1)) ∧ Dk.load D + 80 + Wl.cost ((St.srow s).drop (k + 1)) ≤ 100000000) (fun v _ => 5 - (intOf v).toNat)
  case atStart => exact ⟨0, E1.2, by omega, rfl, H5.out, HLy.out, HcE2.out⟩
  case round =>
    obtain ⟨k, D, hk, rfl, hn, hly, hld⟩ := hrel
    by_cases hlt : k < 5
    · have hix := index_sec s k hlt
      have hdr := srow_get HS.out k hlt
      obtain ⟨x, hx⟩ : ∃ x, x = St.sx s k := ⟨_, rfl⟩
      rw [← hx] at hix hdr
      have hxz : x.size ≤ 100000 := by
        rw [hx]
        unfold St.sx
        have hl := HS.out.len
        rw [List.getD_eq_getElem?_getD, List.getElem?_eq_getElem (by omega)]
        exact HS.out.sec _ (List.getElem_mem _)
      obtain ⟨r, hr⟩ : ∃ r, r = Wl.ba (Wl.row x.data.toList) := ⟨_, rfl⟩
      have hrz : r.size ≤ x.size + 14 := by
        have := Wl.row_size_le (t := x.data.toList) (by rw [← Lib.size_eq]; unfold Nm.top; omega)
        rw [hr, Lib.size_eq x]; exact this
      have HRk : Hid (Calls Tryz.prog 143 #[.pointer (some ⟨g, o, none⟩), .string x] wr fun e w' => e = .returned (.string r) ∧ Below wr.heap.size wr w') := Lib.hid (by
        rw [hr]
        exact row_any wr g o x (HTb.out.at_ (Ko.after HI.out.2.2.1 hn.ko)) (by omega))
      have hcost : Wl.cost ((St.srow s).drop (k + 1)) = 60 + x.size + Wl.cost ((St.srow s).drop (k + 2)) := by rw [hdr, Lib.size_eq]; rfl
      obtain ⟨E, hE⟩ : ∃ E, E = Dk.append D nm r := ⟨_, rfl⟩
      have HAk : Hid (∀ W2, Below wr.heap.size wr W2 → Calls Tryz.prog 28 #[.pointer (some ⟨p, 0, none⟩), .string nm, .string r] W2 fun e w' => e = .returned (.int .i64 (eno E.1)) ∧ Now At W1 w' p S E.2) := Lib.hid fun W2 hb => by
        rw [hE]
        exact HK.out.appendN (HK.out.more hn hb) nm r (by omega)
      have hinv : Dk.Inv D := by obtain ⟨⟨S', h1, _⟩, _⟩ := hn; exact HK.out.inv h1
      have HLk : Hid (St.writeSnap d s = if E.1 = .ok then Wl.lay E.2 nm ((St.srow s).drop (k + 1 + 1)) else E) := Lib.hid (by rw [hly, hdr, hE, hr]; rfl)
      have HLd : Hid (Dk.load E.2 + 80 + Wl.cost ((St.srow s).drop (k + 1 + 1)) ≤ 100000000) := Lib.hid (by
        have h1 := Dk.load_append hinv nm r
        rw [hE]
        show _ + 80 + Wl.cost ((St.srow s).drop (k + 2)) ≤ _
        omega)
      clear hx hr hE hly hld hn hdr hcost hinv
      go_wp2_with fail
      refine HRk.out.mono ?_
      rintro e w6 ⟨rfl, hb6⟩
      have H6 := Lib.hid hb6
      clear hb6
      go_wp2_with fail
      refine (HAk.out _ H6.out).mono ?_
      rintro e w7 ⟨rfl, hn7⟩
      have H7 := Lib.hid hn7
      clear hn7
      by_cases hok : E.1 = .ok
      · rw [hok]
        have Hok := Lib.hid hok
        simp only [eno]
        clear hok
        go_wp2_with fail
        go_roundw
        case rel => exact ⟨k + 1, E.2, by omega, by go_num, H7.out, by rw [HLk.out, if_pos Hok.out], HLd.out⟩
        case measure => simp [intOf]; omega
      · obtain ⟨z1, z2, z3⟩ := eno_ne hok
        have Hok := Lib.hid hok
        obtain ⟨v, hv⟩ : ∃ v, v = eno E.1 := ⟨_, rfl⟩
        rw [← hv] at z1 z2 z3 ⊢
        have Hv := Lib.hid hv
        clear hok hv
        go_wp2_with fail
        go_ret
        rw [HLk.out, if_neg Hok.out, ← Hv.out]
        exact ⟨rfl, H7.out.after HI.out.2.2.1⟩
    · obtain rfl : k = 5 := by omega
      have HSy := Lib.hid (HK.out.syncN hn nm (by omega))
      have HLk : Hid (St.writeSnap d s = Dk.sync D nm) := Lib.hid (by
        rw [hly, List.drop_of_length_le (by rw [St.srow_length HS.out]; exact Nat.le_refl _)]; rfl)
      clear hly hld hn
      go_wp2_with fail
      refine HSy.out.mono ?_
      rintro e w6 ⟨rfl, hn6⟩
      go_wp2_with fail
      go_ret
      rw [HLk.out]
      exact ⟨rfl, hn6.after HI.out.2.2.1⟩
end
end Go.Proofs.YtjhbpcecdhdnoaaGreatDoor
namespace Go.Proofs.YtjhbpcecdhdnoaaGreatDoor
open Go.RowKit
namespace St
def fin : Nat → Nat → Nat → Nat → List UInt8 → Option (Nat × Nat × Nat)
  | 0, _, _, _, t => headP t
  | 1, a, _, _, t => (Cm.rdV t).bind fun (b, l) => (Cm.rdV l).bind fun (c, l) => if l = [] ∧ c ≤ 255 then some (a, b, c) else none
  | 2, a, b, _, t => (Cm.rdV t).bind fun (c, l) => if l = [] ∧ c ≤ 255 then some (a, b, c) else none
  | _, a, b, c, t => if t = [] ∧ c ≤ 255 then some (a, b, c) else none
def arr3 (a b c : Nat) : Array Value := #[.int .u64 (a : Int), .int .u64 (b : Int), .int .u64 (c : Int)]
end St
theorem rdVy (x : ByteArray) : Cm.rdV x.data.toList = match Nm.readV x.data.toList with | some (n, k) => some (n, (x.extract k x.size).data.toList) | none => none := by
  unfold Cm.rdV
  rcases Nm.readV x.data.toList with _ | ⟨n, k⟩
  · rfl
  · simp only [ext_drop, List.toList_toArray]
theorem fin_no {k a b c : Nat} {x : ByteArray} (hk : k < 3) (h : Nm.readV x.data.toList = none) : St.fin k a b c x.data.toList = none := by
  have e := rdVy x
  rw [h] at e
  match k, hk with
  | 0, _ => show (Cm.rdV x.data.toList).bind _ = _; rw [e]; rfl
  | 1, _ => show (Cm.rdV x.data.toList).bind _ = _; rw [e]; rfl
  | 2, _ => show (Cm.rdV x.data.toList).bind _ = _; rw [e]; rfl
theorem fin_yes {k a b c n m : Nat} {x : ByteArray} (hk : k < 3) (h : Nm.readV x.data.toList = some (n, m)) :
    St.fin k a b c x.data.toList = St.fin (k + 1) (if k = 0 then n else a) (if k = 1 then n else b) (if k = 2 then n else c) (x.extract m x.size).data.toList := by
  have e := rdVy x
  rw [h] at e
  match k, hk with
  | 0, _ => show (Cm.rdV x.data.toList).bind _ = _; rw [e]; rfl
  | 1, _ => show (Cm.rdV x.data.toList).bind _ = _; rw [e]; rfl
  | 2, _ => show (Cm.rdV x.data.toList).bind _ = _; rw [e]; rfl
def HdV (o : Option (Nat × Nat × Nat)) : Value := match o with
  | some (a, b, c) => .tuple #[.agg (snC ⟨a, b, c, St.zs.sec⟩), .bool true]
  | none => .tuple #[.agg (snC St.zs), .bool false]
def zl : Array Value := #[.int .u64 0, .int .u64 0, .int .u8 0, .string ⟨#[]⟩, .string ⟨#[]⟩, .string ⟨#[]⟩, .string ⟨#[]⟩, .string ⟨#[]⟩]
theorem zl_one : zl.all (·.oneCell') = true := by simp [zl, Value.oneCell']
set_option maxRecDepth 100000 in
set_option maxHeartbeats 4000000 in
theorem readHeadS_any (t : ByteArray) (w : World) (ht : t.size ≤ 100000000) : Calls Tryz.prog 227 #[.string t] w fun e w' => e = .returned (HdV (St.headP t.data.toList)) ∧ Below w.heap.size w w' := by
  have HV := Lib.hid (fun (x : ByteArray) (hx : x.size ≤ 100000000) W => ReadV_any x W (by omega))
  have HTz := Lib.hid ht
  go_enter Tryz.func227, Tryz.ntmps227
  go_upto_region 3 with (fail)
  refine forget (fun W => Rw W w.heap.size (snC St.zs) 55 ∧ Rw W (w.heap.size + 1) (St.arr3 0 0 0) 289 ∧ Bl w W ∧ w.heap.size ≤ w.heap.size) ⟨(Rw.new w _ _).alloc _, by have := Rw.new (w.alloc (.cells (snC St.zs) 55)) (St.arr3 0 0 0) 289; rw [World.size_alloc] at this; exact this, ((Bl.refl w).alloc _).alloc _, Nat.le_refl _⟩ ?_
  intro W1 H1
  obtain ⟨g, hg⟩ : ∃ g, g = w.heap.size := ⟨_, rfl⟩
  have hg2 : w.heap.size ≤ g := by omega
  rw [← hg] at H1 ⊢
  clear hg
  have HI := Lib.hid H1
  clear H1
  go_loopw [0, 9] (fun u v wr => ∃ (k a b c : Nat) (x : ByteArray), k ≤ 3 ∧ u = .string x ∧ v = .int .i64 (k : Int) ∧ x.size ≤ 100000000 ∧ a < Nm.top ∧ b < Nm.top ∧ c < Nm.top ∧ St.headP t.data.toList = St.fin k a b c x.data.toList ∧ Rw wr g (snC St.zs) 55 ∧ Rw wr (g + 1) (St.arr3 a b c) 289 ∧ Bl w wr) (fun _ v _ => 3 - (intOf v).toNat)
  case atStart => exact ⟨0, 0, 0, 0, t, by omega, rfl, rfl, HTz.out, by decide, by decide, by decide, rfl, HI.out.1, HI.out.2.1, HI.out.2.2.1⟩
  case round =>
    obtain ⟨k, a, b, c, x, hk, rfl, rfl, hx, ha, hb, hc, hfin, h1, h2, h3⟩ := hrel
    have HJ := Lib.hid (And.intro h1 (And.intro h2 h3))
    clear h1 h2 h3
    have HVx := Lib.hid (HV.out x hx)
    have HAB := Lib.hid (And.intro ha (And.intro hb hc))
    by_cases hlt : k < 3
    · rcases hv : Nm.readV x.data.toList with _ | ⟨n, m⟩
      · have E : Hid (St.headP t.data.toList = none) := Lib.hid (by rw [hfin, fin_no hlt hv])
        rw [hv] at HVx
        unfold rv at HVx
        clear hv hfin ha hb hc
        go_wp2_with fail
        refine (HVx.out _).mono ?_
        rintro e w1 ⟨rfl, rfl⟩
        go_wp2_with (refine wpList_store_sub rfl 55 _ _ rfl g 0 rfl 55 (snC St.zs) zl rfl HJ.out.1 (Nat.le_refl 8) sizeSnap zl_one ?_)
        refine bodyPost_ret (results_ct (P := Tryz.prog) (fn := Tryz.f227) rfl _ _ g 55 (snC St.zs) (0, 0) _ rfl (HJ.out.1.over rfl) Tryz.underlying55 rfl sizeSnap) rfl ?_
        exact ⟨by rw [E.out]; rfl, HJ.out.2.2.puts hg2 _ _⟩
      · have E : Hid (St.headP t.data.toList = St.fin (k + 1) (if k = 0 then n else a) (if k = 1 then n else b) (if k = 2 then n else c) (x.extract m x.size).data.toList) := Lib.hid (by rw [hfin, fin_yes hlt hv])
        obtain ⟨hnt, hmx⟩ := readV_le hv
        rw [← Lib.size_eq] at hmx
        have hmi : (m : Int) ≤ (x.size : Int) := by omega
        have hxz : Hid ((x.extract m x.size).size ≤ 100000000) := Lib.hid (by rw [ByteArray.size_extract]; omega)
        rw [hv] at HVx
        unfold rv at HVx
        have Hnt := Lib.hid hnt
        clear hv hfin ha hb hc hnt
        have hc3 : k = 0 ∨ k = 1 ∨ k = 2 := by omega
        rcases hc3 with rfl | rfl | rfl
        all_goals (
          have f0 := HJ.out.2.1.free 0
          have f1 := HJ.out.2.1.free 1
          have f2 := HJ.out.2.1.free 2
          have c0 := HJ.out.2.1.cell 0 (show (St.arr3 a b c)[0]? = some (.int .u64 (a : Int)) from rfl)
          have c1 := HJ.out.2.1.cell 1 (show (St.arr3 a b c)[1]? = some (.int .u64 (b : Int)) from rfl)
          have c2 := HJ.out.2.1.cell 2 (show (St.arr3 a b c)[2]? = some (.int .u64 (c : Int)) from rfl)
          go_wp2_with fail
          refine (HVx.out _).mono ?_
          rintro e w1 ⟨rfl, rfl⟩
          go_wp2_with fail
          go_roundw
          case rel => exact ⟨_, _, _, _, _, by decide, rfl, by first | rfl | go_num, hxz.out, by first | exact Hnt.out | exact HAB.out.1, by first | exact Hnt.out | exact HAB.out.2.1, by first | exact Hnt.out | exact HAB.out.2.2, E.out, HJ.out.1.oput (by omega) _ _, HJ.out.2.1.put _ _, HJ.out.2.2.put (by omega) _ _⟩
          case measure => simp [intOf])
    · obtain rfl : k = 3 := by omega
      have hf3 : St.headP t.data.toList = if x.data.toList = [] ∧ c ≤ 255 then some (a, b, c) else none := hfin
      have c0 := HJ.out.2.1.cell 0 (show (St.arr3 a b c)[0]? = some (.int .u64 (a : Int)) from rfl)
      have c1 := HJ.out.2.1.cell 1 (show (St.arr3 a b c)[1]? = some (.int .u64 (b : Int)) from rfl)
      have c2 := HJ.out.2.1.cell 2 (show (St.arr3 a b c)[2]? = some (.int .u64 (c : Int)) from rfl)
      have hct : c ≤ 18446744073709551615 := by unfold Nm.top at hc; omega
      by_cases hx0 : x.size = 0
      · have hxe : x = ⟨#[]⟩ := ByteArray.ext (Array.eq_empty_of_size_eq_zero hx0)
        subst hxe
        by_cases hc2 : c ≤ 255
        · have E : Hid (St.headP t.data.toList = some (a, b, c)) := Lib.hid (by rw [hf3, if_pos ⟨rfl, hc2⟩])
          have d1 : decide (255 < c) = false := by simp; omega
          have d2 : decide ((255 : Int) < (c : Int)) = false := by simp; omega
          have d3 : ((255 : Int) < (c : Int)) = False := by simp; omega
          have d4 : IntKind.u8.wrap (c : Int) = (c : Int) := by simp only [IntKind.wrap, IntKind.bits, IntKind.signed]; simp; omega
          have HZ : Hid (#[Value.int .u64 (a : Int), Value.int .u64 (b : Int), Value.int .u8 (c : Int), Value.string ⟨#[]⟩, Value.string ⟨#[]⟩, Value.string ⟨#[]⟩, Value.string ⟨#[]⟩, Value.string ⟨#[]⟩] = snC ⟨a, b, c, St.zs.sec⟩) := Lib.hid rfl
          have HO : Hid ((#[Value.int .u64 (a : Int), Value.int .u64 (b : Int), Value.int .u8 (c : Int), Value.string ⟨#[]⟩, Value.string ⟨#[]⟩, Value.string ⟨#[]⟩, Value.string ⟨#[]⟩, Value.string ⟨#[]⟩] : Array Value).all (·.oneCell') = true) := Lib.hid (by simp [Value.oneCell'])
          clear hfin hf3 ha hb hc hc2
          go_wp2_with (refine wpList_store_sub rfl 55 _ _ rfl g 0 rfl 55 (snC St.zs) #[Value.int .u64 (a : Int), Value.int .u64 (b : Int), Value.int .u8 (c : Int), Value.string ⟨#[]⟩, Value.string ⟨#[]⟩, Value.string ⟨#[]⟩, Value.string ⟨#[]⟩, Value.string ⟨#[]⟩] rfl HJ.out.1 (Nat.le_refl 8) sizeSnap HO.out ?_)
          rw [HZ.out]
          refine bodyPost_ret (results_ct (P := Tryz.prog) (fn := Tryz.f227) rfl _ _ g 55 (snC ⟨a, b, c, St.zs.sec⟩) (0, 0) _ rfl (HJ.out.1.over rfl) Tryz.underlying55 rfl sizeSnap) rfl ?_
          exact ⟨by rw [E.out]; rfl, HJ.out.2.2.puts hg2 _ _⟩
        · have E : Hid (St.headP t.data.toList = none) := Lib.hid (by rw [hf3, if_neg fun h => hc2 h.2])
          have d1 : decide (255 < c) = true := by simp; omega
          have d2 : decide ((255 : Int) < (c : Int)) = true := by simp; omega
          have d3 : ((255 : Int) < (c : Int)) = True := by simp; omega
          clear hfin hf3 ha hb hc hc2
          go_wp2_with (refine wpList_store_sub rfl 55 _ _ rfl g 0 rfl 55 (snC St.zs) zl rfl HJ.out.1 (Nat.le_refl 8) sizeSnap zl_one ?_)
          refine bodyPost_ret (results_ct (P := Tryz.prog) (fn := Tryz.f227) rfl _ _ g 55 (snC St.zs) (0, 0) _ rfl (HJ.out.1.over rfl) Tryz.underlying55 rfl sizeSnap) rfl ?_
          exact ⟨by rw [E.out]; rfl, HJ.out.2.2.puts hg2 _ _⟩
      · have E : Hid (St.headP t.data.toList = none) := Lib.hid (by
          rw [hf3, if_neg]
          rintro ⟨h, _⟩
          apply hx0
          rw [Lib.size_eq, h]; rfl)
        have hne : x.toList.isEmpty = false := by
          rw [ByteArray.toList_eq, List.isEmpty_eq_false_iff]
          intro h
          apply hx0
          rw [Lib.size_eq, h]; rfl
        clear hfin hf3 ha hb hc
        go_wp2_with (refine wpList_store_sub rfl 55 _ _ rfl g 0 rfl 55 (snC St.zs) zl rfl HJ.out.1 (Nat.le_refl 8) sizeSnap zl_one ?_)
        refine bodyPost_ret (results_ct (P := Tryz.prog) (fn := Tryz.f227) rfl _ _ g 55 (snC St.zs) (0, 0) _ rfl (HJ.out.1.over rfl) Tryz.underlying55 rfl sizeSnap) rfl ?_
        exact ⟨by rw [E.out]; rfl, HJ.out.2.2.puts hg2 _ _⟩
end Go.Proofs.YtjhbpcecdhdnoaaGreatDoor
