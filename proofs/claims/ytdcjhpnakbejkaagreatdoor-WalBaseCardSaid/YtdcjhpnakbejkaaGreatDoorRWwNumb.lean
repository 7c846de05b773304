/-
  wal.Number walked, over the library's numerals.
-/
import Derived.Test.YtdcjhpnakbejkaaGreatDoorRWwN
import Derived.Test.YtdcjhpnakbejkaaGreatDoorRWrN
import Derived.Lib.ParseIntBCases
set_option linter.unusedSimpArgs false
set_option linter.unusedVariables false
namespace Go.Proofs.YtdcjhpnakbejkaaGreatDoor
open Go.RowKit
/-- The two errors can be read. -/
def EnvE (w : World) : Prop := ∃ t1 p1 t2 p2, w.var? Tryz.prog "strconv.ErrSyntax" = some #[.iface t1 p1] ∧ w.var? Tryz.prog "strconv.ErrRange" = some #[.iface t2 p2]
theorem gSyn : Tryz.prog.globalNamed "strconv.ErrSyntax" = some 0 := by kernel_rfl
theorem gRng : Tryz.prog.globalNamed "strconv.ErrRange" = some 1 := by kernel_rfl
theorem EnvE.below {w w' : World} {B : Nat} (h : EnvE w) (hb : Below B w w') (hB : w.heap.size ≤ B) : EnvE w' := by
  obtain ⟨t1, p1, t2, p2, h1, h2⟩ := h
  exact ⟨t1, p1, t2, p2, Joins.var_stays gSyn h1 hb hB, Joins.var_stays gRng h2 hb hB⟩
theorem parse_digits : ∀ (l : List UInt8) (acc : Nat), (∀ c ∈ l, 48 ≤ c.toNat ∧ c.toNat ≤ 57) → l.foldl (fun v c => 10 * v + (c.toNat - 48)) acc < Nm.top → Lib.parseUintM 18446744073709551615 acc l = .ok (l.foldl (fun v c => 10 * v + (c.toNat - 48)) acc)
  | [], _, _, _ => rfl
  | c :: r, acc, hc, hv => by
    have h1 := hc c (List.mem_cons_self ..)
    have hmono : ∀ (l : List UInt8) (a : Nat), a ≤ l.foldl (fun v c => 10 * v + (c.toNat - 48)) a := by
      intro l
      induction l with
      | nil => intro a; exact Nat.le_refl _
      | cons x l ih => intro a; rw [List.foldl_cons]; exact Nat.le_trans (by omega) (ih _)
    rw [List.foldl_cons] at hv ⊢
    have h2 := hmono r (10 * acc + (c.toNat - 48))
    unfold Lib.parseUintM
    unfold Nm.top at hv
    rw [if_pos h1, if_neg (by omega), if_neg (by omega), Nat.mul_comm acc 10]
    exact parse_digits r _ (fun x hx => hc x (List.mem_cons_of_mem _ hx)) (by unfold Nm.top; exact hv)
theorem parse_wd {n : Nat} (h : n < Nm.top) : Lib.parseUintB 64 (Wl.wd (Wl.w10 n) n) = .ok n := by
  unfold Lib.parseUintB
  have hl := Wl.wd_length (Wl.w10 n) n
  have h8 := (Wl.w10_le h).1
  rw [if_neg (by intro e; rw [e] at hl; simp at hl; omega)]
  have hv := Wl.w10_val h
  have := parse_digits (Wl.wd (Wl.w10 n) n) 0 (Wl.wd_digs _ _) (by unfold Wl.v10 at hv; rw [hv]; exact h)
  unfold Wl.v10 at hv
  rw [hv] at this
  exact this
theorem trim_name {n : Nat} : Lib.trimPrefix (Wl.nameL n) [115, 101, 103, 46] = Wl.wd (Wl.w10 n) n := by
  unfold Lib.trimPrefix Lib.hasPrefix Wl.nameL
  simp [List.isPrefixOf]
/-- What Number hands back: the number whose name it is, if it is one's; else 0. -/
def RetWN (s : ByteArray) (w : World) (e : Ending) (w' : World) : Prop :=
  ∃ (v : Nat) (ok : Bool), e = .returned (.tuple #[.int .u64 (v : Nat), .bool ok]) ∧ v < Nm.top ∧ (ok = true → Wl.name v = s) ∧ (ok = false → v = 0 ∧ ∀ n, n < Nm.top → Wl.name n ≠ s) ∧ Below w.heap.size w w'
set_option maxRecDepth 100000 in
set_option maxHeartbeats 1000000 in
theorem wnumber_any (s : ByteArray) (w : World) (hE : EnvT w) (hF : EnvE w) (hs : s.size ≤ 1000000000) : Calls Tryz.prog 22 #[.string s] w (RetWN s w) := by
  have HT : Hid (∀ W, Calls Tryz.prog 76 #[.string s, .string ⟨#[115, 101, 103, 46]⟩] W fun e w' => e = .returned (.string ⟨(Lib.trimPrefix s.data.toList [115, 101, 103, 46]).toArray⟩) ∧ w' = W) := Lib.hid fun W => Any.strings_TrimPrefix ws_lays101 s ⟨#[115, 101, 103, 46]⟩ W
  have hno : ∀ u, Lib.parseUintB 64 (Lib.trimPrefix s.data.toList [115, 101, 103, 46]) = u → (∀ v, u = .ok v → v < Nm.top ∧ (Wl.name v ≠ s → ∀ n, n < Nm.top → Wl.name n ≠ s)) ∧ ((∀ v, u ≠ .ok v) → ∀ n, n < Nm.top → Wl.name n ≠ s) := fun u hu => by
    have key : ∀ n, n < Nm.top → Wl.name n = s → u = .ok n := fun n hn he => by
      rw [← hu, ← name_data he, trim_name, parse_wd hn]
    refine ⟨fun v hv => ⟨?_, fun hne n hn he => ?_⟩, fun hv n hn he => hv n (key n hn he)⟩
    · rw [hv] at hu
      have := Lib.parseUintB_le hu
      unfold Nm.top; omega
    · have h1 := key n hn he
      rw [hv] at h1
      injection h1 with h1
      subst h1
      exact hne he
  have hlen : (Lib.trimPrefix s.data.toList [115, 101, 103, 46]).length ≤ s.size := by
    rw [Lib.size_eq]
    unfold Lib.trimPrefix
    split
    · rw [List.length_drop]; omega
    · exact Nat.le_refl _
  obtain ⟨x, hx⟩ : ∃ x : ByteArray, x = ⟨(Lib.trimPrefix s.data.toList [115, 101, 103, 46]).toArray⟩ := ⟨_, rfl⟩
  have hxd : Lib.trimPrefix s.data.toList [115, 101, 103, 46] = x.data.toList := by rw [hx]
  have hxz : x.size ≤ 1000000000 := by rw [Lib.size_eq, ← hxd]; omega
  rw [← hx] at HT
  rw [hxd] at hno
  clear hx hxd hlen
  have HNm := Lib.hid (fun n (hn : n < Nm.top) W (hb : Below w.heap.size w W) => nameSays n W hn (hE.below hb (Nat.le_refl _)))
  rcases hu : Lib.parseUintB 64 x.data.toList with u | _ | _
  · obtain ⟨h1, h2⟩ := (hno _ hu).1 u rfl
    have HP : Hid (Calls Tryz.prog 75 #[.string x, .int .i64 10, .int .i64 64] w fun e w' => e = .returned (.tuple #[.int .u64 (u : Int), .nilIface]) ∧ Below w.heap.size w w') := Lib.hid ((Any.strconv_ParseUint_10_at64_ok ws_laysPu14 x (by omega) u hu w).mono fun e w' ⟨h3, h4⟩ => ⟨h3, by rcases h4 with rfl | rfl; exact Below.refl _ _; exact Lib.bytesWorld_below _ _ _⟩)
    have HN := Lib.hid (fun W hb => HNm.out u h1 W hb)
    have Hno := Lib.hid h2
    have Hlt := Lib.hid h1
    clear hno hu h1 h2 hE hF HNm
    by_cases he : Wl.name u = s
    · have b1 : ((Wl.name u).toList == s.toList) = true := by rw [he]; simp
      have He := Lib.hid he
      have b2 : ((Wl.name u).toList != s.toList) = false := by rw [he]; simp
      clear he
      go_enter Tryz.func22, Tryz.ntmps22
      go_wp2_with fail
      refine (HT.out _).mono ?_
      rintro e w1 ⟨rfl, rfl⟩
      go_wp2_with fail
      refine HP.out.mono ?_
      rintro e w2 ⟨rfl, hb2⟩
      have H2 := Lib.hid hb2
      clear hb2
      go_wp2_with fail
      refine (HN.out _ H2.out).mono ?_
      rintro e w3 ⟨rfl, hb3⟩
      go_wp2_with fail
      go_ret2
      exact ⟨u, true, rfl, Hlt.out, fun _ => He.out, fun h => Bool.noConfusion h, bnext H2.out hb3⟩
    · have b1 : ((Wl.name u).toList == s.toList) = false := by
        rw [wstr_eqb]; simpa using he
      have b2 : ((Wl.name u).toList != s.toList) = true := by unfold bne; rw [b1]; rfl
      have He := Lib.hid he
      clear he
      go_enter Tryz.func22, Tryz.ntmps22
      go_wp2_with fail
      refine (HT.out _).mono ?_
      rintro e w1 ⟨rfl, rfl⟩
      go_wp2_with fail
      refine HP.out.mono ?_
      rintro e w2 ⟨rfl, hb2⟩
      have H2 := Lib.hid hb2
      clear hb2
      go_wp2_with fail
      refine (HN.out _ H2.out).mono ?_
      rintro e w3 ⟨rfl, hb3⟩
      go_wp2_with fail
      go_ret2
      exact ⟨0, false, rfl, by decide, fun h => Bool.noConfusion h, fun _ => ⟨rfl, Hno.out He.out⟩, bnext H2.out hb3⟩
  · have h2 := (hno _ hu).2 (fun v h => by cases h)
    obtain ⟨t1, p1, t2, p2, hv1, hv2⟩ := hF
    have HP : Hid (Calls Tryz.prog 75 #[.string x, .int .i64 10, .int .i64 64] w fun e w' => ∃ N, e = .returned (.tuple #[.int .u64 0, .iface 255 (.pointer (some ⟨N, 0, none⟩))]) ∧ Below w.heap.size w w') := Lib.hid ((Any.strconv_ParseUint_10_at64_syntax ws_laysPu14 x (by omega) hu (.iface t1 p1) w (show w.cell? ⟨0, 0, none⟩ = _ by have h0 := World.var?_cell gSyn hv1 0; simpa using h0) (.inr ⟨_, _, rfl⟩)).mono fun e w' ⟨N, h3, _, _, h4⟩ => ⟨N, h3, h4⟩)
    have Hno := Lib.hid h2
    clear hno hu h2 hE HNm hv1 hv2
    go_enter Tryz.func22, Tryz.ntmps22
    go_wp2_with fail
    refine (HT.out _).mono ?_
    rintro e w1 ⟨rfl, rfl⟩
    go_wp2_with fail
    refine HP.out.mono ?_
    rintro e w2 ⟨N, rfl, hb2⟩
    have H2 := Lib.hid hb2
    clear hb2
    go_wp2_with fail
    go_ret2
    exact ⟨0, false, rfl, by decide, fun h => Bool.noConfusion h, fun _ => ⟨rfl, Hno.out⟩, H2.out⟩
  · have h2 := (hno _ hu).2 (fun v h => by cases h)
    obtain ⟨t1, p1, t2, p2, hv1, hv2⟩ := hF
    have HP : Hid (Calls Tryz.prog 75 #[.string x, .int .i64 10, .int .i64 64] w fun e w' => ∃ N, e = .returned (.tuple #[.int .u64 18446744073709551615, .iface 255 (.pointer (some ⟨N, 0, none⟩))]) ∧ Below w.heap.size w w') := Lib.hid ((Any.strconv_ParseUint_10_at64_range ws_laysPu14 x (by omega) hu (.iface t2 p2) w (show w.cell? ⟨1, 0, none⟩ = _ by have h0 := World.var?_cell gRng hv2 0; simpa using h0) (.inr ⟨_, _, rfl⟩)).mono fun e w' ⟨N, h3, _, _, h4⟩ => ⟨N, h3, h4⟩)
    have Hno := Lib.hid h2
    clear hno hu h2 hE HNm hv1 hv2
    go_enter Tryz.func22, Tryz.ntmps22
    go_wp2_with fail
    refine (HT.out _).mono ?_
    rintro e w1 ⟨rfl, rfl⟩
    go_wp2_with fail
    refine HP.out.mono ?_
    rintro e w2 ⟨N, rfl, hb2⟩
    have H2 := Lib.hid hb2
    clear hb2
    go_wp2_with fail
    go_ret2
    exact ⟨0, false, rfl, by decide, fun h => Bool.noConfusion h, fun _ => ⟨rfl, Hno.out⟩, H2.out⟩
end Go.Proofs.YtdcjhpnakbejkaaGreatDoor
