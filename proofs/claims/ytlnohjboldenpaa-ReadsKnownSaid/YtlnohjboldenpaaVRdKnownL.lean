/-
  ReadsKnown walked.
-/
import Derived.Test.YtlnohjboldenpaaVRdZ
set_option linter.unusedSimpArgs false
set_option linter.unusedVariables false
namespace Go.Proofs.Ytlnohjboldenpaa
open Go.RowKit Go.Sort
theorem Lies.rd1 {w : World} {A : Option Addr} {d e : Rd.E} {es : List Rd.E} (h : Lies w A (rdc (d :: e :: es))) : ∃ b off, A = some ⟨b, off, none⟩ ∧ w.cell? ⟨b, off + 3, none⟩ = some (.int .u64 (e.id : Int)) ∧ w.cell? ⟨b, off + 3 + 1, none⟩ = some (.int .u64 (e.idx : Int)) ∧ w.cell? ⟨b, off + 3 + 2, none⟩ = some (.int .u64 (e.rnd : Int)) := by
  obtain ⟨b, off, h1, h2⟩ := h.rd 1 (by simp)
  rw [Nat.one_mul] at h2
  exact ⟨b, off, h1, h2.c0, h2.c1, h2.c2⟩
set_option maxRecDepth 100000 in
set_option maxHeartbeats 8000000 in
theorem readsKnown_walk (w : World) : Calls Try.prog 11 #[] w fun e w' => e = .returned (.bool true) ∧ Below w.heap.size w w' := by
  have HN : Hid (Calls Try.prog 42 #[] w fun e w' => ∃ p, e = .returned (.pointer (some ⟨p, 0, none⟩)) ∧ RZ w w' p ⟨[], []⟩ (fun _ => False)) := Lib.hid ((rz_new (Z := fun _ => False) (Below.refl _ _) (fun k h => h.elim)).mono fun e w' ⟨p, h1, h2, _⟩ => ⟨p, h1, h2⟩)
  have HA1 : Hid (∀ W p Z, RZ w W p ⟨[], []⟩ Z → Calls Try.prog 47 #[.pointer (some ⟨p, 0, none⟩), .int .u64 4] W fun e w' => e = .returned (.bool true) ∧ RZ w w' p ⟨[], [4]⟩ Z ∧ Zk Z W w') := Lib.hid fun W p Z h => rz_ask h 4 (by decide) (by decide)
  have HA2 : Hid (∀ W p Z, RZ w W p ⟨[], [4]⟩ Z → Calls Try.prog 47 #[.pointer (some ⟨p, 0, none⟩), .int .u64 9] W fun e w' => e = .returned (.bool true) ∧ RZ w w' p ⟨[], [4, 9]⟩ Z ∧ Zk Z W w') := Lib.hid fun W p Z h => rz_ask h 9 (by decide) (by decide)
  have HA3 : Hid (∀ W p Z, RZ w W p ⟨[], [4, 9]⟩ Z → Calls Try.prog 47 #[.pointer (some ⟨p, 0, none⟩), .int .u64 4] W fun e w' => e = .returned (.bool false) ∧ RZ w w' p ⟨[], [4, 9]⟩ Z ∧ Zk Z W w') := Lib.hid fun W p Z h => rz_ask h 4 (by decide) (by decide)
  have HL1 : Hid (∀ W p Z, RZ w W p ⟨[], [4, 9]⟩ Z → Calls Try.prog 45 #[.pointer (some ⟨p, 0, none⟩)] W fun e w' => e = .returned (.tuple #[.int .i64 0, .int .i64 2]) ∧ RZ w w' p ⟨[], [4, 9]⟩ Z ∧ Zk Z W w') := Lib.hid fun W p Z h => rz_len h
  have HB1 : Hid (∀ W p Z, RZ w W p ⟨[], [4, 9]⟩ Z → Calls Try.prog 48 #[.pointer (some ⟨p, 0, none⟩), .int .u64 7, .int .u64 2] W fun e w' => e = .returned (.int .i64 2) ∧ RZ w w' p ⟨[⟨4, 7, 2⟩, ⟨9, 7, 2⟩], []⟩ Z ∧ Zk Z W w') := Lib.hid fun W p Z h => rz_begin h 7 2 (by decide) (by decide) (by decide)
  have HA4 : Hid (∀ W p Z, RZ w W p ⟨[⟨4, 7, 2⟩, ⟨9, 7, 2⟩], []⟩ Z → Calls Try.prog 47 #[.pointer (some ⟨p, 0, none⟩), .int .u64 5] W fun e w' => e = .returned (.bool true) ∧ RZ w w' p ⟨[⟨4, 7, 2⟩, ⟨9, 7, 2⟩], [5]⟩ Z ∧ Zk Z W w') := Lib.hid fun W p Z h => rz_ask h 5 (by decide) (by decide)
  have HT1 : Hid (∀ W p Z, RZ w W p ⟨[⟨4, 7, 2⟩, ⟨9, 7, 2⟩], [5]⟩ Z → Calls Try.prog 49 #[.pointer (some ⟨p, 0, none⟩), .int .u64 1] W fun e w' => ∃ A c, e = .returned (.slice A 0 c) ∧ RZ w w' p ⟨[⟨4, 7, 2⟩, ⟨9, 7, 2⟩], [5]⟩ Z) := Lib.hid fun W p Z h => (rz_told h 1).mono fun e w' ⟨A, c, h1, h2, _, h3, h4⟩ => ⟨A, c, h1, h3.mono fun k hk => .inl hk⟩
  have HT2 : Hid (∀ W p Z, RZ w W p ⟨[⟨4, 7, 2⟩, ⟨9, 7, 2⟩], [5]⟩ Z → Calls Try.prog 49 #[.pointer (some ⟨p, 0, none⟩), .int .u64 2] W fun e w' => ∃ A c, e = .returned (.slice A 2 c) ∧ Sl w' 3 A 2 c (rdc [⟨4, 7, 2⟩, ⟨9, 7, 2⟩]) ∧ RZ w w' p ⟨[], [5]⟩ (Zb Z A)) := Lib.hid fun W p Z h => (rz_told h 2).mono fun e w' ⟨A, c, h1, h2, _, h3, h4⟩ => ⟨A, c, h1, h2, h3⟩
  have HL2 : Hid (∀ W p Z, RZ w W p ⟨[], [5]⟩ Z → Calls Try.prog 45 #[.pointer (some ⟨p, 0, none⟩)] W fun e w' => e = .returned (.tuple #[.int .i64 0, .int .i64 1]) ∧ RZ w w' p ⟨[], [5]⟩ Z ∧ Zk Z W w') := Lib.hid fun W p Z h => rz_len h
  have HB2 : Hid (∀ W p Z, RZ w W p ⟨[], [5]⟩ Z → Calls Try.prog 48 #[.pointer (some ⟨p, 0, none⟩), .int .u64 3, .int .u64 1] W fun e w' => e = .returned (.int .i64 1) ∧ RZ w w' p ⟨[⟨5, 3, 1⟩], []⟩ Z ∧ Zk Z W w') := Lib.hid fun W p Z h => rz_begin h 3 1 (by decide) (by decide) (by decide)
  have HT3 : Hid (∀ W p Z, RZ w W p ⟨[⟨5, 3, 1⟩], []⟩ Z → Calls Try.prog 49 #[.pointer (some ⟨p, 0, none⟩), .int .u64 1] W fun e w' => ∃ A c, e = .returned (.slice A 1 c) ∧ Sl w' 3 A 1 c (rdc [⟨5, 3, 1⟩]) ∧ RZ w w' p ⟨[], []⟩ (Zb Z A)) := Lib.hid fun W p Z h => (rz_told h 1).mono fun e w' ⟨A, c, h1, h2, _, h3, h4⟩ => ⟨A, c, h1, h2, h3⟩
  have HA5 : Hid (∀ W p Z, RZ w W p ⟨[], []⟩ Z → Calls Try.prog 47 #[.pointer (some ⟨p, 0, none⟩), .int .u64 6] W fun e w' => e = .returned (.bool true) ∧ RZ w w' p ⟨[], [6]⟩ Z ∧ Zk Z W w') := Lib.hid fun W p Z h => rz_ask h 6 (by decide) (by decide)
  have HD : Hid (∀ W p Z, RZ w W p ⟨[], [6]⟩ Z → Calls Try.prog 50 #[.pointer (some ⟨p, 0, none⟩)] W fun e w' => ∃ A c, e = .returned (.slice A 1 c) ∧ Sl w' 1 A 1 c (uc [6]) ∧ RZ w w' p ⟨[], []⟩ (Zb Z A) ∧ Zk Z W w') := Lib.hid fun W p Z h => (rz_drop h).mono fun e w' ⟨A, c, h1, h2, _, h3, h4⟩ => ⟨A, c, h1, h2, h3, h4⟩
  have HL3 : Hid (∀ W p Z, RZ w W p ⟨[], []⟩ Z → Calls Try.prog 45 #[.pointer (some ⟨p, 0, none⟩)] W fun e w' => e = .returned (.tuple #[.int .i64 0, .int .i64 0]) ∧ RZ w w' p ⟨[], []⟩ Z ∧ Zk Z W w') := Lib.hid fun W p Z h => rz_len h
  have HLn := Lib.hid (fun W => rlen_nil W)
  have HAn := Lib.hid (fun W => rask_nil W 1)
  have HBn := Lib.hid (fun W => rbegin_nil W 1 1)
  have HTn := Lib.hid (fun W => rtold_nil W 9)
  have HDn := Lib.hid (fun W => rdrop_nil W)
  have HAw := Lib.hid rdAwake_any
  have qe : ∀ W : World, (binOp .neq 97 (.agg #[.int .u64 9, .int .u64 7, .int .u64 2]) (.agg #[.int .u64 9, .int .u64 7, .int .u64 2])).run Try.prog W = .ok (.bool false) W := fun W => by kernel_rfl
  have qf : ∀ W : World, (binOp .eql 97 (.agg #[.int .u64 5, .int .u64 3, .int .u64 1]) (.agg #[.int .u64 5, .int .u64 3, .int .u64 1])).run Try.prog W = .ok (.bool true) W := fun W => by kernel_rfl
  go_enter Try.func11, Try.ntmps11
  go_upto_region 11 with (first
    | (go_at_call 45; refine (HL2.out w9 _ _ i9).mono ?_; rintro e w10 ⟨rfl, i10, k10⟩; replace e0 := k10.at_ e0 (Or.inr rfl); replace e1 := k10.at_ e1 (Or.inr rfl); replace e2 := k10.at_ e2 (Or.inr rfl))
    | (go_at_call 49; refine (HT2.out w8 _ _ i8).mono ?_; rintro e w9 ⟨A9, c9, rfl, l9, i9⟩; obtain ⟨b9, o9, rfl, e0, e1, e2⟩ := l9.liesV.rd1; clear l9)
    | (go_at_call 49; refine (HT1.out w7 _ _ i7).mono ?_; rintro e w8 ⟨A8, c8, rfl, i8⟩)
    | (go_at_call 47; refine (HA4.out w6 _ _ i6).mono ?_; rintro e w7 ⟨rfl, i7, _⟩)
    | (go_at_call 48; refine (HB1.out w5 _ _ i5).mono ?_; rintro e w6 ⟨rfl, i6, _⟩)
    | (go_at_call 45; refine (HL1.out w4 _ _ i4).mono ?_; rintro e w5 ⟨rfl, i5, _⟩)
    | (go_at_call 47; refine (HA3.out w3 _ _ i3).mono ?_; rintro e w4 ⟨rfl, i4, _⟩)
    | (go_at_call 47; refine (HA2.out w2 _ _ i2).mono ?_; rintro e w3 ⟨rfl, i3, _⟩)
    | (go_at_call 47; refine (HA1.out w1 _ _ i1).mono ?_; rintro e w2 ⟨rfl, i2, _⟩)
    | (go_at_call 42; refine HN.out.mono ?_; rintro e w1 ⟨p, rfl, i1⟩))
  clear HN HA1 HA2 HA3 HL1 HB1 HA4 HT1 HT2 HL2 i1 i2 i3 i4 i5 i6 i7 i8 i9 k10
  go_wp2_with (first
    | (go_at_call 41; refine (HAw.out w20).mono ?_; rintro e w21 ⟨rfl, b21⟩)
    | (go_at_call 50; refine (HDn.out w19).mono ?_; rintro e w20 ⟨rfl, b20⟩)
    | (go_at_call 49; refine (HTn.out w18).mono ?_; rintro e w19 ⟨rfl, b19⟩)
    | (go_at_call 48; refine (HBn.out w17).mono ?_; rintro e w18 ⟨rfl, b18⟩)
    | (go_at_call 47; refine (HAn.out w16).mono ?_; rintro e w17 ⟨rfl, b17⟩)
    | (go_at_call 45; refine (HLn.out w15).mono ?_; rintro e w16 ⟨rfl, b16⟩; replace f0 := later b16 f0; replace f1 := later b16 f1; replace f2 := later b16 f2; replace g0 := later b16 g0)
    | (go_at_call 45; refine (HL3.out w14 _ _ i14).mono ?_; rintro e w15 ⟨rfl, i15, k15⟩; replace f0 := k15.at_ f0 (Or.inl (Or.inr rfl)); replace f1 := k15.at_ f1 (Or.inl (Or.inr rfl)); replace f2 := k15.at_ f2 (Or.inl (Or.inr rfl)); replace g0 := k15.at_ g0 (Or.inr rfl))
    | (go_at_call 50; refine (HD.out w13 _ _ i13).mono ?_; rintro e w14 ⟨A14, c14, rfl, l14, i14, k14⟩; obtain ⟨b14, o14, rfl, g0⟩ := l14.liesV.u 0 (by decide); rw [Nat.add_zero] at g0; replace f0 := k14.at_ f0 (Or.inr rfl); replace f1 := k14.at_ f1 (Or.inr rfl); replace f2 := k14.at_ f2 (Or.inr rfl); clear l14)
    | (go_at_call 47; refine (HA5.out w12 _ _ i12).mono ?_; rintro e w13 ⟨rfl, i13, k13⟩; replace f0 := k13.at_ f0 (Or.inr rfl); replace f1 := k13.at_ f1 (Or.inr rfl); replace f2 := k13.at_ f2 (Or.inr rfl))
    | (go_at_call 49; refine (HT3.out w11 _ _ i11).mono ?_; rintro e w12 ⟨A12, c12, rfl, l12, i12⟩; obtain ⟨b12, o12, rfl, f0, f1, f2⟩ := l12.liesV.rd0; clear l12)
    | (go_at_call 48; refine (HB2.out w10 _ _ i10).mono ?_; rintro e w11 ⟨rfl, i11, _⟩))
  go_ret
  exact ⟨rfl, bnext (bnext (bnext (bnext (bnext (bnext i15.bl b16) b17) b18) b19) b20) b21⟩
end Go.Proofs.Ytlnohjboldenpaa
