/-
  Logs: Members, MembersAt, Cut walked.
-/
import Derived.Test.YtlnohjboldenpaaLLgMem
import Derived.Test.YtlnohjboldenpaaLLgDel
set_option linter.unusedSimpArgs false
set_option linter.unusedVariables false
namespace Go.Proofs.Ytlnohjboldenpaa
open Go.RowKit Go.Sort
section
variable {p : Nat} {S : Nat → Prop} {l : Lg.L}
set_option maxRecDepth 100000 in
theorem members_any (W : World) (h : LgAt W p S l) : Calls Try.prog 63 #[.pointer (some ⟨p, 0, none⟩)] W (RetL (.tuple #[.int .u8 ((Lg.memA l l.es.length).1 : Int), .int .u64 ((Lg.memA l l.es.length).2 : Int)]) W) := by
  have HM := Lib.hid (isMade_any W h)
  have HA := Lib.hid (membersAfter_any W h l.es.length (Nat.le_refl _))
  obtain ⟨A, c, h1, _⟩ := h.own
  obtain ⟨c0, c1, c2, c3, c4⟩ := lg_cells h1
  clear h h1
  go_enter Try.func63, Try.ntmps63
  go_wp2_with (first | (go_at_call 71; refine HM.out.mono ?_; rintro r w' ⟨rfl, rfl⟩) | (go_at_call 90; refine HA.out.mono ?_; rintro r w2 ⟨rfl, hb2⟩))
  go_ret2
  exact ⟨rfl, hb2⟩
set_option maxRecDepth 100000 in
theorem membersAt_any (W : World) (h : LgAt W p S l) (i : Nat) (hi : i < Nm.top) : Calls Try.prog 67 #[.pointer (some ⟨p, 0, none⟩), .int .u64 (i : Int)] W (RetL (.int .u8 ((Lg.memA l (Lg.upTo l i)).1 : Int)) W) := by
  have HM := Lib.hid (isMade_any W h)
  have HU := Lib.hid (upTo_any W h i hi)
  have hul : Lg.upTo l i ≤ l.es.length := by unfold Lg.upTo; omega
  have HA : Hid (∀ W', Below W.heap.size W W' → Calls Try.prog 90 #[.pointer (some ⟨p, 0, none⟩), .int .i64 (Lg.upTo l i : Nat)] W' (RetL (.tuple #[.int .u8 ((Lg.memA l (Lg.upTo l i)).1 : Int), .int .u64 ((Lg.memA l (Lg.upTo l i)).2 : Int)]) W')) := Lib.hid fun W' hb => membersAfter_any W' (h.bel hb) _ hul
  obtain ⟨u, hu⟩ : ∃ u, u = Lg.upTo l i := ⟨_, rfl⟩
  rw [← hu] at HU HA ⊢
  clear h hul hu
  go_enter Try.func67, Try.ntmps67
  go_wp2_with (first | (go_at_call 71; refine HM.out.mono ?_; rintro r w' ⟨rfl, rfl⟩) | (go_at_call 91; refine HU.out.mono ?_; rintro r w2 ⟨rfl, hb2⟩) | (go_at_call 90; refine (HA.out _ hb2).mono ?_; rintro r w3 ⟨rfl, hb3⟩))
  go_ret
  exact ⟨rfl, bnext hb2 hb3⟩
theorem mb_lt (e : En.E) : Lg.mb e < 256 := by
  unfold Lg.mb
  exact (e.body.data.toList.headD 0).toNat_lt
theorem memA_lt (l : Lg.L) (h : l.mem < 256) (c : Nat) : (Lg.memA l c).1 < 256 := by
  unfold Lg.memA
  split
  · exact mb_lt _
  · exact h
theorem term_lt (l : Lg.L) (h : LgFit l) {i t : Nat} (ht : Lg.term l i = some t) : t < Nm.top := by
  unfold Lg.term at ht
  split at ht
  · injection ht with ht; rw [← ht]; exact h.trm
  · split at ht
    · cases ht
    · split at ht
      · rename_i e he
        split at ht
        · injection ht with ht; rw [← ht]; exact (h.es e (List.mem_of_getElem? he)).1.trm
        · cases ht
      · cases ht
set_option maxRecDepth 100000 in
set_option maxHeartbeats 1000000 in
theorem cut_any (W : World) (h : LgAt W p S l) (i : Nat) (hi : i < Nm.top) :
    Calls Try.prog 55 #[.pointer (some ⟨p, 0, none⟩), .int .u64 (i : Int)] W fun e w' => e = .returned (.int .i64 ((Lg.cut l i).1 : Nat)) ∧ LgAt w' p S (Lg.cut l i).2 ∧ Ks S W w' := by
  have hlf : ∀ e ∈ l.es, e.idx < Nm.top := fun e he => (h.fit.es e he).1.idx
  have HM := Lib.hid (isMade_any W h)
  have HT := Lib.hid (term_any W h i hi hlf)
  have H := Lib.hid h
  have HC : Hid (Lg.cut l i = if i < l.idx then (10, l) else match Lg.term l i with | none => (4, l) | some t => (0, Lg.bgn l i t (Lg.memA l (Lg.upTo l i)).1)) := Lib.hid rfl
  have hb1 := h.fit.idx
  obtain ⟨A, c, h1, _⟩ := h.own
  obtain ⟨c0, c1, c2, c3, c4⟩ := lg_cells h1
  unfold Nm.top at hb1
  clear h1 c0 c2 c3 c4
  go_enter Try.func55, Try.ntmps55
  by_cases hlt : i < l.idx
  · have q1 : decide (i < l.idx) = true := decide_eq_true hlt
    have q2 : ((i : Int) < (l.idx : Int)) = True := by simp; omega
    have E : Hid (Lg.cut l i = (10, l)) := Lib.hid (by rw [HC.out, if_pos hlt])
    clear HC h HT hlt
    go_wp2_with (go_at_call 71; refine HM.out.mono ?_; rintro r w' ⟨rfl, rfl⟩)
    go_ret
    rw [E.out]
    exact ⟨rfl, H.out, Ks.refl _ _⟩
  have q1 : decide (i < l.idx) = false := decide_eq_false hlt
  have q2 : ((i : Int) < (l.idx : Int)) = False := by simp; omega
  rw [if_neg hlt] at HC
  cases ht : Lg.term l i with
  | none =>
    have E : Hid (Lg.cut l i = (4, l)) := Lib.hid (by rw [HC.out, ht])
    rw [ht] at HT
    have HT2 : Hid (Calls Try.prog 65 #[.pointer (some ⟨p, 0, none⟩), .int .u64 (i : Int)] W (RetL (.tuple #[.int .u64 0, .bool false]) W)) := HT
    clear HC h HT hlt ht
    go_wp2_with (first | (go_at_call 71; refine HM.out.mono ?_; rintro r w' ⟨rfl, rfl⟩) | (go_at_call 65; refine HT2.out.mono ?_; rintro r w2 ⟨rfl, hb2⟩))
    go_ret
    rw [E.out]
    exact ⟨rfl, H.out.bel hb2, Ks.bel hb2⟩
  | some t =>
    have E : Hid (Lg.cut l i = (0, Lg.bgn l i t (Lg.memA l (Lg.upTo l i)).1)) := Lib.hid (by rw [HC.out, ht])
    have htt := term_lt l h.fit ht
    rw [ht] at HT
    have HT2 : Hid (Calls Try.prog 65 #[.pointer (some ⟨p, 0, none⟩), .int .u64 (i : Int)] W (RetL (.tuple #[.int .u64 (t : Int), .bool true]) W)) := HT
    have HMA : Hid (∀ W', Below W.heap.size W W' → Calls Try.prog 67 #[.pointer (some ⟨p, 0, none⟩), .int .u64 (i : Int)] W' (RetL (.int .u8 ((Lg.memA l (Lg.upTo l i)).1 : Int)) W')) := Lib.hid fun W' hb => membersAt_any W' (h.bel hb) i hi
    have hml := memA_lt l h.fit.mem (Lg.upTo l i)
    obtain ⟨m, hm⟩ : ∃ m, m = (Lg.memA l (Lg.upTo l i)).1 := ⟨_, rfl⟩
    rw [← hm] at HMA E hml
    have HBg : Hid (∀ w2, Below W.heap.size W w2 → Calls Try.prog 88 #[.pointer (some ⟨p, 0, none⟩), .int .u64 (i : Int), .int .u64 (t : Int), .int .u8 (m : Int)] w2 fun e w' => e = .returned (.tuple #[]) ∧ LgAt w' p S (Lg.bgn l i t m) ∧ Ks S W w') := Lib.hid fun w2 hb2 => (begin_any w2 (h.bel hb2) i t m hi htt hml).mono fun e w' ⟨h1, h2, h3⟩ => ⟨h1, h2, (Ks.bel (S := S) hb2).trans h3 (fun k hk => .inl hk)⟩
    clear HC h HT hlt ht hm hml htt
    go_wp2_with (first | (go_at_call 71; refine HM.out.mono ?_; rintro r w' ⟨rfl, rfl⟩) | (go_at_call 65; refine HT2.out.mono ?_; rintro r w2 ⟨rfl, hb2⟩) | (go_at_call 67; refine (HMA.out _ hb2).mono ?_; rintro r w3 ⟨rfl, hb3⟩) | (go_at_call 88; refine (HBg.out _ (bnext hb2 hb3)).mono ?_; rintro r w4 ⟨rfl, h4, hk4⟩))
    go_ret
    rw [E.out]
    exact ⟨rfl, h4, hk4⟩
end
end Go.Proofs.Ytlnohjboldenpaa
