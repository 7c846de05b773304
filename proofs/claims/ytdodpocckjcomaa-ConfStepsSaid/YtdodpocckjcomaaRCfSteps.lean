/-
  What is more or less by one is near, and goes back; all members are a majority; a vote more never loses one: walked.
-/
import Derived.Test.YtdodpocckjcomaaRCfLaws
set_option linter.unusedSimpArgs false
set_option linter.unusedVariables false
namespace Go.Proofs.Ytdodpocckjcomaa
open Go.RowKit
theorem of_one (n : Nat) (hn : n < 256) (w : World) : Calls Try.prog 11 #[.slice (some ⟨w.heap.size, 0, none⟩) 1 1] (w.alloc (.cells #[.int .u8 (n : Int)] 5)) fun e w' => e = .returned (.int .u8 (Cf.bit n : Int)) ∧ w.alloc (.cells #[.int .u8 (n : Int)] 5) = w' := by
  have := of_any [n] (by simpa using hn) (some ⟨w.heap.size, 0, none⟩) 1 _ (Lies.new w (nc [n]) 5) (by simp)
  rw [show Cf.of [n] = Cf.bit n by unfold Cf.of; simp] at this
  exact this
/-- What is made of a membership and a node, and back. -/
structure Step (m n : Nat) (p q : Nat × Nat) (h : Bool) : Prop where
  near : Cf.near m p.1 = true
  has : Cf.has p.1 n = h
  lt : p.1 < 256
  back : q = (m &&& 31, 0)
set_option maxRecDepth 100000 in
set_option maxHeartbeats 4000000 in
theorem confSteps_walk (a0 : Int) (w0 : (Lit.int .u8 a0).wf = true) (a1 : Int) (w1 : (Lit.int .u8 a1).wf = true) (a2 : Int) (w2 : (Lit.int .u8 a2).wf = true) (w : World) :
    Calls Try.prog 6 #[.int .u8 a0, .int .u8 a1, .int .u8 a2] w fun e w' => e = .returned (.bool true) ∧ Below w.heap.size w w' := by
  obtain ⟨m, rfl, hm⟩ := c_u8 w0
  obtain ⟨v, rfl, hv⟩ := c_u8 w1
  obtain ⟨n, rfl, hn⟩ := c_u8 w2
  clear w0 w1 w2
  have HL := Lib.hid (fun w => list_any10 m hm w)
  have HO := Lib.hid (fun A cap w (hl : Lies w A (nc (Cf.mem m))) => of_any (Cf.mem m) (Cf.mem_lt m) A cap w hl (by have := Cf.mem_len m; omega))
  have hlen := Cf.mem_len m
  rw [Cf.of_mem ⟨m, hm⟩] at HO
  have hown : m &&& 31 < 256 := Nat.lt_trans (Cf.and31_lt m) (by decide)
  have HAdd := Lib.hid (fun w => add_any10 m n hm hn w)
  have HOut := Lib.hid (fun w => out_any10 m n hm hn w)
  have HSa : Hid ((Cf.add m n).2 = 0 → Step m n (Cf.add m n) (Cf.out (Cf.add m n).1 n) true) := Lib.hid fun h => by
    have := Cf.steps_add ⟨m, hm⟩ ⟨n, Cf.add_no h⟩ h
    exact ⟨this.1, this.2.1, this.2.2.1, this.2.2.2⟩
  have HSo : Hid ((Cf.out m n).2 = 0 → Step m n (Cf.out m n) (Cf.add (Cf.out m n).1 n) false) := Lib.hid fun h => by
    have := Cf.steps_out ⟨m, hm⟩ ⟨n, Cf.out_no h⟩ h
    exact ⟨this.1, this.2.1, this.2.2.1, this.2.2.2⟩
  have K3 : ((Cf.add m n).2 = 1 ∧ (Cf.out m n).2 = 1) ∨ ((Cf.add m n).2 = 5 ∧ (Cf.out m n).2 = 0) ∨ ((Cf.add m n).2 = 0 ∧ (Cf.out m n).2 = 4) := by
    unfold Cf.add Cf.out
    by_cases h : 1 ≤ n ∧ n ≤ 5
    · rw [if_pos h, if_pos h]
      cases Cf.has m n
      · exact .inr (.inr ⟨rfl, rfl⟩)
      · exact .inr (.inl ⟨rfl, rfl⟩)
    · rw [if_neg h, if_neg h]; exact .inl ⟨rfl, rfl⟩
  have HSa2 := Lib.hid (fun (h : (Cf.add m n).1 < 256) w => out_any10 (Cf.add m n).1 n h hn w)
  have HSo2 := Lib.hid (fun (h : (Cf.out m n).1 < 256) w => add_any10 (Cf.out m n).1 n h hn w)
  have HNa := Lib.hid (fun (h : (Cf.add m n).1 < 256) w => near_any m (Cf.add m n).1 hm h w)
  have HNo := Lib.hid (fun (h : (Cf.out m n).1 < 256) w => near_any m (Cf.out m n).1 hm h w)
  have HHa := Lib.hid (fun (h : (Cf.add m n).1 < 256) w => has_any (Cf.add m n).1 n h hn w)
  have HHo := Lib.hid (fun (h : (Cf.out m n).1 < 256) w => has_any (Cf.out m n).1 n h hn w)
  have hvb : v ||| Cf.bit n < 256 := Nat.or_lt_two_pow (n := 8) hv (Nat.lt_trans (Cf.bit_lt n) (by decide))
  have e2 : bits .or .u8 (v : Int) (Cf.bit n : Int) = ((v ||| Cf.bit n : Nat) : Int) := u8_or_nat _ _ hv (Nat.lt_trans (Cf.bit_lt n) (by decide))
  have HOn := Lib.hid (fun w => of_one n hn w)
  have HWv := Lib.hid (fun w => won_any m v hm hv w)
  have HWb := Lib.hid (fun w => won_any m (v ||| Cf.bit n) hm hvb w)
  have HWm := Lib.hid (fun w => won_any m m hm hm w)
  have HW0 := Lib.hid (fun w => won_any m 0 hm (by decide) w)
  have HWo := Lib.hid (fun w => won_any (m &&& 31) v hown hv w)
  rw [Cf.won_31] at HWo
  rw [Cf.won_zero] at HW0
  rw [Cf.won_all] at HWm
  have HMo : Hid (Cf.won m v = true → Cf.won m (v ||| Cf.bit n) = true) := Lib.hid (Cf.won_more _)
  have HW := Lib.hid (fun w => cawake_any w)
  obtain ⟨l, hl⟩ : ∃ l, l = Cf.mem m := ⟨_, rfl⟩
  rw [← hl] at HL HO hlen
  obtain ⟨o, ho⟩ : ∃ o, o = m &&& 31 := ⟨_, rfl⟩
  have HSa' : Hid ((Cf.add m n).2 = 0 → Step m n (Cf.add m n) (Cf.out (Cf.add m n).1 n) true ∧ Cf.out (Cf.add m n).1 n = (o, 0)) := Lib.hid fun h => ⟨HSa.out h, by rw [ho]; exact (HSa.out h).back⟩
  have HSo' : Hid ((Cf.out m n).2 = 0 → Step m n (Cf.out m n) (Cf.add (Cf.out m n).1 n) false ∧ Cf.add (Cf.out m n).1 n = (o, 0)) := Lib.hid fun h => ⟨HSo.out h, by rw [ho]; exact (HSo.out h).back⟩
  rw [← ho] at HO HWo HWm hown
  obtain ⟨b, hb⟩ : ∃ b, b = Cf.bit n := ⟨_, rfl⟩
  rw [← hb] at HOn HWb HMo e2
  obtain ⟨vb, hvbe⟩ : ∃ vb, vb = v ||| b := ⟨_, rfl⟩
  rw [← hvbe] at HWb HMo e2
  obtain ⟨pa, hpa⟩ : ∃ pa, pa = Cf.add m n := ⟨_, rfl⟩
  obtain ⟨po, hpo⟩ : ∃ po, po = Cf.out m n := ⟨_, rfl⟩
  rw [← hpa] at HAdd HSa' HSa2 HNa HHa K3
  rw [← hpo] at HOut HSo' HSo2 HNo HHo K3
  obtain ⟨xa, ea⟩ := pa
  obtain ⟨xo, eo⟩ := po
  clear HSa HSo hvb hb hvbe hpa hpo hl ho
  have PA : Hid (ea = 0 → Step m n (xa, 0) (o, 0) true ∧ (∀ w, Calls Try.prog 17 #[.int .u8 (xa : Int), .int .u8 (n : Int)] w fun e w' => e = .returned (ax (o, 0)) ∧ w = w') ∧ (∀ w, Calls Try.prog 23 #[.int .u8 (m : Int), .int .u8 (xa : Int)] w fun e w' => e = .returned (.bool true) ∧ w = w') ∧ (∀ w, Calls Try.prog 13 #[.int .u8 (xa : Int), .int .u8 (n : Int)] w fun e w' => e = .returned (.bool true) ∧ w = w')) := Lib.hid fun h => by
    subst h
    obtain ⟨h1, h2⟩ := HSa'.out rfl
    have h3 := HSa2.out h1.lt
    have h4 := HNa.out h1.lt
    have h5 := HHa.out h1.lt
    rw [h2] at h3 h1
    rw [h1.near] at h4
    rw [h1.has] at h5
    exact ⟨h1, h3, h4, h5⟩
  have PO : Hid (eo = 0 → Step m n (xo, 0) (o, 0) false ∧ (∀ w, Calls Try.prog 15 #[.int .u8 (xo : Int), .int .u8 (n : Int)] w fun e w' => e = .returned (ax (o, 0)) ∧ w = w') ∧ (∀ w, Calls Try.prog 23 #[.int .u8 (m : Int), .int .u8 (xo : Int)] w fun e w' => e = .returned (.bool true) ∧ w = w') ∧ (∀ w, Calls Try.prog 13 #[.int .u8 (xo : Int), .int .u8 (n : Int)] w fun e w' => e = .returned (.bool false) ∧ w = w')) := Lib.hid fun h => by
    subst h
    obtain ⟨h1, h2⟩ := HSo'.out rfl
    have h3 := HSo2.out h1.lt
    have h4 := HNo.out h1.lt
    have h5 := HHo.out h1.lt
    rw [h2] at h3 h1
    rw [h1.near] at h4
    rw [h1.has] at h5
    exact ⟨h1, h3, h4, h5⟩
  clear HSa' HSo' HSa2 HSo2 HNa HNo HHa HHo
  have HAdd : Hid (∀ w, Calls Try.prog 15 #[.int .u8 (m : Int), .int .u8 (n : Int)] w fun e w' => e = .returned (.tuple #[.int .u8 (xa : Int), .int .i64 (ea : Int)]) ∧ w = w') := HAdd
  have HOut : Hid (∀ w, Calls Try.prog 17 #[.int .u8 (m : Int), .int .u8 (n : Int)] w fun e w' => e = .returned (.tuple #[.int .u8 (xo : Int), .int .i64 (eo : Int)]) ∧ w = w') := HOut
  have K3 : (ea = 1 ∧ eo = 1) ∨ (ea = 5 ∧ eo = 0) ∨ (ea = 0 ∧ eo = 4) := K3
  have KO : ∃ q : Bool, decide (o ≠ 0) = q ∧ ((o : Int) != 0) = q ∧ ((o : Int) = 0) = (q = false) := by
    by_cases h : o = 0
    · exact ⟨false, by simp [h], by simp [h], by simp [h]⟩
    · exact ⟨true, by simp [h], by simp; omega, by simp; omega⟩
  obtain ⟨q, q1, q2, q3⟩ := KO
  rw [q1] at HWm
  clear q1 hm hv hn hown
  have HMo : Hid (∃ y, (∀ w, Calls Try.prog 19 #[.int .u8 (m : Int), .int .u8 (v : Int)] w fun e w' => e = .returned (.bool y) ∧ w = w') ∧ (y = true → ∀ w, Calls Try.prog 19 #[.int .u8 (m : Int), .int .u8 (vb : Int)] w fun e w' => e = .returned (.bool true) ∧ w = w') ∧ (∀ w, Calls Try.prog 19 #[.int .u8 (o : Int), .int .u8 (v : Int)] w fun e w' => e = .returned (.bool y) ∧ w = w')) := Lib.hid ⟨Cf.won m v, HWv.out, fun h => by have h2 := HWb.out; rw [HMo.out h] at h2; exact h2, HWo.out⟩
  obtain ⟨y, hy1, hy2, hy3⟩ := HMo.out
  clear HMo HWv HWb HWo
  have HWv := Lib.hid hy1
  have HWo := Lib.hid hy3
  have HWb' := Lib.hid hy2
  clear hy1 hy2 hy3
  rcases K3 with ⟨rfl, rfl⟩ | ⟨rfl, rfl⟩ | ⟨rfl, rfl⟩
  · clear PA PO
    cases q with
    | false =>
      cases y with
      | false =>
        clear HWb'
        go_enter Try.func6, Try.ntmps6
        go_wp2_with fail
        refine (HL.out _).mono ?_
        rintro e w1 ⟨lv, rfl, hlo, hb1⟩
        obtain ⟨A, cap, rfl, hli⟩ := hlo.lies
        have H1 := Lib.hid hb1
        have HO1 := Lib.hid (HO.out A cap w1 hli)
        clear hb1 hlo hli
        go_wp2_with fail
        refine HO1.out.mono ?_
        rintro e wx ⟨rfl, rfl⟩
        go_wp2_with fail
        refine (HAdd.out _).mono ?_
        rintro e wx ⟨rfl, rfl⟩
        go_wp2_with fail
        refine (HOut.out _).mono ?_
        rintro e wx ⟨rfl, rfl⟩
        go_wp2_with fail
        refine (HWv.out _).mono ?_
        rintro e wx ⟨rfl, rfl⟩
        have H2 := H1
        go_wp2_with fail
        refine (HWm.out _).mono ?_
        rintro e wx ⟨rfl, rfl⟩
        go_wp2_with fail
        refine (HW0.out _).mono ?_
        rintro e wx ⟨rfl, rfl⟩
        go_wp2_with fail
        refine (HWv.out _).mono ?_
        rintro e wx ⟨rfl, rfl⟩
        go_wp2_with fail
        refine (HWo.out _).mono ?_
        rintro e wx ⟨rfl, rfl⟩
        go_wp2_with fail
        refine (HW.out _).mono ?_
        rintro e w4 ⟨rfl, hb4⟩
        have H4 := Lib.hid (bnext H2.out hb4)
        clear hb4
        go_wp2_with fail
        go_ret
        exact ⟨rfl, H4.out⟩
      | true =>
        have HWb := Lib.hid (HWb'.out rfl)
        clear HWb'
        go_enter Try.func6, Try.ntmps6
        go_wp2_with fail
        refine (HL.out _).mono ?_
        rintro e w1 ⟨lv, rfl, hlo, hb1⟩
        obtain ⟨A, cap, rfl, hli⟩ := hlo.lies
        have H1 := Lib.hid hb1
        have HO1 := Lib.hid (HO.out A cap w1 hli)
        clear hb1 hlo hli
        go_wp2_with fail
        refine HO1.out.mono ?_
        rintro e wx ⟨rfl, rfl⟩
        go_wp2_with fail
        refine (HAdd.out _).mono ?_
        rintro e wx ⟨rfl, rfl⟩
        go_wp2_with fail
        refine (HOut.out _).mono ?_
        rintro e wx ⟨rfl, rfl⟩
        go_wp2_with fail
        refine (HWv.out _).mono ?_
        rintro e wx ⟨rfl, rfl⟩
        go_wp2_with fail
        refine (HOn.out _).mono ?_
        rintro e wx ⟨rfl, rfl⟩
        have H2 := Lib.hid (bnew H1.out (.cells #[.int .u8 (n : Int)] 5))
        go_wp2_with fail
        refine (HWb.out _).mono ?_
        rintro e wx ⟨rfl, rfl⟩
        go_wp2_with fail
        refine (HWm.out _).mono ?_
        rintro e wx ⟨rfl, rfl⟩
        go_wp2_with fail
        refine (HW0.out _).mono ?_
        rintro e wx ⟨rfl, rfl⟩
        go_wp2_with fail
        refine (HWv.out _).mono ?_
        rintro e wx ⟨rfl, rfl⟩
        go_wp2_with fail
        refine (HWo.out _).mono ?_
        rintro e wx ⟨rfl, rfl⟩
        go_wp2_with fail
        refine (HW.out _).mono ?_
        rintro e w4 ⟨rfl, hb4⟩
        have H4 := Lib.hid (bnext H2.out hb4)
        clear hb4
        go_wp2_with fail
        go_ret
        exact ⟨rfl, H4.out⟩
    | true =>
      cases y with
      | false =>
        clear HWb'
        go_enter Try.func6, Try.ntmps6
        go_wp2_with fail
        refine (HL.out _).mono ?_
        rintro e w1 ⟨lv, rfl, hlo, hb1⟩
        obtain ⟨A, cap, rfl, hli⟩ := hlo.lies
        have H1 := Lib.hid hb1
        have HO1 := Lib.hid (HO.out A cap w1 hli)
        clear hb1 hlo hli
        go_wp2_with fail
        refine HO1.out.mono ?_
        rintro e wx ⟨rfl, rfl⟩
        go_wp2_with fail
        refine (HAdd.out _).mono ?_
        rintro e wx ⟨rfl, rfl⟩
        go_wp2_with fail
        refine (HOut.out _).mono ?_
        rintro e wx ⟨rfl, rfl⟩
        go_wp2_with fail
        refine (HWv.out _).mono ?_
        rintro e wx ⟨rfl, rfl⟩
        have H2 := H1
        go_wp2_with fail
        refine (HWm.out _).mono ?_
        rintro e wx ⟨rfl, rfl⟩
        go_wp2_with fail
        refine (HW0.out _).mono ?_
        rintro e wx ⟨rfl, rfl⟩
        go_wp2_with fail
        refine (HWv.out _).mono ?_
        rintro e wx ⟨rfl, rfl⟩
        go_wp2_with fail
        refine (HWo.out _).mono ?_
        rintro e wx ⟨rfl, rfl⟩
        go_wp2_with fail
        refine (HW.out _).mono ?_
        rintro e w4 ⟨rfl, hb4⟩
        have H4 := Lib.hid (bnext H2.out hb4)
        clear hb4
        go_wp2_with fail
        go_ret
        exact ⟨rfl, H4.out⟩
      | true =>
        have HWb := Lib.hid (HWb'.out rfl)
        clear HWb'
        go_enter Try.func6, Try.ntmps6
        go_wp2_with fail
        refine (HL.out _).mono ?_
        rintro e w1 ⟨lv, rfl, hlo, hb1⟩
        obtain ⟨A, cap, rfl, hli⟩ := hlo.lies
        have H1 := Lib.hid hb1
        have HO1 := Lib.hid (HO.out A cap w1 hli)
        clear hb1 hlo hli
        go_wp2_with fail
        refine HO1.out.mono ?_
        rintro e wx ⟨rfl, rfl⟩
        go_wp2_with fail
        refine (HAdd.out _).mono ?_
        rintro e wx ⟨rfl, rfl⟩
        go_wp2_with fail
        refine (HOut.out _).mono ?_
        rintro e wx ⟨rfl, rfl⟩
        go_wp2_with fail
        refine (HWv.out _).mono ?_
        rintro e wx ⟨rfl, rfl⟩
        go_wp2_with fail
        refine (HOn.out _).mono ?_
        rintro e wx ⟨rfl, rfl⟩
        have H2 := Lib.hid (bnew H1.out (.cells #[.int .u8 (n : Int)] 5))
        go_wp2_with fail
        refine (HWb.out _).mono ?_
        rintro e wx ⟨rfl, rfl⟩
        go_wp2_with fail
        refine (HWm.out _).mono ?_
        rintro e wx ⟨rfl, rfl⟩
        go_wp2_with fail
        refine (HW0.out _).mono ?_
        rintro e wx ⟨rfl, rfl⟩
        go_wp2_with fail
        refine (HWv.out _).mono ?_
        rintro e wx ⟨rfl, rfl⟩
        go_wp2_with fail
        refine (HWo.out _).mono ?_
        rintro e wx ⟨rfl, rfl⟩
        go_wp2_with fail
        refine (HW.out _).mono ?_
        rintro e w4 ⟨rfl, hb4⟩
        have H4 := Lib.hid (bnext H2.out hb4)
        clear hb4
        go_wp2_with fail
        go_ret
        exact ⟨rfl, H4.out⟩
  · obtain ⟨_, p1, p2, p3⟩ := PO.out rfl
    have Q1 : Hid (∀ w, Calls Try.prog 15 #[.int .u8 (xo : Int), .int .u8 (n : Int)] w fun e w' => e = .returned (.tuple #[.int .u8 (o : Int), .int .i64 0]) ∧ w = w') := Lib.hid p1
    have Q2 := Lib.hid p2
    have Q3 := Lib.hid p3
    clear p1 p2 p3
    clear PA PO
    cases q with
    | false =>
      cases y with
      | false =>
        clear HWb'
        go_enter Try.func6, Try.ntmps6
        go_wp2_with fail
        refine (HL.out _).mono ?_
        rintro e w1 ⟨lv, rfl, hlo, hb1⟩
        obtain ⟨A, cap, rfl, hli⟩ := hlo.lies
        have H1 := Lib.hid hb1
        have HO1 := Lib.hid (HO.out A cap w1 hli)
        clear hb1 hlo hli
        go_wp2_with fail
        refine HO1.out.mono ?_
        rintro e wx ⟨rfl, rfl⟩
        go_wp2_with fail
        refine (HAdd.out _).mono ?_
        rintro e wx ⟨rfl, rfl⟩
        go_wp2_with fail
        refine (HOut.out _).mono ?_
        rintro e wx ⟨rfl, rfl⟩
        go_wp2_with fail
        refine (Q1.out _).mono ?_
        rintro e wx ⟨rfl, rfl⟩
        go_wp2_with fail
        refine (Q2.out _).mono ?_
        rintro e wx ⟨rfl, rfl⟩
        go_wp2_with fail
        refine (Q3.out _).mono ?_
        rintro e wx ⟨rfl, rfl⟩
        go_wp2_with fail
        refine (HWv.out _).mono ?_
        rintro e wx ⟨rfl, rfl⟩
        have H2 := H1
        go_wp2_with fail
        refine (HWm.out _).mono ?_
        rintro e wx ⟨rfl, rfl⟩
        go_wp2_with fail
        refine (HW0.out _).mono ?_
        rintro e wx ⟨rfl, rfl⟩
        go_wp2_with fail
        refine (HWv.out _).mono ?_
        rintro e wx ⟨rfl, rfl⟩
        go_wp2_with fail
        refine (HWo.out _).mono ?_
        rintro e wx ⟨rfl, rfl⟩
        go_wp2_with fail
        refine (HW.out _).mono ?_
        rintro e w4 ⟨rfl, hb4⟩
        have H4 := Lib.hid (bnext H2.out hb4)
        clear hb4
        go_wp2_with fail
        go_ret
        exact ⟨rfl, H4.out⟩
      | true =>
        have HWb := Lib.hid (HWb'.out rfl)
        clear HWb'
        go_enter Try.func6, Try.ntmps6
        go_wp2_with fail
        refine (HL.out _).mono ?_
        rintro e w1 ⟨lv, rfl, hlo, hb1⟩
        obtain ⟨A, cap, rfl, hli⟩ := hlo.lies
        have H1 := Lib.hid hb1
        have HO1 := Lib.hid (HO.out A cap w1 hli)
        clear hb1 hlo hli
        go_wp2_with fail
        refine HO1.out.mono ?_
        rintro e wx ⟨rfl, rfl⟩
        go_wp2_with fail
        refine (HAdd.out _).mono ?_
        rintro e wx ⟨rfl, rfl⟩
        go_wp2_with fail
        refine (HOut.out _).mono ?_
        rintro e wx ⟨rfl, rfl⟩
        go_wp2_with fail
        refine (Q1.out _).mono ?_
        rintro e wx ⟨rfl, rfl⟩
        go_wp2_with fail
        refine (Q2.out _).mono ?_
        rintro e wx ⟨rfl, rfl⟩
        go_wp2_with fail
        refine (Q3.out _).mono ?_
        rintro e wx ⟨rfl, rfl⟩
        go_wp2_with fail
        refine (HWv.out _).mono ?_
        rintro e wx ⟨rfl, rfl⟩
        go_wp2_with fail
        refine (HOn.out _).mono ?_
        rintro e wx ⟨rfl, rfl⟩
        have H2 := Lib.hid (bnew H1.out (.cells #[.int .u8 (n : Int)] 5))
        go_wp2_with fail
        refine (HWb.out _).mono ?_
        rintro e wx ⟨rfl, rfl⟩
        go_wp2_with fail
        refine (HWm.out _).mono ?_
        rintro e wx ⟨rfl, rfl⟩
        go_wp2_with fail
        refine (HW0.out _).mono ?_
        rintro e wx ⟨rfl, rfl⟩
        go_wp2_with fail
        refine (HWv.out _).mono ?_
        rintro e wx ⟨rfl, rfl⟩
        go_wp2_with fail
        refine (HWo.out _).mono ?_
        rintro e wx ⟨rfl, rfl⟩
        go_wp2_with fail
        refine (HW.out _).mono ?_
        rintro e w4 ⟨rfl, hb4⟩
        have H4 := Lib.hid (bnext H2.out hb4)
        clear hb4
        go_wp2_with fail
        go_ret
        exact ⟨rfl, H4.out⟩
    | true =>
      cases y with
      | false =>
        clear HWb'
        go_enter Try.func6, Try.ntmps6
        go_wp2_with fail
        refine (HL.out _).mono ?_
        rintro e w1 ⟨lv, rfl, hlo, hb1⟩
        obtain ⟨A, cap, rfl, hli⟩ := hlo.lies
        have H1 := Lib.hid hb1
        have HO1 := Lib.hid (HO.out A cap w1 hli)
        clear hb1 hlo hli
        go_wp2_with fail
        refine HO1.out.mono ?_
        rintro e wx ⟨rfl, rfl⟩
        go_wp2_with fail
        refine (HAdd.out _).mono ?_
        rintro e wx ⟨rfl, rfl⟩
        go_wp2_with fail
        refine (HOut.out _).mono ?_
        rintro e wx ⟨rfl, rfl⟩
        go_wp2_with fail
        refine (Q1.out _).mono ?_
        rintro e wx ⟨rfl, rfl⟩
        go_wp2_with fail
        refine (Q2.out _).mono ?_
        rintro e wx ⟨rfl, rfl⟩
        go_wp2_with fail
        refine (Q3.out _).mono ?_
        rintro e wx ⟨rfl, rfl⟩
        go_wp2_with fail
        refine (HWv.out _).mono ?_
        rintro e wx ⟨rfl, rfl⟩
        have H2 := H1
        go_wp2_with fail
        refine (HWm.out _).mono ?_
        rintro e wx ⟨rfl, rfl⟩
        go_wp2_with fail
        refine (HW0.out _).mono ?_
        rintro e wx ⟨rfl, rfl⟩
        go_wp2_with fail
        refine (HWv.out _).mono ?_
        rintro e wx ⟨rfl, rfl⟩
        go_wp2_with fail
        refine (HWo.out _).mono ?_
        rintro e wx ⟨rfl, rfl⟩
        go_wp2_with fail
        refine (HW.out _).mono ?_
        rintro e w4 ⟨rfl, hb4⟩
        have H4 := Lib.hid (bnext H2.out hb4)
        clear hb4
        go_wp2_with fail
        go_ret
        exact ⟨rfl, H4.out⟩
      | true =>
        have HWb := Lib.hid (HWb'.out rfl)
        clear HWb'
        go_enter Try.func6, Try.ntmps6
        go_wp2_with fail
        refine (HL.out _).mono ?_
        rintro e w1 ⟨lv, rfl, hlo, hb1⟩
        obtain ⟨A, cap, rfl, hli⟩ := hlo.lies
        have H1 := Lib.hid hb1
        have HO1 := Lib.hid (HO.out A cap w1 hli)
        clear hb1 hlo hli
        go_wp2_with fail
        refine HO1.out.mono ?_
        rintro e wx ⟨rfl, rfl⟩
        go_wp2_with fail
        refine (HAdd.out _).mono ?_
        rintro e wx ⟨rfl, rfl⟩
        go_wp2_with fail
        refine (HOut.out _).mono ?_
        rintro e wx ⟨rfl, rfl⟩
        go_wp2_with fail
        refine (Q1.out _).mono ?_
        rintro e wx ⟨rfl, rfl⟩
        go_wp2_with fail
        refine (Q2.out _).mono ?_
        rintro e wx ⟨rfl, rfl⟩
        go_wp2_with fail
        refine (Q3.out _).mono ?_
        rintro e wx ⟨rfl, rfl⟩
        go_wp2_with fail
        refine (HWv.out _).mono ?_
        rintro e wx ⟨rfl, rfl⟩
        go_wp2_with fail
        refine (HOn.out _).mono ?_
        rintro e wx ⟨rfl, rfl⟩
        have H2 := Lib.hid (bnew H1.out (.cells #[.int .u8 (n : Int)] 5))
        go_wp2_with fail
        refine (HWb.out _).mono ?_
        rintro e wx ⟨rfl, rfl⟩
        go_wp2_with fail
        refine (HWm.out _).mono ?_
        rintro e wx ⟨rfl, rfl⟩
        go_wp2_with fail
        refine (HW0.out _).mono ?_
        rintro e wx ⟨rfl, rfl⟩
        go_wp2_with fail
        refine (HWv.out _).mono ?_
        rintro e wx ⟨rfl, rfl⟩
        go_wp2_with fail
        refine (HWo.out _).mono ?_
        rintro e wx ⟨rfl, rfl⟩
        go_wp2_with fail
        refine (HW.out _).mono ?_
        rintro e w4 ⟨rfl, hb4⟩
        have H4 := Lib.hid (bnext H2.out hb4)
        clear hb4
        go_wp2_with fail
        go_ret
        exact ⟨rfl, H4.out⟩
  · obtain ⟨_, p1, p2, p3⟩ := PA.out rfl
    have P1 : Hid (∀ w, Calls Try.prog 17 #[.int .u8 (xa : Int), .int .u8 (n : Int)] w fun e w' => e = .returned (.tuple #[.int .u8 (o : Int), .int .i64 0]) ∧ w = w') := Lib.hid p1
    have P2 := Lib.hid p2
    have P3 := Lib.hid p3
    clear p1 p2 p3
    clear PA PO
    cases q with
    | false =>
      cases y with
      | false =>
        clear HWb'
        go_enter Try.func6, Try.ntmps6
        go_wp2_with fail
        refine (HL.out _).mono ?_
        rintro e w1 ⟨lv, rfl, hlo, hb1⟩
        obtain ⟨A, cap, rfl, hli⟩ := hlo.lies
        have H1 := Lib.hid hb1
        have HO1 := Lib.hid (HO.out A cap w1 hli)
        clear hb1 hlo hli
        go_wp2_with fail
        refine HO1.out.mono ?_
        rintro e wx ⟨rfl, rfl⟩
        go_wp2_with fail
        refine (HAdd.out _).mono ?_
        rintro e wx ⟨rfl, rfl⟩
        go_wp2_with fail
        refine (P1.out _).mono ?_
        rintro e wx ⟨rfl, rfl⟩
        go_wp2_with fail
        refine (P2.out _).mono ?_
        rintro e wx ⟨rfl, rfl⟩
        go_wp2_with fail
        refine (P3.out _).mono ?_
        rintro e wx ⟨rfl, rfl⟩
        go_wp2_with fail
        refine (HOut.out _).mono ?_
        rintro e wx ⟨rfl, rfl⟩
        go_wp2_with fail
        refine (HWv.out _).mono ?_
        rintro e wx ⟨rfl, rfl⟩
        have H2 := H1
        go_wp2_with fail
        refine (HWm.out _).mono ?_
        rintro e wx ⟨rfl, rfl⟩
        go_wp2_with fail
        refine (HW0.out _).mono ?_
        rintro e wx ⟨rfl, rfl⟩
        go_wp2_with fail
        refine (HWv.out _).mono ?_
        rintro e wx ⟨rfl, rfl⟩
        go_wp2_with fail
        refine (HWo.out _).mono ?_
        rintro e wx ⟨rfl, rfl⟩
        go_wp2_with fail
        refine (HW.out _).mono ?_
        rintro e w4 ⟨rfl, hb4⟩
        have H4 := Lib.hid (bnext H2.out hb4)
        clear hb4
        go_wp2_with fail
        go_ret
        exact ⟨rfl, H4.out⟩
      | true =>
        have HWb := Lib.hid (HWb'.out rfl)
        clear HWb'
        go_enter Try.func6, Try.ntmps6
        go_wp2_with fail
        refine (HL.out _).mono ?_
        rintro e w1 ⟨lv, rfl, hlo, hb1⟩
        obtain ⟨A, cap, rfl, hli⟩ := hlo.lies
        have H1 := Lib.hid hb1
        have HO1 := Lib.hid (HO.out A cap w1 hli)
        clear hb1 hlo hli
        go_wp2_with fail
        refine HO1.out.mono ?_
        rintro e wx ⟨rfl, rfl⟩
        go_wp2_with fail
        refine (HAdd.out _).mono ?_
        rintro e wx ⟨rfl, rfl⟩
        go_wp2_with fail
        refine (P1.out _).mono ?_
        rintro e wx ⟨rfl, rfl⟩
        go_wp2_with fail
        refine (P2.out _).mono ?_
        rintro e wx ⟨rfl, rfl⟩
        go_wp2_with fail
        refine (P3.out _).mono ?_
        rintro e wx ⟨rfl, rfl⟩
        go_wp2_with fail
        refine (HOut.out _).mono ?_
        rintro e wx ⟨rfl, rfl⟩
        go_wp2_with fail
        refine (HWv.out _).mono ?_
        rintro e wx ⟨rfl, rfl⟩
        go_wp2_with fail
        refine (HOn.out _).mono ?_
        rintro e wx ⟨rfl, rfl⟩
        have H2 := Lib.hid (bnew H1.out (.cells #[.int .u8 (n : Int)] 5))
        go_wp2_with fail
        refine (HWb.out _).mono ?_
        rintro e wx ⟨rfl, rfl⟩
        go_wp2_with fail
        refine (HWm.out _).mono ?_
        rintro e wx ⟨rfl, rfl⟩
        go_wp2_with fail
        refine (HW0.out _).mono ?_
        rintro e wx ⟨rfl, rfl⟩
        go_wp2_with fail
        refine (HWv.out _).mono ?_
        rintro e wx ⟨rfl, rfl⟩
        go_wp2_with fail
        refine (HWo.out _).mono ?_
        rintro e wx ⟨rfl, rfl⟩
        go_wp2_with fail
        refine (HW.out _).mono ?_
        rintro e w4 ⟨rfl, hb4⟩
        have H4 := Lib.hid (bnext H2.out hb4)
        clear hb4
        go_wp2_with fail
        go_ret
        exact ⟨rfl, H4.out⟩
    | true =>
      cases y with
      | false =>
        clear HWb'
        go_enter Try.func6, Try.ntmps6
        go_wp2_with fail
        refine (HL.out _).mono ?_
        rintro e w1 ⟨lv, rfl, hlo, hb1⟩
        obtain ⟨A, cap, rfl, hli⟩ := hlo.lies
        have H1 := Lib.hid hb1
        have HO1 := Lib.hid (HO.out A cap w1 hli)
        clear hb1 hlo hli
        go_wp2_with fail
        refine HO1.out.mono ?_
        rintro e wx ⟨rfl, rfl⟩
        go_wp2_with fail
        refine (HAdd.out _).mono ?_
        rintro e wx ⟨rfl, rfl⟩
        go_wp2_with fail
        refine (P1.out _).mono ?_
        rintro e wx ⟨rfl, rfl⟩
        go_wp2_with fail
        refine (P2.out _).mono ?_
        rintro e wx ⟨rfl, rfl⟩
        go_wp2_with fail
        refine (P3.out _).mono ?_
        rintro e wx ⟨rfl, rfl⟩
        go_wp2_with fail
        refine (HOut.out _).mono ?_
        rintro e wx ⟨rfl, rfl⟩
        go_wp2_with fail
        refine (HWv.out _).mono ?_
        rintro e wx ⟨rfl, rfl⟩
        have H2 := H1
        go_wp2_with fail
        refine (HWm.out _).mono ?_
        rintro e wx ⟨rfl, rfl⟩
        go_wp2_with fail
        refine (HW0.out _).mono ?_
        rintro e wx ⟨rfl, rfl⟩
        go_wp2_with fail
        refine (HWv.out _).mono ?_
        rintro e wx ⟨rfl, rfl⟩
        go_wp2_with fail
        refine (HWo.out _).mono ?_
        rintro e wx ⟨rfl, rfl⟩
        go_wp2_with fail
        refine (HW.out _).mono ?_
        rintro e w4 ⟨rfl, hb4⟩
        have H4 := Lib.hid (bnext H2.out hb4)
        clear hb4
        go_wp2_with fail
        go_ret
        exact ⟨rfl, H4.out⟩
      | true =>
        have HWb := Lib.hid (HWb'.out rfl)
        clear HWb'
        go_enter Try.func6, Try.ntmps6
        go_wp2_with fail
        refine (HL.out _).mono ?_
        rintro e w1 ⟨lv, rfl, hlo, hb1⟩
        obtain ⟨A, cap, rfl, hli⟩ := hlo.lies
        have H1 := Lib.hid hb1
        have HO1 := Lib.hid (HO.out A cap w1 hli)
        clear hb1 hlo hli
        go_wp2_with fail
        refine HO1.out.mono ?_
        rintro e wx ⟨rfl, rfl⟩
        go_wp2_with fail
        refine (HAdd.out _).mono ?_
        rintro e wx ⟨rfl, rfl⟩
        go_wp2_with fail
        refine (P1.out _).mono ?_
        rintro e wx ⟨rfl, rfl⟩
        go_wp2_with fail
        refine (P2.out _).mono ?_
        rintro e wx ⟨rfl, rfl⟩
        go_wp2_with fail
        refine (P3.out _).mono ?_
        rintro e wx ⟨rfl, rfl⟩
        go_wp2_with fail
        refine (HOut.out _).mono ?_
        rintro e wx ⟨rfl, rfl⟩
        go_wp2_with fail
        refine (HWv.out _).mono ?_
        rintro e wx ⟨rfl, rfl⟩
        go_wp2_with fail
        refine (HOn.out _).mono ?_
        rintro e wx ⟨rfl, rfl⟩
        have H2 := Lib.hid (bnew H1.out (.cells #[.int .u8 (n : Int)] 5))
        go_wp2_with fail
        refine (HWb.out _).mono ?_
        rintro e wx ⟨rfl, rfl⟩
        go_wp2_with fail
        refine (HWm.out _).mono ?_
        rintro e wx ⟨rfl, rfl⟩
        go_wp2_with fail
        refine (HW0.out _).mono ?_
        rintro e wx ⟨rfl, rfl⟩
        go_wp2_with fail
        refine (HWv.out _).mono ?_
        rintro e wx ⟨rfl, rfl⟩
        go_wp2_with fail
        refine (HWo.out _).mono ?_
        rintro e wx ⟨rfl, rfl⟩
        go_wp2_with fail
        refine (HW.out _).mono ?_
        rintro e w4 ⟨rfl, hb4⟩
        have H4 := Lib.hid (bnext H2.out hb4)
        clear hb4
        go_wp2_with fail
        go_ret
        exact ⟨rfl, H4.out⟩
end Go.Proofs.Ytdodpocckjcomaa
