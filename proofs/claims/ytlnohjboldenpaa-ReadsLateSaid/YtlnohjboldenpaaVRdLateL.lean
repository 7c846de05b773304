/-
  ReadsLate walked.
-/
import Derived.Test.YtlnohjboldenpaaVRdZ
import Derived.Test.YtlnohjboldenpaaVOpen
set_option linter.unusedSimpArgs false
set_option linter.unusedVariables false
namespace Go.Proofs.Ytlnohjboldenpaa
open Go.RowKit Go.Sort
namespace Rd
def asks (l : List Nat) : R := l.foldl ask ⟨[], []⟩
theorem asks_snoc (l : List Nat) (x : Nat) : asks (l ++ [x]) = ask (asks l) x := by simp [asks]
theorem ask_b (r : R) (x : Nat) : (ask r x).b = r.b := by unfold ask; split <;> rfl
theorem ask_w (r : R) (x : Nat) : (ask r x).w.length = if has r x = true then r.w.length else r.w.length + 1 := by unfold ask; split <;> simp
theorem asks_b (l : List Nat) : (asks l).b = [] := by
  have key : ∀ (l : List Nat) (r : R), (l.foldl ask r).b = r.b := by
    intro l
    induction l with
    | nil => intro r; rfl
    | cons x l ih => intro r; rw [List.foldl_cons, ih, ask_b]
  exact key l _
theorem asks_w (l : List Nat) : (asks l).w.length ≤ l.length := by
  have key : ∀ (l : List Nat) (r : R), (l.foldl ask r).w.length ≤ r.w.length + l.length := by
    intro l
    induction l with
    | nil => intro r; simp
    | cons x l ih =>
      intro r
      rw [List.foldl_cons]
      have h1 := ih (ask r x)
      have h2 := ask_w r x
      rw [List.length_cons]
      split at h2 <;> omega
  have := key l ⟨[], []⟩
  simpa [asks] using this
theorem cnt_put (t i s : Nat) (l : List Nat) : cnt t (put i s l) = if s ≤ t then l.length else 0 := by
  induction l with
  | nil => simp [put, cnt]
  | cons x l ih =>
    have e : put i s (x :: l) = ⟨x, i, s⟩ :: put i s l := rfl
    rw [e, cnt, ih]
    by_cases h : s ≤ t
    · rw [if_pos h, if_pos h, if_pos h]; rfl
    · rw [if_neg h, if_neg h]
end Rd
set_option maxRecDepth 100000 in
set_option maxHeartbeats 4000000 in
theorem readsLate_any (w : World) (i t u : Nat) (hi : i < Nm.top) (ht : t < Nm.top) (hu : u < Nm.top) (A : Option Addr) (cp : Nat) (ns : List Nat) (hA : Lies w A (uc ns)) (hns : ∀ n ∈ ns, n < Nm.top) (hl : ns.length ≤ maxLen) :
    Calls Try.prog 13 #[.int .u64 (i : Int), .int .u64 (t : Int), .int .u64 (u : Int), .slice A ns.length cp] w (RetR (.bool true) w) := by
  have HAw := Lib.hid rdAwake_any
  simp only [maxLen] at hl
  by_cases hlen : 60 < ns.length
  · have q1 : decide (60 < ns.length) = true := decide_eq_true hlen
    have q2 : ((60 : Int) < ((ns.length : Nat) : Int)) = True := by simp; omega
    clear hA hns
    go_enter Try.func13, Try.ntmps13
    go_wp2_with (go_at_call 41; refine (HAw.out _).mono ?_; rintro e w1 ⟨rfl, b1⟩)
    go_ret
    exact ⟨rfl, b1⟩
  have q1 : decide (60 < ns.length) = false := decide_eq_false hlen
  have q2 : ((60 : Int) < ((ns.length : Nat) : Int)) = False := by simp; omega
  have HL := Lib.hid hA
  have HN : Hid (Calls Try.prog 42 #[] w fun e w' => ∃ p, e = .returned (.pointer (some ⟨p, 0, none⟩)) ∧ RZ w w' p ⟨[], []⟩ (fun _ => False)) := Lib.hid ((rz_new (Z := fun _ => False) (Below.refl _ _) (fun k h => h.elim)).mono fun e w' ⟨p, h1, h2, _⟩ => ⟨p, h1, h2⟩)
  have HAs : Hid (∀ W p k, RZ w W p (Rd.asks (ns.take k)) (fun _ => False) → ∀ hk : k < ns.length, Calls Try.prog 47 #[.pointer (some ⟨p, 0, none⟩), .int .u64 ((ns[k] : Nat) : Int)] W fun e w' => e = .returned (.bool (!Rd.has (Rd.asks (ns.take k)) ns[k])) ∧ RZ w w' p (Rd.asks (ns.take (k + 1))) (fun _ => False)) := Lib.hid fun W p k h hk => by
    have h1 := Rd.asks_b (ns.take k)
    have h2 := Rd.asks_w (ns.take k)
    rw [List.length_take] at h2
    rw [List.take_succ_eq_append_getElem hk, Rd.asks_snoc]
    exact (rz_ask h ns[k] (hns _ (List.getElem_mem hk)) (by rw [h1]; simp; omega)).mono fun e w' ⟨g1, g2, _⟩ => ⟨g1, g2⟩
  have HWl : Hid (∀ k (hk : k < ns.length), (Rd.asks (ns.take (k + 1))).w.length = if Rd.has (Rd.asks (ns.take k)) ns[k] = true then (Rd.asks (ns.take k)).w.length else (Rd.asks (ns.take k)).w.length + 1) := Lib.hid fun k hk => by rw [List.take_succ_eq_append_getElem hk, Rd.asks_snoc, Rd.ask_w]
  obtain ⟨n, hn⟩ : ∃ n, n = ns.length := ⟨_, rfl⟩
  have Hn := Lib.hid hn
  rw [← hn] at q1 q2 hlen hl ⊢
  have hn60 : n ≤ 60 := by omega
  have H0 : Hid (Rd.asks (ns.take 0) = ⟨[], []⟩) := Lib.hid rfl
  obtain ⟨ws, hws⟩ : ∃ ws, ws = (Rd.asks ns).w := ⟨_, rfl⟩
  have HE : Hid (Rd.asks (ns.take n) = ⟨[], ws⟩) := Lib.hid (by rw [hn, List.take_of_length_le (Nat.le_refl _), hws, ← Rd.asks_b ns])
  have hwl : ws.length ≤ 60 := by have := Rd.asks_w ns; rw [hws]; omega
  have HT1 : Hid (∀ W p, RZ w W p ⟨[], ws⟩ (fun _ => False) → Calls Try.prog 49 #[.pointer (some ⟨p, 0, none⟩), .int .u64 18446744073709551615] W fun e w' => ∃ A c, e = .returned (.slice A 0 c) ∧ RZ w w' p ⟨[], ws⟩ (fun _ => False)) := Lib.hid fun W p h => (rz_told h 18446744073709551615).mono fun e w' ⟨A, c, h1, h2, _, h3, h4⟩ => ⟨A, c, h1, h3.mono fun k hk => .inl hk⟩
  have HB : Hid (∀ W p, RZ w W p ⟨[], ws⟩ (fun _ => False) → Calls Try.prog 48 #[.pointer (some ⟨p, 0, none⟩), .int .u64 (i : Int), .int .u64 (t : Int)] W fun e w' => e = .returned (.int .i64 (ws.length : Int)) ∧ RZ w w' p ⟨Rd.put i t ws, []⟩ (fun _ => False)) := Lib.hid fun W p h => (rz_begin h i t hi ht (by simp; omega)).mono fun e w' ⟨h1, h2, _⟩ => ⟨h1, h2⟩
  have hcu := Rd.cnt_put u i t ws
  have hct := Rd.cnt_put t i t ws
  rw [if_pos (Nat.le_refl _)] at hct
  have HT2 : Hid (∀ W p, RZ w W p ⟨Rd.put i t ws, []⟩ (fun _ => False) → Calls Try.prog 49 #[.pointer (some ⟨p, 0, none⟩), .int .u64 (u : Int)] W fun e w' => ∃ A c, e = .returned (.slice A (if t ≤ u then ws.length else 0) c) ∧ RZ w w' p (Rd.left ⟨Rd.put i t ws, []⟩ u) (fun _ => False)) := Lib.hid fun W p h => (rz_told h u).mono fun e w' ⟨A, c, h1, h2, _, h3, h4⟩ => ⟨A, c, by rw [h1, Rd.told_len]; show _ = Ending.returned (.slice A (if t ≤ u then ws.length else 0) c); rw [← hcu], h3.mono fun k hk => .inl hk⟩
  have HT3 : Hid (¬ t ≤ u → ∀ W p, RZ w W p (Rd.left ⟨Rd.put i t ws, []⟩ u) (fun _ => False) → Calls Try.prog 49 #[.pointer (some ⟨p, 0, none⟩), .int .u64 (t : Int)] W fun e w' => ∃ A c, e = .returned (.slice A ws.length c) ∧ Below w.heap.size w w') := Lib.hid fun htu W p h => by
    rw [if_neg htu] at hcu
    have e : Rd.left ⟨Rd.put i t ws, []⟩ u = ⟨Rd.put i t ws, []⟩ := by unfold Rd.left; simp only; rw [hcu, List.drop_zero]
    rw [e] at h
    exact (rz_told h t).mono fun e w' ⟨A, c, h1, h2, _, h3, h4⟩ => ⟨A, c, by rw [h1, Rd.told_len]; show Ending.returned (.slice A (Rd.cnt t (Rd.put i t ws)) c) = _; rw [hct], h3.bl⟩
  have HWs : Hid ((Rd.asks (ns.take n)).w.length = ws.length) := Lib.hid (by rw [HE.out])
  clear hA hns hn hws hcu hct
  unfold Nm.top at hi ht hu
  go_enter Try.func13, Try.ntmps13
  go_upto_region 4 with (go_at_call 42; refine HN.out.mono ?_; rintro e w1 ⟨p, rfl, i1⟩)
  have HI1 : Hid (RZ w w1 p (Rd.asks (ns.take 0)) (fun _ => False)) := Lib.hid i1
  clear i1 HN
  go_wp2_with fail
  go_loopw [10, 11] (fun nv iv wr => ∃ (k : Nat), k ≤ n ∧ iv = .int .i64 (k : Int) ∧ nv = .int .i64 ((Rd.asks (ns.take k)).w.length : Int) ∧ RZ w wr p (Rd.asks (ns.take k)) (fun _ => False)) (fun _ iv _ => n - (intOf iv).toNat)
  case atStart => exact ⟨0, Nat.zero_le _, rfl, rfl, HI1.out⟩
  case round =>
    obtain ⟨k, hkn, rfl, rfl, hI⟩ := hrel
    have HI := Lib.hid hI
    by_cases hlt : k < n
    · have hkr : k < ns.length := by rw [← Hn.out]; exact hlt
      obtain ⟨b, off, rfl, d0⟩ := (HL.out.below hI.bl).u k hkr
      have HAk := Lib.hid (HAs.out wr p k hI hkr)
      have HWk := Lib.hid (HWl.out k hkr)
      obtain ⟨x, hx⟩ : ∃ x, x = ns[k] := ⟨_, rfl⟩
      rw [← hx] at d0 HAk HWk
      obtain ⟨m, hm⟩ : ∃ m, m = (Rd.asks (ns.take k)).w.length := ⟨_, rfl⟩
      have hm60 : m ≤ 60 := by have := Rd.asks_w (ns.take k); rw [List.length_take] at this; omega
      rw [← hm] at HWk ⊢
      obtain ⟨hh, hhe⟩ : ∃ hh, hh = Rd.has (Rd.asks (ns.take k)) x := ⟨_, rfl⟩
      rw [← hhe] at HAk HWk
      clear hx hkr hI hm hhe
      cases hh with
      | true =>
        have E : Hid ((Rd.asks (ns.take (k + 1))).w.length = m) := Lib.hid (by rw [HWk.out, if_pos rfl])
        clear HWk HI
        go_wp2_with (go_at_call 47; refine HAk.out.mono ?_; rintro e w2 ⟨rfl, i2⟩)
        go_roundw
        case rel => exact ⟨k + 1, by omega, by go_num, by rw [E.out], i2⟩
        case measure => simp [intOf]; omega
      | false =>
        have E : Hid ((Rd.asks (ns.take (k + 1))).w.length = m + 1) := Lib.hid (by rw [HWk.out, if_neg (by decide)])
        clear HWk HI
        go_wp2_with (go_at_call 47; refine HAk.out.mono ?_; rintro e w2 ⟨rfl, i2⟩)
        go_roundw
        case rel => exact ⟨k + 1, by omega, by go_num, by rw [E.out]; go_num, i2⟩
        case measure => simp [intOf]; omega
    · obtain rfl : k = n := by omega
      have HI2 : Hid (RZ w wr p ⟨[], ws⟩ (fun _ => False)) := Lib.hid (by rw [← HE.out]; exact hI)
      rw [HWs.out]
      obtain ⟨m, hm⟩ : ∃ m, m = ws.length := ⟨_, rfl⟩
      rw [← hm] at hwl HB HT2 HT3 ⊢
      clear HI hI HI1 hm HWs HE HAs HWl HL H0
      by_cases htu : t ≤ u
      · have r1 : decide (t ≤ u) = true := decide_eq_true htu
        have r2 : ((t : Int) ≤ (u : Int)) = True := by simp; omega
        rw [if_pos htu] at HT2
        clear HT3 htu
        go_wp2_with (first
          | (go_at_call 41; refine (HAw.out w4).mono ?_; rintro e w5 ⟨rfl, b5⟩)
          | (go_at_call 49; refine (HT2.out w3 _ i3).mono ?_; rintro e w4 ⟨A4, c4, rfl, i4⟩)
          | (go_at_call 48; refine (HB.out w2 _ i2).mono ?_; rintro e w3 ⟨rfl, i3⟩)
          | (go_at_call 49; refine (HT1.out _ _ HI2.out).mono ?_; rintro e w2 ⟨A2, c2, rfl, i2⟩))
        go_ret
        exact ⟨rfl, bnext i4.bl b5⟩
      · have r1 : decide (t ≤ u) = false := decide_eq_false htu
        have r2 : ((t : Int) ≤ (u : Int)) = False := by simp; omega
        rw [if_neg htu] at HT2
        have HT3' := Lib.hid (HT3.out htu)
        clear HT3 htu
        go_wp2_with (first
          | (go_at_call 41; refine (HAw.out w5).mono ?_; rintro e w6 ⟨rfl, b6⟩)
          | (go_at_call 49; refine (HT3'.out w4 _ i4).mono ?_; rintro e w5 ⟨A5, c5, rfl, b5⟩)
          | (go_at_call 49; refine (HT2.out w3 _ i3).mono ?_; rintro e w4 ⟨A4, c4, rfl, i4⟩)
          | (go_at_call 48; refine (HB.out w2 _ i2).mono ?_; rintro e w3 ⟨rfl, i3⟩)
          | (go_at_call 49; refine (HT1.out _ _ HI2.out).mono ?_; rintro e w2 ⟨A2, c2, rfl, i2⟩))
        go_ret
        exact ⟨rfl, bnext b5 b6⟩
theorem readsLate_walk (w : World) (a0 : Int) (h0 : (Lit.int .u64 a0).wf = true) (a1 : Int) (h1 : (Lit.int .u64 a1).wf = true) (a2 : Int) (h2 : (Lit.int .u64 a2).wf = true) (A : Option Addr) (cp : Nat) (ns : List Nat) (hA : Lies w A (uc ns)) (hns : ∀ n ∈ ns, n < Nm.top) (hl : ns.length ≤ maxLen) :
    Calls Try.prog 13 #[.int .u64 a0, .int .u64 a1, .int .u64 a2, .slice A ns.length cp] w fun e w' => e = .returned (.bool true) ∧ Below w.heap.size w w' := by
  obtain ⟨n0, rfl, z0⟩ := u64_nat h0
  obtain ⟨n1, rfl, z1⟩ := u64_nat h1
  obtain ⟨n2, rfl, z2⟩ := u64_nat h2
  exact readsLate_any w n0 n1 n2 z0 z1 z2 A cp ns hA hns hl
end Go.Proofs.Ytlnohjboldenpaa
