/-
  Reads: Told walked.
-/
import Derived.Test.YtlnohjboldenpaaPRdDel
set_option linter.unusedSimpArgs false
set_option linter.unusedVariables false
namespace Go.Proofs.Ytlnohjboldenpaa
open Go.RowKit Go.Sort
theorem rtold_nil (w : World) (t : Nat) : Calls Try.prog 49 #[.pointer none, .int .u64 (t : Int)] w (RetR (.slice none 0 0) w) := by
  go_enter Try.func49, Try.ntmps49
  go_wp2_with fail
  go_ret
  exact ⟨rfl, Below.refl _ _⟩
/-- What Told hands back: reads in memory of one's own, that is no part of the list. -/
def RetTold (p : Nat) (S : Nat → Prop) (r : Rd.R) (t : Nat) (w : World) (e : Ending) (w' : World) : Prop :=
  ∃ A c, e = .returned (.slice A (Rd.told r t).length c) ∧ Sl w' 3 A (Rd.told r t).length c (rdc (Rd.told r t)) ∧ (∀ b, blk A = some b → w.heap.size ≤ b) ∧ RdAt w' p S (Rd.left r t) ∧ Kr S w w'
set_option maxRecDepth 100000 in
set_option maxHeartbeats 4000000 in
theorem rtold_any {p : Nat} {S : Nat → Prop} {r : Rd.R} (w : World) (h : RdAt w p S r) (t : Nat) :
    Calls Try.prog 49 #[.pointer (some ⟨p, 0, none⟩), .int .u64 (t : Int)] w (RetTold p S r t w) := by
  have hfew := h.fit.few
  obtain ⟨A, c, B, d, h⟩ := h.own
  have HX := Lib.hid h
  have HD := Lib.hid (fun k hk h => Rd.cnt_drop t r.b k hk h)
  have HTl : Hid ((Rd.told r t).length = Rd.cnt t r.b) := Lib.hid (Rd.told_len r t)
  have HTe : Hid (Rd.told r t = r.b.take (Rd.cnt t r.b)) := Lib.hid rfl
  have HLe : Hid (Rd.left r t = { r with b := r.b.drop (Rd.cnt t r.b) }) := Lib.hid rfl
  have hcl := Rd.cnt_le t r.b
  obtain ⟨X, hX⟩ : ∃ X, X = Rd.told r t := ⟨_, rfl⟩
  obtain ⟨L, hL⟩ : ∃ L, L = Rd.left r t := ⟨_, rfl⟩
  have HFL : Hid (Rd.Fits L) := Lib.hid (by rw [hL]; exact Rd.left_fits h.fit t)
  obtain ⟨C, hC⟩ : ∃ C, C = Rd.cnt t r.b := ⟨_, rfl⟩
  unfold RetTold
  rw [← hX] at HTl HTe ⊢
  rw [← hL] at HLe ⊢
  rw [← hC] at HTl HTe HLe hcl HD
  obtain ⟨n, hn⟩ : ∃ n, n = r.b.length := ⟨_, rfl⟩
  have Hn := Lib.hid hn
  have HC := Lib.hid hC
  have c0 := h.c0
  have hnc : n ≤ c := by rw [hn]; exact h.sb.le
  rw [← hn] at c0 hcl hfew
  have hn2 : n ≤ 200000 := by omega
  have hlies := h.sb.lies
  clear hX hL hC hn h hfew
  go_enter Try.func49, Try.ntmps49
  go_wp2_with fail
  go_loopw [5] (fun iv wr => ∃ (k : Nat), k ≤ n ∧ iv = .int .i64 (k : Int) ∧ C = k + Rd.cnt t (r.b.drop k) ∧ w = wr) (fun iv _ => n - (intOf iv).toNat)
  case atStart => exact ⟨0, Nat.zero_le _, rfl, by rw [List.drop_zero, Nat.zero_add]; exact HC.out, rfl⟩
  case round =>
    obtain ⟨k, hkn, rfl, hK, hw⟩ := hrel
    subst hw
    have HK := Lib.hid hK
    clear hK
    by_cases hlt : k < n
    · have hkr : k < r.b.length := by rw [← Hn.out]; exact hlt
      obtain ⟨b, off, rfl, hE⟩ := HX.out.sb.liesV.rd k hkr
      obtain ⟨HD1, HD2⟩ := HD.out k hkr HK.out
      obtain ⟨y, hy⟩ : ∃ y, y = r.b[k] := ⟨_, rfl⟩
      rw [← hy] at hE HD1 HD2
      obtain ⟨_, d0, d1, d2⟩ := hE
      have H1 := Lib.hid HD1
      have H2 := Lib.hid HD2
      clear HD1 HD2 hy hkr hlies
      by_cases hyt : y.rnd ≤ t
      · have q1 : decide (y.rnd ≤ t) = true := decide_eq_true hyt
        have q2 : ((y.rnd : Int) ≤ (t : Int)) = True := by simp; omega
        have E := Lib.hid (H1.out hyt)
        clear hyt H1 H2
        go_wp2_with fail
        go_roundw
        case rel => exact ⟨k + 1, by omega, by go_num, E.out, by first | trivial | rfl⟩
        case measure => simp [intOf]; omega
      · have q1 : decide (y.rnd ≤ t) = false := decide_eq_false hyt
        have q2 : ((y.rnd : Int) ≤ (t : Int)) = False := by simp; omega
        have E := Lib.hid (H2.out hyt)
        clear hyt H1 H2
        have hkn2 : k ≤ r.b.length := by rw [← Hn.out]; exact hkn
        have HCl : Hid (Calls Try.prog 85 #[.slice (some ⟨b, off, none⟩) k c] w (RetRs X w)) := Lib.hid (cloneR_any w (some ⟨b, off, none⟩) c k X (by rw [HTl.out, E.out]) (by have := (HX.out.sb.take k hkn2).liesV; rw [rdc_take] at this; rw [HTe.out, E.out]; exact this) (fun hA => by rcases HX.out.sb.lies with ⟨_, h0⟩ | ⟨b', off', hb', _⟩; exact h0; rw [hA] at hb'; cases hb') (by rw [HTl.out, E.out]; omega))
        have HDl : Hid (∀ w2, Below w.heap.size w w2 → Calls Try.prog 86 #[.slice (some ⟨b, off, none⟩) n c, .int .i64 0, .int .i64 (k : Int)] w2 fun e w' => e = .returned (.slice (some ⟨b, off, none⟩) (n - k) c) ∧ ∃ v, w'.cell? ⟨p, 0, none⟩ = some v ∧ w'.frozen? ⟨p, 0, none⟩ = false ∧ RdAt (w'.setCell ⟨p, 0, none⟩ (.slice (some ⟨b, off, none⟩) (n - k) c)) p S L ∧ Kr S w2 (w'.setCell ⟨p, 0, none⟩ (.slice (some ⟨b, off, none⟩) (n - k) c))) := Lib.hid fun w2 hb => by
          have h2 := HX.out.bel hb
          refine (deleteR_any w2 (some ⟨b, off, none⟩) n c k r.b (by rw [Hn.out]; exact h2.sb) hkn (by omega)).mono fun e w' ⟨h3, h4, h5⟩ => ⟨h3, ?_⟩
          obtain ⟨⟨v, m1⟩, m2, m3, m4⟩ := rd_setB1 h2 h5 (es := r.b.drop k) h4 (by rw [List.length_drop, Hn.out]) (fun b hb => .inl hb) (by have := HFL.out; rw [HLe.out, E.out] at this; exact this)
          have eS : (fun q => S q ∨ blk (some ⟨b, off, none⟩) = some q) = S := funext fun q => propext ⟨fun hq => hq.elim id (h2.inb q), .inl⟩
          rw [eS] at m3
          exact ⟨v, m1, m2, by rw [HLe.out, E.out]; exact m3.at_, m4⟩
        have HFin : Hid (∀ A2 w2 w3, Below w.heap.size w w2 → (∀ b, blk A2 = some b → w.heap.size ≤ b) → ∀ c2, Sl w2 3 A2 X.length c2 (rdc X) → Kr S w2 w3 → Sl w3 3 A2 X.length c2 (rdc X) ∧ Kr S w w3) := Lib.hid fun A2 w2 w3 hb hz c2 hs hk => ⟨hk.sl hs fun q hq hS => by have h1 := hz q hq; have h2 := HX.out.lt q hS; omega, (Kr.bel hb).trans hk fun k hk => .inl hk⟩
        clear hkn2 HX HTl HTe HLe HD HC HFL HK
        go_wp2_with (first
          | (go_at_call 85; refine HCl.out.mono ?_; rintro e w2 ⟨A2, c2, rfl, l2, z2, b2⟩; have c0' := later b2 c0)
          | (go_at_call 86; refine (HDl.out _ b2).mono ?_; rintro e w3 ⟨rfl, v, m1, m2, m3, m4⟩; have HM := Lib.hid (And.intro m3 (HFin.out A2 w2 _ b2 z2 c2 l2 m4)); clear m3 m4))
        go_ret
        exact ⟨A2, c2, rfl, HM.out.2.1, z2, HM.out.1, HM.out.2.2⟩
    · obtain rfl : k = n := by omega
      have E : Hid (C = k) := Lib.hid (by rw [HK.out, List.drop_eq_nil_of_le (by rw [← Hn.out]; exact Nat.le_refl _)]; rfl)
      rcases hlies with ⟨rfl, rfl⟩ | ⟨b, off, rfl, _⟩
      · obtain rfl : k = 0 := by omega
        have hkn2 : 0 ≤ r.b.length := by rw [← Hn.out]; exact hkn
        have HCl : Hid (Calls Try.prog 85 #[.slice none 0 0] w (RetRs X w)) := Lib.hid (cloneR_any w none 0 0 X (by rw [HTl.out, E.out]) (by have := (HX.out.sb.take 0 hkn2).liesV; rw [rdc_take] at this; rw [HTe.out, E.out]; exact this) (fun _ => rfl) (by rw [HTl.out, E.out]; omega))
        have HDl : Hid (∀ w2, Below w.heap.size w w2 → Calls Try.prog 86 #[.slice none 0 0, .int .i64 0, .int .i64 0] w2 fun e w' => e = .returned (.slice none 0 0) ∧ ∃ v, w'.cell? ⟨p, 0, none⟩ = some v ∧ w'.frozen? ⟨p, 0, none⟩ = false ∧ RdAt (w'.setCell ⟨p, 0, none⟩ (.slice none 0 0)) p S L ∧ Kr S w2 (w'.setCell ⟨p, 0, none⟩ (.slice none 0 0))) := Lib.hid fun w2 hb => by
          have h2 := HX.out.bel hb
          refine (deleteR_any w2 none 0 0 0 r.b (by have := h2.sb; rw [← Hn.out] at this; exact this) (Nat.le_refl _) (by omega)).mono fun e w' ⟨h3, h4, h5⟩ => ⟨h3, ?_⟩
          obtain ⟨⟨v, m1⟩, m2, m3, m4⟩ := rd_setB1 h2 h5 (es := r.b.drop 0) h4 (by rw [List.length_drop, ← Hn.out]) (fun b hb => .inl hb) (by have := HFL.out; rw [HLe.out, E.out] at this; exact this)
          have eS : (fun q => S q ∨ blk none = some q) = S := funext fun q => propext ⟨fun hq => hq.elim id (h2.inb q), .inl⟩
          rw [eS] at m3
          exact ⟨v, m1, m2, by rw [HLe.out, E.out]; exact m3.at_, m4⟩
        have HFin : Hid (∀ A2 w2 w3, Below w.heap.size w w2 → (∀ b, blk A2 = some b → w.heap.size ≤ b) → ∀ c2, Sl w2 3 A2 X.length c2 (rdc X) → Kr S w2 w3 → Sl w3 3 A2 X.length c2 (rdc X) ∧ Kr S w w3) := Lib.hid fun A2 w2 w3 hb hz c2 hs hk => ⟨hk.sl hs fun q hq hS => by have h1 := hz q hq; have h2 := HX.out.lt q hS; omega, (Kr.bel hb).trans hk fun k hk => .inl hk⟩
        clear hkn2 HX HTl HTe HLe HD HC HFL HK
        go_wp2_with (first
          | (go_at_call 85; refine HCl.out.mono ?_; rintro e w2 ⟨A2, c2, rfl, l2, z2, b2⟩; have c0' := later b2 c0)
          | (go_at_call 86; refine (HDl.out _ b2).mono ?_; rintro e w3 ⟨rfl, v, m1, m2, m3, m4⟩; have HM := Lib.hid (And.intro m3 (HFin.out A2 w2 _ b2 z2 c2 l2 m4)); clear m3 m4))
        go_ret
        exact ⟨A2, c2, rfl, HM.out.2.1, z2, HM.out.1, HM.out.2.2⟩
      · clear hlt
        have hkn2 : k ≤ r.b.length := by rw [← Hn.out]; exact hkn
        have HCl : Hid (Calls Try.prog 85 #[.slice (some ⟨b, off, none⟩) k c] w (RetRs X w)) := Lib.hid (cloneR_any w (some ⟨b, off, none⟩) c k X (by rw [HTl.out, E.out]) (by have := (HX.out.sb.take k hkn2).liesV; rw [rdc_take] at this; rw [HTe.out, E.out]; exact this) (fun hA => by rcases HX.out.sb.lies with ⟨_, h0⟩ | ⟨b', off', hb', _⟩; exact h0; rw [hA] at hb'; cases hb') (by rw [HTl.out, E.out]; omega))
        have HDl : Hid (∀ w2, Below w.heap.size w w2 → Calls Try.prog 86 #[.slice (some ⟨b, off, none⟩) k c, .int .i64 0, .int .i64 (k : Int)] w2 fun e w' => e = .returned (.slice (some ⟨b, off, none⟩) 0 c) ∧ ∃ v, w'.cell? ⟨p, 0, none⟩ = some v ∧ w'.frozen? ⟨p, 0, none⟩ = false ∧ RdAt (w'.setCell ⟨p, 0, none⟩ (.slice (some ⟨b, off, none⟩) 0 c)) p S L ∧ Kr S w2 (w'.setCell ⟨p, 0, none⟩ (.slice (some ⟨b, off, none⟩) 0 c))) := Lib.hid fun w2 hb => by
          have h2 := HX.out.bel hb
          have hdel := deleteR_any w2 (some ⟨b, off, none⟩) k c k r.b (by rw [Hn.out]; exact h2.sb) hkn (by omega)
          rw [Nat.sub_self] at hdel
          refine hdel.mono fun e w' ⟨h3, h4, h5⟩ => ⟨h3, ?_⟩
          obtain ⟨⟨v, m1⟩, m2, m3, m4⟩ := rd_setB1 h2 h5 (es := r.b.drop k) h4 (by rw [List.length_drop, ← Hn.out, Nat.sub_self]) (fun b hb => .inl hb) (by have := HFL.out; rw [HLe.out, E.out] at this; exact this)
          have eS : (fun q => S q ∨ blk (some ⟨b, off, none⟩) = some q) = S := funext fun q => propext ⟨fun hq => hq.elim id (h2.inb q), .inl⟩
          rw [eS] at m3
          exact ⟨v, m1, m2, by rw [HLe.out, E.out]; exact m3.at_, m4⟩
        have HFin : Hid (∀ A2 w2 w3, Below w.heap.size w w2 → (∀ b, blk A2 = some b → w.heap.size ≤ b) → ∀ c2, Sl w2 3 A2 X.length c2 (rdc X) → Kr S w2 w3 → Sl w3 3 A2 X.length c2 (rdc X) ∧ Kr S w w3) := Lib.hid fun A2 w2 w3 hb hz c2 hs hk => ⟨hk.sl hs fun q hq hS => by have h1 := hz q hq; have h2 := HX.out.lt q hS; omega, (Kr.bel hb).trans hk fun k hk => .inl hk⟩
        clear hkn2 HX HTl HTe HLe HD HC HFL HK
        go_wp2_with (first
          | (go_at_call 85; refine HCl.out.mono ?_; rintro e w2 ⟨A2, c2, rfl, l2, z2, b2⟩; have c0' := later b2 c0)
          | (go_at_call 86; refine (HDl.out _ b2).mono ?_; rintro e w3 ⟨rfl, v, m1, m2, m3, m4⟩; have HM := Lib.hid (And.intro m3 (HFin.out A2 w2 _ b2 z2 c2 l2 m4)); clear m3 m4))
        go_ret
        exact ⟨A2, c2, rfl, HM.out.2.1, z2, HM.out.1, HM.out.2.2⟩
end Go.Proofs.Ytlnohjboldenpaa
