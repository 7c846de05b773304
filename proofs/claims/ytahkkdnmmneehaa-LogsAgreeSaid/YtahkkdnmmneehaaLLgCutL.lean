/-
  LogsCut walked.
-/
import Derived.Test.YtahkkdnmmneehaaLLgAwake
set_option linter.unusedSimpArgs false
set_option linter.unusedVariables false
namespace Go.Proofs.Ytahkkdnmmneehaa
open Go.RowKit Go.Sort
theorem great_no {es : List En.E} (h : Lg.great es = false) : es.length ≤ 40 ∧ ∀ e ∈ es, e.body.size ≤ 100 := by
  unfold Lg.great at h
  rw [Bool.or_eq_false_iff] at h
  refine ⟨by have := of_decide_eq_false h.1; omega, fun e he => ?_⟩
  have := List.any_eq_false.1 h.2 e he
  simpa using this
/-- Two logs, each made since w, apart. -/
def LgTwo (w W : World) (p q : Nat) (l m : Lg.L) (T : Nat → Prop) : Prop :=
  ∃ S, LgAt W p S l ∧ LgAt W q T m ∧ (∀ k, S k → w.heap.size ≤ k ∧ ¬ T k) ∧ (∀ k, T k → w.heap.size ≤ k) ∧ Below w.heap.size w W
theorem LgTwo.below {w W : World} {p q : Nat} {l m : Lg.L} {T : Nat → Prop} (h : LgTwo w W p q l m T) : Below w.heap.size w W := by
  obtain ⟨S, _, _, _, _, h5⟩ := h
  exact h5
theorem two_mk {w W W' : World} {p q : Nat} {l m : Lg.L} (h : NewI w W p l) (h2 : NewI W W' q m) : ∃ T, LgTwo w W' p q l m T := by
  obtain ⟨⟨S, a1, a2⟩, a3⟩ := h
  obtain ⟨⟨T, b1, b2⟩, b3⟩ := h2
  exact ⟨T, S, a1.bel b3, b1, fun k hk => ⟨a2 k hk, fun ht => absurd (b2 k ht) (Nat.not_le_of_lt (a1.lt k hk))⟩, fun k hk => Nat.le_trans a3.size (b2 k hk), bnext a3 b3⟩
theorem two_cutA {w W : World} {p q : Nat} {l m : Lg.L} {T : Nat → Prop} (h : LgTwo w W p q l m T) (i : Nat) (hi : i < Nm.top) :
    Calls Try.prog 30 #[.pointer (some ⟨p, 0, none⟩), .int .u64 (i : Int)] W fun r w' => r = .returned (.int .i64 ((Lg.cut l i).1 : Nat)) ∧ LgTwo w w' p q (Lg.cut l i).2 m T := by
  obtain ⟨S, h1, h2, h3, h4, h5⟩ := h
  exact (cut_any W h1 i hi).mono fun r w' ⟨a, b, c⟩ => ⟨a, S, b, h2.ks c (fun k hk hs => (h3 k hs).2 hk), h3, h4, c.below h5 fun k hk => (h3 k hk).1⟩
theorem two_cutB {w W : World} {p q : Nat} {l m : Lg.L} {T : Nat → Prop} (h : LgTwo w W p q l m T) (i : Nat) (hi : i < Nm.top) :
    Calls Try.prog 30 #[.pointer (some ⟨q, 0, none⟩), .int .u64 (i : Int)] W fun r w' => r = .returned (.int .i64 ((Lg.cut m i).1 : Nat)) ∧ LgTwo w w' p q l (Lg.cut m i).2 T := by
  obtain ⟨S, h1, h2, h3, h4, h5⟩ := h
  exact (cut_any W h2 i hi).mono fun r w' ⟨a, b, c⟩ => ⟨a, S, h1.ks c (fun k hk => (h3 k hk).2), b, h3, h4, c.below h5 h4⟩
namespace Lg
theorem frm_all (l : L) (m : Nat) (h : l.es.length ≤ m) : frm l 0 m = l.es := by
  have : bel l 0 = 0 := by unfold bel upTo; omega
  unfold frm; rw [this, List.drop_zero, List.take_of_length_le h]
theorem frm_off (l : L) (i m : Nat) (h1 : l.idx ≤ i) (h2 : i ≤ l.idx + l.es.length) (h : l.es.length ≤ m) : frm l (i + 1) m = (off l i).es := by
  have : bel l (i + 1) = i - l.idx := by unfold bel upTo; omega
  unfold frm; rw [this, List.take_of_length_le (by rw [List.length_drop]; omega)]; rfl
theorem memA_off (l : L) (i : Nat) (h1 : l.idx ≤ i) (h2 : i ≤ l.idx + l.es.length) : (memA (off l i) (off l i).es.length).1 = (memA l l.es.length).1 := by
  rw [off_mem, off_len]; congr 2; omega
end Lg
set_option maxRecDepth 100000 in
set_option maxHeartbeats 8000000 in
theorem logsCut_any (w : World) (i : Nat) (hi : i < Nm.top) (t : Nat) (ht : t < Nm.top) (m : Nat) (hm : m < 256) (A : Option Addr) (cp : Nat) (es : List En.E) (g : GivenE w A cp es)
    (B : Option Addr) (cb : Nat) (rs : List Nat) (hB : Lies w B (bn rs)) (hr : ∀ n ∈ rs, n < 256) (hrl : rs.length ≤ maxLen) (x : Nat) (hx : x < 256) (y : Nat) (hy : y < 256) :
    Calls Try.prog 8 #[.int .u64 (i : Int), .int .u64 (t : Int), .int .u8 (m : Int), .slice A es.length cp, .slice B rs.length cb, .int .u8 (x : Int), .int .u8 (y : Int)] w (RetL (.bool true) w) := by
  have HG := Lib.hid (great_any w A cp es g.lies g.len fun e he => (g.fits e he).2)
  have HAw := Lib.hid awake_any
  have HNo : Hid (Lg.great es = false → es.length ≤ 40 ∧ ∀ e ∈ es, e.body.size ≤ 100) := Lib.hid great_no
  unfold Nm.top at hi ht
  cases hgr : Lg.great es with
  | true =>
    rw [hgr] at HG
    clear hgr HNo g hB hr hrl
    go_enter Try.func8, Try.ntmps8
    go_wp2_with (first | (go_at_call 11; refine HG.out.mono ?_; rintro r w1 ⟨rfl, hb1⟩) | (go_at_call 12; refine (HAw.out _).mono ?_; rintro r w2 ⟨rfl, hb2⟩))
    go_ret
    exact ⟨rfl, bnext hb1 hb2⟩
  | false =>
  obtain ⟨hn40, hbod⟩ := HNo.out hgr
  rw [hgr] at HG
  have hln := g.len
  simp only [maxLen] at hln
  by_cases hi2 : i ≤ 1152921504606846976
  case neg =>
    have q1 : decide ((1152921504606846976 : Int) < (i : Int)) = true := by simp; omega
    have q2 : ((1152921504606846976 : Int) < (i : Int)) = True := by simp; omega
    clear hgr HNo g hB hr hrl
    go_enter Try.func8, Try.ntmps8
    go_wp2_with (first | (go_at_call 11; refine HG.out.mono ?_; rintro r w1 ⟨rfl, hb1⟩) | (go_at_call 12; refine (HAw.out _).mono ?_; rintro r w2 ⟨rfl, hb2⟩))
    go_ret
    exact ⟨rfl, bnext hb1 hb2⟩
  have q1 : decide ((1152921504606846976 : Int) < (i : Int)) = false := by simp; omega
  have q2 : ((1152921504606846976 : Int) < (i : Int)) = False := by simp; omega
  by_cases ht2 : t ≤ 1152921504606846976
  case neg =>
    have q3 : decide ((1152921504606846976 : Int) < (t : Int)) = true := by simp; omega
    have q4 : ((1152921504606846976 : Int) < (t : Int)) = True := by simp; omega
    clear hgr HNo g hB hr hrl
    go_enter Try.func8, Try.ntmps8
    go_wp2_with (first | (go_at_call 11; refine HG.out.mono ?_; rintro r w1 ⟨rfl, hb1⟩) | (go_at_call 12; refine (HAw.out _).mono ?_; rintro r w2 ⟨rfl, hb2⟩))
    go_ret
    exact ⟨rfl, bnext hb1 hb2⟩
  have q3 : decide ((1152921504606846976 : Int) < (t : Int)) = false := by simp; omega
  have q4 : ((1152921504606846976 : Int) < (t : Int)) = False := by simp; omega
  have HGr : Hid (∀ W', Below w.heap.size w W' → Calls Try.prog 31 #[.int .u64 (i : Int), .int .u64 (t : Int), .int .u8 (m : Int), .slice A es.length cp, .slice B rs.length cb] W' fun r w' => ∃ p, r = .returned (.pointer (some ⟨p, 0, none⟩)) ∧ NewI W' w' p (Lg.grown i t m es rs)) := Lib.hid fun W' hb =>
    grown_any W' i t m hi2 ht2 hm A cp es (g.lies.below hb) hn40 (fun e he => ⟨(g.fits e he).1, by have := hbod e he; omega⟩) B cb rs (hB.below hb) hr hrl
  obtain ⟨gok, gi, gt, gm, gl, _⟩ := Lg.grw_all i t m es rs es.length
  obtain ⟨L, hL⟩ : ∃ L, L = Lg.grown i t m es rs := ⟨_, rfl⟩
  have gok : Lg.Ok L := by rw [hL]; exact gok
  have gi : L.idx = i := by rw [hL]; exact gi
  have gl : L.es.length = es.length := by rw [hL]; exact gl
  rw [← hL] at HGr
  obtain ⟨n, hnn⟩ : ∃ n, n = es.length := ⟨_, rfl⟩
  rw [← hnn] at HGr HG hn40 gl hln ⊢
  obtain ⟨P, hP⟩ : ∃ P, P = i + x % (n + 1) := ⟨_, rfl⟩
  have hP2 := Nat.mod_lt x (show 0 < n + 1 by omega)
  obtain ⟨Q, hQ⟩ : ∃ Q, Q = P + y % (i + n - P + 1) := ⟨_, rfl⟩
  have hQ2 := Nat.mod_lt y (show 0 < i + n - P + 1 by omega)
  have p1 : i ≤ P := by omega
  have p2 : P ≤ i + n := by omega
  have p3 : P ≤ Q := by omega
  have p4 : Q ≤ i + n := by omega
  have eP : (i : Int) + (x : Int) % ((n : Int) + 1) = (P : Int) := by rw [hP]; push_cast; rfl
  have eP2 : (i : Int) + (x : Int).tmod ((n : Int) + 1) = (P : Int) := by rw [Int.tmod_eq_emod_of_nonneg (by omega)]; exact eP
  have eQ : (P : Int) + (y : Int) % ((i : Int) + (n : Int) - (P : Int) + 1) = (Q : Int) := by
    rw [hQ]
    have : ((i : Int) + (n : Int) - (P : Int) + 1) = ((i + n - P + 1 : Nat) : Int) := by omega
    rw [this]; push_cast; rfl
  have eQ2 : (P : Int) + (y : Int).tmod ((i : Int) + (n : Int) - (P : Int) + 1) = (Q : Int) := by rw [Int.tmod_eq_emod_of_nonneg (by omega)]; exact eQ
  have C1 : Hid (Lg.cut L P = (0, Lg.off L P)) := Lib.hid (Lg.cut_off gok (by omega) (by omega))
  have okP := Lg.off_ok gok (i := P) (by omega) (by omega)
  have lP : (Lg.off L P).es.length = n - (P - i) := by rw [Lg.off_len, gl, gi]
  have C2 : Hid (Lg.cut (Lg.off L P) Q = (0, Lg.off L Q)) := Lib.hid (by
    rw [Lg.cut_off okP (by show P ≤ Q; exact p3) (by rw [lP]; show Q ≤ P + _; omega), Lg.off_off gok (by omega) p3 (by omega)])
  have C3 : Hid (Lg.cut L Q = (0, Lg.off L Q)) := Lib.hid (Lg.cut_off gok (by omega) (by omega))
  have F1 : Hid (Lg.frm (Lg.off L Q) 0 1048576 = (Lg.off L Q).es) := Lib.hid (Lg.frm_all _ _ (by rw [Lg.off_len]; omega))
  have F2 : Hid (Lg.frm L (Q + 1) 1048576 = (Lg.off L Q).es) := Lib.hid (Lg.frm_off _ _ _ (by omega) (by omega) (by omega))
  have ML : Hid ((Lg.memA (Lg.off L Q) (Lg.off L Q).es.length).1 = (Lg.memA L L.es.length).1) := Lib.hid (Lg.memA_off L Q (by omega) (by omega))
  have LL : Hid (Lg.lst (Lg.off L Q) = Lg.lst L) := Lib.hid (Lg.off_lst gok (by omega) (by omega))
  have LI : (Lg.lst L).1 = i + n := by rw [gok.lst, gi, gl]
  have TQ : Hid (Lg.term L Q = some (Lg.tat L (Q - i))) := Lib.hid (by rw [Lg.term_ok gok, if_pos (by omega), gi])
  have TK : Hid (∀ k, Q ≤ k → k ≤ i + n → Lg.term L k = some (Lg.tat L (k - i)) ∧ Lg.term (Lg.off L Q) k = some (Lg.tat L (k - i))) := Lib.hid fun k h1 h2 => by
    have e : Lg.term L k = some (Lg.tat L (k - i)) := by rw [Lg.term_ok gok, if_pos (by omega), gi]
    exact ⟨e, by rw [Lg.off_term gok (by omega) (by omega) k h1]; exact e⟩
  have MK : Hid (∀ k, Q ≤ k → (Lg.memA (Lg.off L Q) (Lg.upTo (Lg.off L Q) k)).1 = (Lg.memA L (Lg.upTo L k)).1) := Lib.hid fun k h1 => Lg.off_up (by omega) h1
  have IQ : Hid ((Lg.off L Q).idx = Q ∧ (Lg.off L Q).trm = Lg.tat L (Q - i)) := Lib.hid ⟨rfl, by show Lg.tat L (Q - L.idx) = _; rw [gi]⟩
  have FL : (Lg.off L Q).es.length ≤ 40 := by rw [Lg.off_len]; omega
  obtain ⟨M, hM⟩ : ∃ M, M = Lg.off L Q := ⟨_, rfl⟩
  rw [← hM] at C2 C3 F1 F2 ML LL TK MK IQ FL
  obtain ⟨MP, hMP⟩ : ∃ MP, MP = Lg.off L P := ⟨_, rfl⟩
  rw [← hMP] at C1 C2
  clear hM hMP hP hQ hP2 hQ2 gok gi gt gm gl okP lP hL hnn HNo hgr hbod g hB hr hrl
  go_enter Try.func8, Try.ntmps8
  go_upto_region 3 with (go_at_call 11; refine HG.out.mono ?_; rintro r w1 ⟨rfl, hb1⟩)
  go_upto_region 9 with (first | (go_at_call 31; refine (HGr.out _ (bnext hb1 hI2.bl)).mono ?_; rintro r w3 ⟨pb, rfl, hI3⟩) | (go_at_call 31; refine (HGr.out _ hb1).mono ?_; rintro r w2 ⟨pa, rfl, hI2⟩))
  obtain ⟨T, hT⟩ := two_mk hI2 hI3
  have K1 : Hid (Calls Try.prog 30 #[.pointer (some ⟨pa, 0, none⟩), .int .u64 (P : Int)] w3 fun r w' => r = .returned (.int .i64 0) ∧ LgTwo w1 w' pa pb MP L T) := Lib.hid ((two_cutA hT P (by unfold Nm.top; omega)).mono fun r w' h => by rw [C1.out] at h; exact h)
  have K2 : Hid (∀ W, LgTwo w1 W pa pb MP L T → Calls Try.prog 30 #[.pointer (some ⟨pa, 0, none⟩), .int .u64 (Q : Int)] W fun r w' => r = .returned (.int .i64 0) ∧ LgTwo w1 w' pa pb M L T) := Lib.hid fun W hT => ((two_cutA hT Q (by unfold Nm.top; omega)).mono fun r w' h => by rw [C2.out] at h; exact h)
  have K3 : Hid (∀ W, LgTwo w1 W pa pb M L T → Calls Try.prog 30 #[.pointer (some ⟨pb, 0, none⟩), .int .u64 (Q : Int)] W fun r w' => r = .returned (.int .i64 0) ∧ LgTwo w1 w' pa pb M M T) := Lib.hid fun W hT => ((two_cutB hT Q (by unfold Nm.top; omega)).mono fun r w' h => by rw [C3.out] at h; exact h)
  clear hI2 hI3 hT C1 C2 C3
  go_upto_region 11 with (first
    | (go_at_call 30; refine (K3.out _ h5).mono ?_; rintro r w6 ⟨rfl, h6⟩)
    | (go_at_call 30; refine (K2.out _ h4).mono ?_; rintro r w5 ⟨rfl, h5⟩)
    | (go_at_call 30; refine K1.out.mono ?_; rintro r w4 ⟨rfl, h4⟩))
  go_upto_region 12 with (go_at_call 31; refine (HGr.out _ (bnext hb1 h6.below)).mono ?_; rintro r w7 ⟨pc, rfl, h7⟩)
  obtain ⟨Sa, a1, a2, _, _, b1⟩ := h6
  obtain ⟨⟨Sc, c1, _⟩, b7⟩ := h7
  have HB7 := Lib.hid (bnext (bnext hb1 b1) b7)
  have HAa : Hid (∀ W', Below w7.heap.size w7 W' → LgAt W' pa Sa M) := Lib.hid fun W' hb => (a1.bel b7).bel hb
  have HAb : Hid (∀ W', Below w7.heap.size w7 W' → LgAt W' pb T M) := Lib.hid fun W' hb => (a2.bel b7).bel hb
  have HAc : Hid (∀ W', Below w7.heap.size w7 W' → LgAt W' pc Sc L) := Lib.hid fun W' hb => c1.bel hb
  have HLf : Hid ((∀ e ∈ L.es, e.idx < Nm.top) ∧ (∀ e ∈ M.es, e.idx < Nm.top)) := Lib.hid ⟨fun e he => (c1.fit.es e he).1.idx, fun e he => (a1.fit.es e he).1.idx⟩
  clear a1 a2 b1 c1 b7 h4 h5 hb1 K1 K2 K3 HGr HG q1 q2 q3 q4 eP eP2 eQ eQ2
  obtain ⟨U, hU⟩ : ∃ U, U = Lg.tat L (Q - i) := ⟨_, rfl⟩
  rw [← hU] at TQ IQ
  obtain ⟨N, hN⟩ : ∃ N, N = i + n := ⟨_, rfl⟩
  rw [← hN] at TK LI p4
  have hN2 : N ≤ 1152921504606847016 := by omega
  have HFst : Hid (Calls Try.prog 21 #[.pointer (some ⟨pa, 0, none⟩)] w7 (RetL (.tuple #[.int .u64 (Q : Int), .int .u64 (U : Int)]) w7)) := Lib.hid (by
    have := first_any w7 (HAa.out _ (Below.refl _ _))
    rw [IQ.out.1, IQ.out.2] at this; exact this)
  have HTm : Hid (∀ W', Below w7.heap.size w7 W' → Calls Try.prog 24 #[.pointer (some ⟨pc, 0, none⟩), .int .u64 (Q : Int)] W' (RetL (.tuple #[.int .u64 (U : Int), .bool true]) W')) := Lib.hid fun W' hb => by
    have := term_any W' (HAc.out _ hb) Q (by unfold Nm.top; omega) HLf.out.1
    rw [TQ.out] at this; exact this
  have HTa : Hid (∀ k, Q ≤ k → k ≤ N → ∀ W', Below w7.heap.size w7 W' → Calls Try.prog 24 #[.pointer (some ⟨pa, 0, none⟩), .int .u64 (k : Int)] W' (RetL (.tuple #[.int .u64 (Lg.tat L (k - i) : Int), .bool true]) W')) := Lib.hid fun k h1 h2 W' hb => by
    have := term_any W' (HAa.out _ hb) k (by unfold Nm.top; omega) HLf.out.2
    rw [(TK.out k h1 h2).2] at this; exact this
  have HTc : Hid (∀ k, Q ≤ k → k ≤ N → ∀ W', Below w7.heap.size w7 W' → Calls Try.prog 24 #[.pointer (some ⟨pc, 0, none⟩), .int .u64 (k : Int)] W' (RetL (.tuple #[.int .u64 (Lg.tat L (k - i) : Int), .bool true]) W')) := Lib.hid fun k h1 h2 W' hb => by
    have := term_any W' (HAc.out _ hb) k (by unfold Nm.top; omega) HLf.out.1
    rw [(TK.out k h1 h2).1] at this; exact this
  have HMa : Hid (∀ k, Q ≤ k → k ≤ N → ∀ W', Below w7.heap.size w7 W' → Calls Try.prog 26 #[.pointer (some ⟨pa, 0, none⟩), .int .u64 (k : Int)] W' (RetL (.int .u8 ((Lg.memA L (Lg.upTo L k)).1 : Int)) W')) := Lib.hid fun k h1 h2 W' hb => by
    have := membersAt_any W' (HAa.out _ hb) k (by unfold Nm.top; omega)
    rw [MK.out k h1] at this; exact this
  have HMc : Hid (∀ k, Q ≤ k → k ≤ N → ∀ W', Below w7.heap.size w7 W' → Calls Try.prog 26 #[.pointer (some ⟨pc, 0, none⟩), .int .u64 (k : Int)] W' (RetL (.int .u8 ((Lg.memA L (Lg.upTo L k)).1 : Int)) W')) := Lib.hid fun k h1 h2 W' hb => membersAt_any W' (HAc.out _ hb) k (by unfold Nm.top; omega)
  have HLa : Hid (∀ W', Below w7.heap.size w7 W' → Calls Try.prog 22 #[.pointer (some ⟨pa, 0, none⟩)] W' (RetL (.tuple #[.int .u64 (N : Int), .int .u64 ((Lg.lst L).2 : Int)]) W')) := Lib.hid fun W' hb => by
    have := last_any W' (HAa.out _ hb)
    rw [LL.out, LI] at this; exact this
  have HLc : Hid (∀ W', Below w7.heap.size w7 W' → Calls Try.prog 22 #[.pointer (some ⟨pc, 0, none⟩)] W' (RetL (.tuple #[.int .u64 (N : Int), .int .u64 ((Lg.lst L).2 : Int)]) W')) := Lib.hid fun W' hb => by
    have := last_any W' (HAc.out _ hb)
    rw [LI] at this; exact this
  have HEa : Hid (∀ W', Below w7.heap.size w7 W' → Calls Try.prog 23 #[.pointer (some ⟨pa, 0, none⟩)] W' (RetL (.tuple #[.int .u8 ((Lg.memA L L.es.length).1 : Int), .int .u64 ((Lg.memA M M.es.length).2 : Int)]) W')) := Lib.hid fun W' hb => by
    have := members_any W' (HAa.out _ hb)
    rw [ML.out] at this; exact this
  have HEc : Hid (∀ W', Below w7.heap.size w7 W' → Calls Try.prog 23 #[.pointer (some ⟨pc, 0, none⟩)] W' (RetL (.tuple #[.int .u8 ((Lg.memA L L.es.length).1 : Int), .int .u64 ((Lg.memA L L.es.length).2 : Int)]) W')) := Lib.hid fun W' hb => members_any W' (HAc.out _ hb)
  have HFa : Hid (∀ W', Below w7.heap.size w7 W' → Calls Try.prog 25 #[.pointer (some ⟨pa, 0, none⟩), .int .u64 0, .int .i64 1048576] W' fun r w' => ∃ A c, r = .returned (.slice A M.es.length c) ∧ Lies w' A (ec M.es) ∧ Below W'.heap.size W' w') := Lib.hid fun W' hb => (from_any W' (HAa.out _ hb) 0 1048576 (by unfold Nm.top; omega) (by omega)).mono fun r w' h => by
    rw [F1.out] at h
    obtain ⟨A, c, h1, h2, _, _, h5⟩ := h.lies
    exact ⟨A, c, h1, h2, h5⟩
  have HFb : Hid (∀ W', Below w7.heap.size w7 W' → Calls Try.prog 25 #[.pointer (some ⟨pb, 0, none⟩), .int .u64 0, .int .i64 1048576] W' fun r w' => ∃ A c, r = .returned (.slice A M.es.length c) ∧ Lies w' A (ec M.es) ∧ Below W'.heap.size W' w') := Lib.hid fun W' hb => (from_any W' (HAb.out _ hb) 0 1048576 (by unfold Nm.top; omega) (by omega)).mono fun r w' h => by
    rw [F1.out] at h
    obtain ⟨A, c, h1, h2, _, _, h5⟩ := h.lies
    exact ⟨A, c, h1, h2, h5⟩
  have HFc : Hid (∀ W', Below w7.heap.size w7 W' → Calls Try.prog 25 #[.pointer (some ⟨pc, 0, none⟩), .int .u64 ((Q : Int) + 1), .int .i64 1048576] W' fun r w' => ∃ A c, r = .returned (.slice A M.es.length c) ∧ Lies w' A (ec M.es) ∧ Below W'.heap.size W' w') := Lib.hid fun W' hb => by
    have e : ((Q : Int) + 1) = ((Q + 1 : Nat) : Int) := by omega
    rw [e]
    exact (from_any W' (HAc.out _ hb) (Q + 1) 1048576 (by unfold Nm.top; omega) (by omega)).mono fun r w' h => by
      rw [F2.out] at h
      obtain ⟨A, c, h1, h2, _, _, h5⟩ := h.lies
      exact ⟨A, c, h1, h2, h5⟩
  have HSm : Hid (∀ A B ca cb W, Lies W A (ec M.es) → Lies W B (ec M.es) → Calls Try.prog 17 #[.slice A M.es.length ca, .slice B M.es.length cb] W (RetL (.bool true) W)) := Lib.hid fun A B ca cb W h1 h2 => by
    have := same_any W A B ca cb M.es M.es h1 h2 (by simp only [maxLen]; omega) (by simp only [maxLen]; omega)
    rw [decide_eq_true rfl] at this; exact this
  generalize (Lg.lst L).2 = V at HLa HLc
  generalize (Lg.memA L L.es.length).1 = mm at HEa HEc
  generalize (Lg.memA L L.es.length).2 = m1 at HEc
  generalize (Lg.memA M M.es.length).2 = m2 at HEa
  obtain ⟨f, hf⟩ : ∃ f, f = M.es.length := ⟨_, rfl⟩
  rw [← hf] at HFa HFb HFc HSm
  have hTk : ∀ k, Lg.tat L (k - i) = Lg.tat L (k - i) := fun _ => rfl
  clear hU hN hf FL TQ IQ MK TK LL ML F1 F2 LI HLf HAa HAb HAc hTk
  go_upto_region 16 with (first
    | (go_at_call 17; refine (HSm.out _ _ _ _ _ (l13.below b14) l14).mono ?_; rintro r w15 ⟨rfl, b15⟩; have k15 := bnext k14 b15)
    | (go_at_call 25; refine (HFc.out _ k13).mono ?_; rintro r w14 ⟨A14, c14, rfl, l14, b14⟩; have k14 := bnext k13 b14)
    | (go_at_call 25; refine (HFa.out _ k12).mono ?_; rintro r w13 ⟨A13, c13, rfl, l13, b13⟩; have k13 := bnext k12 b13)
    | (go_at_call 17; refine (HSm.out _ _ _ _ _ (l10.below b11) l11).mono ?_; rintro r w12 ⟨rfl, b12⟩; have k12 := bnext k11 b12)
    | (go_at_call 25; refine (HFb.out _ k10).mono ?_; rintro r w11 ⟨A11, c11, rfl, l11, b11⟩; have k11 := bnext k10 b11)
    | (go_at_call 25; refine (HFa.out _ k9).mono ?_; rintro r w10 ⟨A10, c10, rfl, l10, b10⟩; have k10 := bnext k9 b10)
    | (go_at_call 24; refine (HTm.out _ k8).mono ?_; rintro r w9 ⟨rfl, b9⟩; have k9 := bnext k8 b9)
    | (go_at_call 21; refine HFst.out.mono ?_; rintro r w8 ⟨rfl, k8⟩))
  have H15 := Lib.hid k15
  clear k8 k9 k10 k11 k12 k13 k14 k15 b9 b10 b11 b12 b13 b14 b15 l10 l11 l13 l14 HFst HTm HFa HFb HFc HSm
  go_upto_region 20 with (first
    | (go_at_call 23; refine (HEc.out _ k18).mono ?_; rintro r w19 ⟨rfl, b19⟩; have k19 := bnext k18 b19)
    | (go_at_call 23; refine (HEa.out _ k17).mono ?_; rintro r w18 ⟨rfl, b18⟩; have k18 := bnext k17 b18)
    | (go_at_call 22; refine (HLc.out _ k16).mono ?_; rintro r w17 ⟨rfl, b17⟩; have k17 := bnext k16 b17)
    | (go_at_call 22; refine (HLa.out _ H15.out).mono ?_; rintro r w16 ⟨rfl, b16⟩; have k16 := bnext H15.out b16))
  have H19 := Lib.hid k19
  clear k16 k17 k18 k19 b16 b17 b18 b19 HLa HLc HEa HEc H15
  go_wp2_with fail
  go_loopw [32] (fun kv wr => ∃ (k : Nat), Q ≤ k ∧ k ≤ N + 1 ∧ kv = .int .u64 (k : Int) ∧ Below w7.heap.size w7 wr) (fun kv _ => N + 1 - (intOf kv).toNat)
  case atStart => exact ⟨Q, Nat.le_refl _, by omega, rfl, H19.out⟩
  case round =>
    obtain ⟨k, hk1, hk2, rfl, hW⟩ := hrel
    have HW := Lib.hid hW
    clear hW
    by_cases hlt : k ≤ N
    · have q1 : decide ((k : Int) ≤ (N : Int)) = true := by simp; omega
      have q2 : ((k : Int) ≤ (N : Int)) = True := by simp; omega
      have G1 := Lib.hid (HTa.out k hk1 hlt)
      have G2 := Lib.hid (HTc.out k hk1 hlt)
      have G3 := Lib.hid (HMa.out k hk1 hlt)
      have G4 := Lib.hid (HMc.out k hk1 hlt)
      generalize Lg.tat L (k - i) = tk at G1 G2
      generalize (Lg.memA L (Lg.upTo L k)).1 = mk at G3 G4
      go_wp2_with (first
        | (go_at_call 26; refine (G4.out _ k3).mono ?_; rintro r x4 ⟨rfl, b4⟩; have k4 := bnext k3 b4)
        | (go_at_call 26; refine (G3.out _ k2).mono ?_; rintro r x3 ⟨rfl, b3⟩; have k3 := bnext k2 b3)
        | (go_at_call 24; refine (G2.out _ k1).mono ?_; rintro r x2 ⟨rfl, b2⟩; have k2 := bnext k1 b2)
        | (go_at_call 24; refine (G1.out _ HW.out).mono ?_; rintro r x1 ⟨rfl, b1⟩; have k1 := bnext HW.out b1))
      go_roundw
      case rel => exact ⟨k + 1, by omega, by omega, by go_num, k4⟩
      case measure => simp [intOf]; omega
    · obtain rfl : k = N + 1 := by omega
      have q1 : decide (((N + 1 : Nat) : Int) ≤ (N : Int)) = false := by simp; omega
      have q2 : (((N + 1 : Nat) : Int) ≤ (N : Int)) = False := by simp; omega
      go_wp2_with (go_at_call 12; refine (HAw.out _).mono ?_; rintro r x1 ⟨rfl, b1⟩)
      go_ret
      exact ⟨rfl, bnext (bnext HB7.out HW.out) b1⟩
theorem logsCut_walk (w : World) (a0 : Int) (h0 : (Lit.int .u64 a0).wf = true) (a1 : Int) (h1 : (Lit.int .u64 a1).wf = true) (a2 : Int) (h2 : (Lit.int .u8 a2).wf = true) (A : Option Addr) (cp : Nat) (es : List En.E) (g : GivenE w A cp es)
    (B : Option Addr) (cb : Nat) (rs : List Nat) (hB : Lies w B (bn rs)) (hr : ∀ n ∈ rs, n < 256) (hrl : rs.length ≤ maxLen) (a3 : Int) (h3 : (Lit.int .u8 a3).wf = true) (a4 : Int) (h4 : (Lit.int .u8 a4).wf = true) :
    Calls Try.prog 8 #[.int .u64 a0, .int .u64 a1, .int .u8 a2, .slice A es.length cp, .slice B rs.length cb, .int .u8 a3, .int .u8 a4] w fun e w' => e = .returned (.bool true) ∧ Below w.heap.size w w' := by
  obtain ⟨n0, rfl, z0⟩ := u64_nat h0
  obtain ⟨n1, rfl, z1⟩ := u64_nat h1
  obtain ⟨n2, rfl, z2⟩ := u8_nat h2
  obtain ⟨n3, rfl, z3⟩ := u8_nat h3
  obtain ⟨n4, rfl, z4⟩ := u8_nat h4
  exact logsCut_any w n0 z0 n1 z1 n2 z2 A cp es g B cb rs hB hr hrl n3 z3 n4 z4
end Go.Proofs.Ytahkkdnmmneehaa
