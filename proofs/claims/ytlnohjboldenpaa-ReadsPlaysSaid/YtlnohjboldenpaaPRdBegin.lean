/-
  Reads: Begin walked.
-/
import Derived.Test.YtlnohjboldenpaaPRdAsk
import Derived.Deep.WholeRow
set_option linter.unusedSimpArgs false
set_option linter.unusedVariables false
namespace Go.Proofs.Ytlnohjboldenpaa
open Go.RowKit Go.Sort
theorem rbegin_nil (w : World) (i t : Nat) : Calls Try.prog 48 #[.pointer none, .int .u64 (i : Int), .int .u64 (t : Int)] w (RetR (.int .i64 0) w) := by
  go_enter Try.func48, Try.ntmps48
  go_wp2_with fail
  go_ret
  exact ⟨rfl, Below.refl _ _⟩
theorem sizeRd : (Try.prog.info? 97).map (·.size) = some 3 := by kernel_rfl
theorem storeRdD (e : Rd.E) (W : World) : (storeCells ⟨W.heap.size, 0, none⟩ [.int .u64 (e.id : Int), .int .u64 (e.idx : Int), .int .u64 (e.rnd : Int)] 0).run Try.prog (W.alloc (.cells #[.int .u64 0, .int .u64 0, .int .u64 0] 97)).drew = .ok () (W.alloc (.cells #[.int .u64 (e.id : Int), .int .u64 (e.idx : Int), .int .u64 (e.rnd : Int)] 97)).drew :=
  run_storeCells_new (P := Try.prog) W.drew 97 #[.int .u64 0, .int .u64 0, .int .u64 0] #[.int .u64 (e.id : Int), .int .u64 (e.idx : Int), .int .u64 (e.rnd : Int)] sizeRd rfl (by simp [Value.oneCell'])
theorem max_int (a b M : Nat) (h : M = max a b) : (if a < b then (b : Int) else (a : Int)) = (M : Int) := by split <;> omega
set_option maxRecDepth 100000 in
set_option maxHeartbeats 2000000 in
theorem rbegin_any {p : Nat} {S : Nat → Prop} {r : Rd.R} (w : World) (h : RdAt w p S r) (i t : Nat) (hi : i < Nm.top) (ht : t < Nm.top) (hfew : r.b.length + r.w.length ≤ 100000) :
    Calls Try.prog 48 #[.pointer (some ⟨p, 0, none⟩), .int .u64 (i : Int), .int .u64 (t : Int)] w fun e w' => e = .returned (.int .i64 (r.w.length : Int)) ∧ RNow w w' p S (Rd.begin r i t) := by
  obtain ⟨i0, hi0, hz0, hz1, hz2⟩ := info_partsR infoRd
  have hff := Rd.begin_fits h.fit hi ht
  have hfit := h.fit
  have hh1 := Rd.hi_fits h.fit hi
  have hh2 := Rd.hr_fits h.fit ht
  obtain ⟨A, c, B, d, h⟩ := h.own
  have HX := Lib.hid h
  obtain ⟨I, hI⟩ : ∃ I, I = Rd.hi r.b i := ⟨_, rfl⟩
  obtain ⟨T, hT⟩ : ∃ T, T = Rd.hr r.b t := ⟨_, rfl⟩
  have HE : Hid (Rd.begin r i t = ⟨r.b ++ Rd.put I T r.w, []⟩) := Lib.hid (by rw [hI, hT]; rfl)
  obtain ⟨R, hR⟩ : ∃ R, R = Rd.begin r i t := ⟨_, rfl⟩
  rw [← hR] at HE hff ⊢
  have hIf : I < Nm.top := by rw [hI]; exact hh1
  have hTf : T < Nm.top := by rw [hT]; exact hh2
  have HME : Hid (∀ k, k ≤ r.w.length → r.b.length + r.w.length + r.w.length ≤ 200000 → Rd.Fits ⟨r.b ++ Rd.put I T (r.w.take k), r.w⟩) := Lib.hid fun k hk hfw => ⟨fun e he => Rd.mid_fits hfit hIf hTf (r.w.take k) (fun x hx => hfit.w x (List.mem_of_mem_take hx)) e he, hfit.w, by show (r.b ++ Rd.put I T (r.w.take k)).length + r.w.length ≤ _; rw [List.length_append, Rd.put_len, List.length_take]; omega⟩
  have c0 := h.c0
  have c1 := h.c1
  obtain ⟨n, hn⟩ : ∃ n, n = r.b.length := ⟨_, rfl⟩
  obtain ⟨m, hm⟩ : ∃ m, m = r.w.length := ⟨_, rfl⟩
  rw [← hn] at c0
  rw [← hm] at c1 ⊢
  have Hn := Lib.hid hn
  have Hm := Lib.hid hm
  have hnm : n + m ≤ 100000 := by omega
  clear hR hh1 hh2 hff
  go_enter Try.func48, Try.ntmps48
  by_cases h0 : n = 0
  case pos =>
    have e : r.b = [] := List.eq_nil_of_length_eq_zero (by omega)
    have hIi : I = i := by rw [hI, e]; rfl
    have hTt : T = t := by rw [hT, e]; rfl
    have q1 : decide (0 < n) = false := decide_eq_false (by omega)
    have q2 : ((0 : Int) < (n : Int)) = False := by simp; omega
    clear h0 e hI hT hn hm h hi ht
    subst hIi hTt
    go_upto_region 6 with (fail)
    refine forget (fun W6 => RdX W6 p S r A c B d ∧ Bl w W6) ⟨HX.out, Bl.refl w⟩ ?_
    intro W6 H6
    have HX6 := Lib.hid H6.1
    have HB6 := Lib.hid H6.2
    have c06 := H6.1.c0
    have c16 := H6.1.c1
    rw [← Hm.out] at c16
    clear H6 c0 c1
    go_wp2_with fail
    go_loopw [49] (fun iv wr => ∃ (k : Nat) (A' : Option Addr) (c' : Nat) (S' : Nat → Prop), k ≤ m ∧ iv = .int .i64 (k : Int) ∧ RdX wr p S' ⟨r.b ++ Rd.put I T (r.w.take k), r.w⟩ A' c' B d ∧ (∀ q, S' q → S q ∨ w.heap.size ≤ q) ∧ Kr S w wr) (fun iv _ => m - (intOf iv).toNat)
    case atStart => exact ⟨0, _, _, S, Nat.zero_le _, rfl, by have := HX6.out; simpa [Rd.put] using this, fun q hq => .inl hq, Kr.bel HB6.out.bel⟩
    case round =>
      obtain ⟨k, A', c', S', hkm, rfl, hX, hS', hK⟩ := hrel
      have HXr := Lib.hid hX
      have HSr := Lib.hid hS'
      have HKr := Lib.hid hK
      obtain ⟨q, hq⟩ : ∃ q, q = (r.b ++ Rd.put I T (r.w.take k)).length := ⟨_, rfl⟩
      have hqn0 : q = n + k := by rw [hq, List.length_append, Rd.put_len, List.length_take, ← Hn.out, ← Hm.out]; omega
      have Hq := Lib.hid hq
      have HQN := Lib.hid hqn0
      have hqn : q ≤ 200000 := by omega
      clear hqn0
      have g0 := hX.c0
      have g1 := hX.c1
      rw [← Hm.out] at g1
      rw [← hq] at g0
      clear c06 c16 hX hS' hK hq
      by_cases hlt : k < m
      · have hkr : k < r.w.length := by rw [← Hm.out]; exact hlt
        obtain ⟨gb, go, rfl, d0⟩ := HXr.out.sw.liesV.u k hkr
        obtain ⟨x, hx⟩ : ∃ x, x = r.w[k] := ⟨_, rfl⟩
        have HT1 : Hid (Rd.put I T (r.w.take (k + 1)) = Rd.put I T (r.w.take k) ++ [⟨x, I, T⟩]) := Lib.hid (by rw [List.take_succ_eq_append_getElem hkr, hx]; unfold Rd.put; rw [List.map_append]; rfl)
        have hdm : m ≤ d := by have := HXr.out.sw.le; rw [Hm.out]; exact this
        rw [← hx] at d0
        have g0' := later (bnew (Below.refl _ _) (.cells #[.int .u64 (x : Int), .int .u64 (I : Int), .int .u64 (T : Int)] 97)) g0
        have HN : Hid (Sl (wr.alloc (.cells #[.int .u64 (x : Int), .int .u64 (I : Int), .int .u64 (T : Int)] 97)) 3 A' q c' (rdc (r.b ++ Rd.put I T (r.w.take k))) ∧ Src Try.prog 3 80 (.slice (some ⟨wr.heap.size, 0, none⟩) 1 1) 1 (rd1 ⟨x, I, T⟩) (wr.alloc (.cells #[.int .u64 (x : Int), .int .u64 (I : Int), .int .u64 (T : Int)] 97))) := Lib.hid
          ⟨by have := HXr.out.sb.below (bnew (Below.refl _ _) (.cells #[.int .u64 (x : Int), .int .u64 (I : Int), .int .u64 (T : Int)] 97)); rw [Hq.out]; exact this,
           src_sl Try.underlying80 rfl (Lies.new wr (rd1 ⟨x, I, T⟩) 97) (fun h => by cases h) (fun u hu => rdc_ones [⟨x, I, T⟩] u (by rw [rdc_one]; exact hu))⟩
        have HS : Hid (∀ (w2 : World) (A2 : Option Addr) (c2 : Nat), Sl w2 3 A2 (q + 1) c2 (rdc (r.b ++ Rd.put I T (r.w.take k)) ++ rd1 ⟨x, I, T⟩) → (wr.alloc (.cells #[.int .u64 (x : Int), .int .u64 (I : Int), .int .u64 (T : Int)] 97)).grownBy w2 (blk A') → (∀ b, blk A2 = some b → blk A' = some b ∨ (wr.alloc (.cells #[.int .u64 (x : Int), .int .u64 (I : Int), .int .u64 (T : Int)] 97)).heap.size ≤ b) →
            (∃ v, w2.cell? ⟨p, 0, none⟩ = some v) ∧ w2.frozen? ⟨p, 0, none⟩ = false ∧ ∃ S2, RdX (w2.setCell ⟨p, 0, none⟩ (.slice A2 (q + 1) c2)) p S2 ⟨r.b ++ Rd.put I T (r.w.take (k + 1)), r.w⟩ A2 c2 (some ⟨gb, go, none⟩) d ∧ (∀ q, S2 q → S q ∨ w.heap.size ≤ q) ∧ Kr S w (w2.setCell ⟨p, 0, none⟩ (.slice A2 (q + 1) c2))) := Lib.hid fun w2 A2 c2 hs hg hn => by
          have hb2 := bnew (Below.refl wr.heap.size wr) (.cells #[.int .u64 (x : Int), .int .u64 (I : Int), .int .u64 (T : Int)] 97)
          obtain ⟨k1, k2, ⟨S2, k3, k4⟩, k5⟩ := rd_setB (HXr.out.bel hb2) (Kr.grown hg fun k hk => hk) (es := r.b ++ Rd.put I T (r.w.take (k + 1))) (n' := q + 1) (by rw [HT1.out, ← List.append_assoc, rdc_app (_ ++ _), rdc_one]; exact hs) (by rw [List.length_append, Rd.put_len, List.length_take, ← Hn.out, ← Hm.out]; have := HQN.out; omega) hn (HME.out (k + 1) (by omega) (by omega))
          refine ⟨k1, k2, S2, k3, fun j hj => ?_, (HKr.out.next hb2).trans (T := S') k5 HSr.out⟩
          rcases k4 j hj with h1 | h1
          · exact HSr.out j h1
          · exact .inr (Nat.le_trans HKr.out.size (Nat.le_trans hb2.size h1))
        clear hx hkr
        unfold rd1 at HN HS
        go_wp2_with (at_builtin; (refine wpList_app_sl rfl (.tmp 57) (.tmp 62) 80 80 rfl 97 i0 (.agg #[.int .u64 0, .int .u64 0, .int .u64 0]) 3 24 Try.underlying80 hi0 hz0 hz1 hz2 rfl (by decide) rfl HN.out.1 _ 1 _ rfl HN.out.2 (by simp only [maxLen]; omega) (by omega) ?_); intro A2 c2 w2 hS2 hg2 hB2; obtain ⟨⟨v, k1⟩, k2, k3⟩ := HS.out w2 A2 c2 hS2 hg2 hB2; have HK := Lib.hid k3; clear k3 hS2 hg2 hB2)
        obtain ⟨S2, k3, k4, k5⟩ := HK.out
        go_roundw
        case rel => exact ⟨k + 1, A2, c2, S2, by omega, by go_num, k3, k4, k5⟩
        case measure => simp [intOf]; omega
      · obtain rfl : k = m := by omega
        have HR2 : Hid (RNow w (wr.setCell ⟨p, 1, none⟩ (.slice none 0 0)) p S R) := Lib.hid (by
          obtain ⟨_, _, ⟨S2, k3, k4⟩, k5⟩ := rd_setW HXr.out (Kr.refl _ wr) (ws := []) (n' := 0) (B' := none) (d' := 0) (Sl.nil _ _) rfl (fun b hb => by cases hb) ⟨(HXr.out.fit).b, (fun x hx => by cases hx), by have := HXr.out.fit.few; show _ + 0 ≤ _; exact Nat.le_trans (Nat.add_le_add_left (Nat.zero_le _) _) this⟩
          have e : R = { b := r.b ++ Rd.put I T (r.w.take k), w := [] } := by rw [HE.out, List.take_of_length_le (by rw [Hm.out]; exact Nat.le_refl _)]
          rw [e]
          refine ⟨⟨S2, k3.at_, fun j hj => (k4 j hj).elim (HSr.out j) fun h1 => .inr (Nat.le_trans HKr.out.size h1)⟩, HKr.out.trans k5 HSr.out⟩)
        have f1 := HXr.out.row.free 1
        clear HXr HSr HKr
        go_wp2_with fail
        go_ret
        exact ⟨rfl, HR2.out⟩
  case neg =>
    have hlt : n - 1 < r.b.length := by omega
    obtain ⟨b, off, rfl, hE⟩ := h.sb.liesV.rd (n - 1) hlt
    have hl : r.b.getLast? = some r.b[n - 1] := by rw [List.getLast?_eq_getElem?, ← hn, List.getElem?_eq_getElem hlt]
    obtain ⟨y, hy⟩ : ∃ y, y = r.b[n - 1] := ⟨_, rfl⟩
    rw [← hy] at hE hl
    have hIi : I = max i y.idx := by rw [hI]; unfold Rd.hi; rw [hl]
    have hTt : T = max t y.rnd := by rw [hT]; unfold Rd.hr; rw [hl]
    have e1 := max_int i y.idx I hIi
    have e2 := max_int t y.rnd T hTt
    have q1 : decide (0 < n) = true := decide_eq_true (by omega)
    have q2 : ((0 : Int) < (n : Int)) = True := by simp; omega
    have q3 : ((n : Int) - 1).toNat = n - 1 := by omega
    have hn1 : 1 ≤ n := by omega
    have hnc : n ≤ c := by have := h.sb.le; omega
    have hz := bnew (Below.refl w.heap.size w) (.cells #[.int .u64 0, .int .u64 0, .int .u64 0] 97)
    have hz2' := below_drew hz
    have c0' := later hz2' c0
    obtain ⟨_, k0, k1, k2⟩ := hE
    have k0' := later hz2' k0
    have k1' := later hz2' k1
    have k2' := later hz2' k2
    have hst := storeRdD y w
    clear h0 hI hT hn hm hi ht hy hl hlt h hz hz2' hIi hTt
    go_upto_region 4 with (fail)
    go_region
    have hrow : Rw (w.alloc (.cells #[.int .u64 (y.id : Int), .int .u64 (y.idx : Int), .int .u64 (y.rnd : Int)] 97)).drew w.heap.size #[.int .u64 (y.id : Int), .int .u64 (y.idx : Int), .int .u64 (y.rnd : Int)] 97 := (Rw.new w _ _).drew
    refine forgetR (fun W2 => Rw W2 w.heap.size #[.int .u64 (y.id : Int), .int .u64 (y.idx : Int), .int .u64 (y.rnd : Int)] 97 ∧ Below w.heap.size w W2) ⟨hrow, below_drew (bnew (Below.refl _ _) _)⟩ ?_
    intro W2 H2
    have HB2 := Lib.hid H2.2
    have d1 := H2.1.cell 1 rfl
    have d2 := H2.1.cell 2 rfl
    generalize w.heap.size = g at d1 d2 ⊢
    have d1' := later (below_drew (Below.refl _ W2)) d1
    have d2' := later (below_drew (Below.refl _ W2)) d2
    clear H2 hrow hst c0' k0' k1' k2' k0 k1 k2 c0 c1
    go_wp2_with fail
    go_region
    refine forgetR (fun W6 => RdX W6 p S r (some ⟨b, off, none⟩) c B d ∧ Bl w W6) ⟨HX.out.bel (below_drew HB2.out), below_drew HB2.out⟩ ?_
    clear d1 d2 d1' d2'
    intro W6 H6
    have HX6 := Lib.hid H6.1
    have HB6 := Lib.hid H6.2
    have c06 := H6.1.c0
    have c16 := H6.1.c1
    rw [← Hm.out] at c16
    clear H6
    go_wp2_with fail
    go_loopw [49] (fun iv wr => ∃ (k : Nat) (A' : Option Addr) (c' : Nat) (S' : Nat → Prop), k ≤ m ∧ iv = .int .i64 (k : Int) ∧ RdX wr p S' ⟨r.b ++ Rd.put I T (r.w.take k), r.w⟩ A' c' B d ∧ (∀ q, S' q → S q ∨ w.heap.size ≤ q) ∧ Kr S w wr) (fun iv _ => m - (intOf iv).toNat)
    case atStart => exact ⟨0, _, _, S, Nat.zero_le _, rfl, by have := HX6.out; simpa [Rd.put] using this, fun q hq => .inl hq, Kr.bel HB6.out.bel⟩
    case round =>
      obtain ⟨k, A', c', S', hkm, rfl, hX, hS', hK⟩ := hrel
      have HXr := Lib.hid hX
      have HSr := Lib.hid hS'
      have HKr := Lib.hid hK
      obtain ⟨q, hq⟩ : ∃ q, q = (r.b ++ Rd.put I T (r.w.take k)).length := ⟨_, rfl⟩
      have hqn0 : q = n + k := by rw [hq, List.length_append, Rd.put_len, List.length_take, ← Hn.out, ← Hm.out]; omega
      have Hq := Lib.hid hq
      have HQN := Lib.hid hqn0
      have hqn : q ≤ 200000 := by omega
      clear hqn0
      have g0 := hX.c0
      have g1 := hX.c1
      rw [← Hm.out] at g1
      rw [← hq] at g0
      clear c06 c16 hX hS' hK hq
      by_cases hlt : k < m
      · have hkr : k < r.w.length := by rw [← Hm.out]; exact hlt
        obtain ⟨gb, go, rfl, d0⟩ := HXr.out.sw.liesV.u k hkr
        obtain ⟨x, hx⟩ : ∃ x, x = r.w[k] := ⟨_, rfl⟩
        have HT1 : Hid (Rd.put I T (r.w.take (k + 1)) = Rd.put I T (r.w.take k) ++ [⟨x, I, T⟩]) := Lib.hid (by rw [List.take_succ_eq_append_getElem hkr, hx]; unfold Rd.put; rw [List.map_append]; rfl)
        have hdm : m ≤ d := by have := HXr.out.sw.le; rw [Hm.out]; exact this
        rw [← hx] at d0
        have g0' := later (bnew (Below.refl _ _) (.cells #[.int .u64 (x : Int), .int .u64 (I : Int), .int .u64 (T : Int)] 97)) g0
        have HN : Hid (Sl (wr.alloc (.cells #[.int .u64 (x : Int), .int .u64 (I : Int), .int .u64 (T : Int)] 97)) 3 A' q c' (rdc (r.b ++ Rd.put I T (r.w.take k))) ∧ Src Try.prog 3 80 (.slice (some ⟨wr.heap.size, 0, none⟩) 1 1) 1 (rd1 ⟨x, I, T⟩) (wr.alloc (.cells #[.int .u64 (x : Int), .int .u64 (I : Int), .int .u64 (T : Int)] 97))) := Lib.hid
          ⟨by have := HXr.out.sb.below (bnew (Below.refl _ _) (.cells #[.int .u64 (x : Int), .int .u64 (I : Int), .int .u64 (T : Int)] 97)); rw [Hq.out]; exact this,
           src_sl Try.underlying80 rfl (Lies.new wr (rd1 ⟨x, I, T⟩) 97) (fun h => by cases h) (fun u hu => rdc_ones [⟨x, I, T⟩] u (by rw [rdc_one]; exact hu))⟩
        have HS : Hid (∀ (w2 : World) (A2 : Option Addr) (c2 : Nat), Sl w2 3 A2 (q + 1) c2 (rdc (r.b ++ Rd.put I T (r.w.take k)) ++ rd1 ⟨x, I, T⟩) → (wr.alloc (.cells #[.int .u64 (x : Int), .int .u64 (I : Int), .int .u64 (T : Int)] 97)).grownBy w2 (blk A') → (∀ b, blk A2 = some b → blk A' = some b ∨ (wr.alloc (.cells #[.int .u64 (x : Int), .int .u64 (I : Int), .int .u64 (T : Int)] 97)).heap.size ≤ b) →
            (∃ v, w2.cell? ⟨p, 0, none⟩ = some v) ∧ w2.frozen? ⟨p, 0, none⟩ = false ∧ ∃ S2, RdX (w2.setCell ⟨p, 0, none⟩ (.slice A2 (q + 1) c2)) p S2 ⟨r.b ++ Rd.put I T (r.w.take (k + 1)), r.w⟩ A2 c2 (some ⟨gb, go, none⟩) d ∧ (∀ q, S2 q → S q ∨ w.heap.size ≤ q) ∧ Kr S w (w2.setCell ⟨p, 0, none⟩ (.slice A2 (q + 1) c2))) := Lib.hid fun w2 A2 c2 hs hg hn => by
          have hb2 := bnew (Below.refl wr.heap.size wr) (.cells #[.int .u64 (x : Int), .int .u64 (I : Int), .int .u64 (T : Int)] 97)
          obtain ⟨k1, k2, ⟨S2, k3, k4⟩, k5⟩ := rd_setB (HXr.out.bel hb2) (Kr.grown hg fun k hk => hk) (es := r.b ++ Rd.put I T (r.w.take (k + 1))) (n' := q + 1) (by rw [HT1.out, ← List.append_assoc, rdc_app (_ ++ _), rdc_one]; exact hs) (by rw [List.length_append, Rd.put_len, List.length_take, ← Hn.out, ← Hm.out]; have := HQN.out; omega) hn (HME.out (k + 1) (by omega) (by omega))
          refine ⟨k1, k2, S2, k3, fun j hj => ?_, (HKr.out.next hb2).trans (T := S') k5 HSr.out⟩
          rcases k4 j hj with h1 | h1
          · exact HSr.out j h1
          · exact .inr (Nat.le_trans HKr.out.size (Nat.le_trans hb2.size h1))
        clear hx hkr
        unfold rd1 at HN HS
        go_wp2_with (at_builtin; (refine wpList_app_sl rfl (.tmp 57) (.tmp 62) 80 80 rfl 97 i0 (.agg #[.int .u64 0, .int .u64 0, .int .u64 0]) 3 24 Try.underlying80 hi0 hz0 hz1 hz2 rfl (by decide) rfl HN.out.1 _ 1 _ rfl HN.out.2 (by simp only [maxLen]; omega) (by omega) ?_); intro A2 c2 w2 hS2 hg2 hB2; obtain ⟨⟨v, k1⟩, k2, k3⟩ := HS.out w2 A2 c2 hS2 hg2 hB2; have HK := Lib.hid k3; clear k3 hS2 hg2 hB2)
        obtain ⟨S2, k3, k4, k5⟩ := HK.out
        go_roundw
        case rel => exact ⟨k + 1, A2, c2, S2, by omega, by go_num, k3, k4, k5⟩
        case measure => simp [intOf]; omega
      · obtain rfl : k = m := by omega
        have HR2 : Hid (RNow w (wr.setCell ⟨p, 1, none⟩ (.slice none 0 0)) p S R) := Lib.hid (by
          obtain ⟨_, _, ⟨S2, k3, k4⟩, k5⟩ := rd_setW HXr.out (Kr.refl _ wr) (ws := []) (n' := 0) (B' := none) (d' := 0) (Sl.nil _ _) rfl (fun b hb => by cases hb) ⟨(HXr.out.fit).b, (fun x hx => by cases hx), by have := HXr.out.fit.few; show _ + 0 ≤ _; exact Nat.le_trans (Nat.add_le_add_left (Nat.zero_le _) _) this⟩
          have e : R = { b := r.b ++ Rd.put I T (r.w.take k), w := [] } := by rw [HE.out, List.take_of_length_le (by rw [Hm.out]; exact Nat.le_refl _)]
          rw [e]
          refine ⟨⟨S2, k3.at_, fun j hj => (k4 j hj).elim (HSr.out j) fun h1 => .inr (Nat.le_trans HKr.out.size h1)⟩, HKr.out.trans k5 HSr.out⟩)
        have f1 := HXr.out.row.free 1
        clear HXr HSr HKr
        go_wp2_with fail
        go_ret
        exact ⟨rfl, HR2.out⟩
end Go.Proofs.Ytlnohjboldenpaa
