/-
  CmdBack walked.
-/
import Derived.Test.YtkghldobefgjeaaQLwBackA
import Derived.Test.YtkghldobefgjeaaQLwBackB
import Derived.Test.YtkghldobefgjeaaQLwBackC
import Derived.Test.YtkghldobefgjeaaQOpen
import Derived.Test.YtkghldobefgjeaaQOpMathR
set_option linter.unusedSimpArgs false
set_option linter.unusedVariables false
namespace Go.Proofs.Ytkghldobefgjeaa
open Go.RowKit
theorem txt_len (s : ByteArray) (hs : s.size ≤ 3000) : (Cm.txt s).length ≤ 3010 := by
  have := grp_len s.size (by unfold Nm.top; omega)
  have e : s.data.toList.length = s.size := (Lib.size_eq s).symm
  unfold Cm.txt row
  rw [List.length_append, e]; omega
theorem bytes_small2 {c : Cm.Cmd} (hf : Cm.Fits c) (h : Cm.Small c) : (Cm.bytes c).length ≤ 2000000 := by
  have g1 := grp_len c.ses hf.ses
  have g2 := grp_len c.seq hf.seq
  have hb : (Cm.body c).length ≤ 1000000 := by
    have t1 := txt_len c.key h.key
    have t2 := txt_len c.val h.val
    have t3 := txt_len c.exp h.exp
    have t4 := txt_len c.frm h.frm
    have t5 := txt_len c.tto h.tto
    have g3 := grp_len c.ttl hf.ttl
    have g4 := grp_len c.lease hf.lease
    have hp : ∀ ps : List Cm.Part, (∀ p ∈ ps, p.key.size ≤ 3000 ∧ p.val.size ≤ 3000) → (Cm.partsB ps).length ≤ ps.length * 7000 := by
      intro ps
      induction ps with
      | nil => intro _; simp [Cm.partsB]
      | cons p ps ih =>
        intro hh
        have := ih (fun q hq => hh q (by simp [hq]))
        have k1 := txt_len p.key (hh p (by simp)).1
        have k2 := txt_len p.val (hh p (by simp)).2
        have e : (Cm.partsB (p :: ps)).length = (Cm.partB p).length + (Cm.partsB ps).length := by simp [Cm.partsB]
        have e2 : (Cm.partB p).length ≤ 7000 := by
          unfold Cm.partB
          split <;> simp only [List.length_append, Cm.one, List.length_singleton, List.length_nil] <;> omega
        rw [e, List.length_cons, Nat.add_mul]; omega
    have h5 := hp c.parts h.parts
    have h6 : c.parts.length * 7000 ≤ 40 * 7000 := Nat.mul_le_mul_right _ h.len
    unfold Cm.body
    repeat' split
    all_goals try simp only [List.length_append, Cm.one, List.length_singleton, List.length_nil]
    all_goals omega
  unfold Cm.bytes Cm.head
  simp only [List.length_append, Cm.one, List.length_singleton]
  omega
theorem res_small2 {r : Rs.Res} (hf : RFits r) (h : Rs.Small r) : (Rs.bytes r).length ≤ 2000000 := by
  have g1 := grp_len r.n hf.n
  have g2 := grp_len r.rows.length (by have := h.len; unfold Nm.top; omega)
  have t1 := txt_len r.val h.val
  have hp : ∀ ps : List Rs.Row, (∀ p ∈ ps, p.key.size ≤ 3000 ∧ p.val.size ≤ 3000) → (∀ p ∈ ps, p.ver < Nm.top) → (Rs.rowsB ps).length ≤ ps.length * 7000 := by
    intro ps
    induction ps with
    | nil => intro _ _; simp [Rs.rowsB]
    | cons p ps ih =>
      intro hh hv
      have := ih (fun q hq => hh q (by simp [hq])) (fun q hq => hv q (by simp [hq]))
      have k1 := txt_len p.key (hh p (by simp)).1
      have k2 := txt_len p.val (hh p (by simp)).2
      have k3 := grp_len p.ver (hv p (by simp))
      have e : (Rs.rowsB (p :: ps)).length = (Rs.rowB p).length + (Rs.rowsB ps).length := by simp [Rs.rowsB]
      have e2 : (Rs.rowB p).length ≤ 7000 := by
        unfold Rs.rowB
        simp only [List.length_append]; omega
      rw [e, List.length_cons, Nat.add_mul]; omega
  have h5 := hp r.rows h.rows hf.rows
  have h6 : r.rows.length * 7000 ≤ 40 * 7000 := Nat.mul_le_mul_right _ h.len
  unfold Rs.bytes
  simp only [List.length_append, Cm.one, List.length_singleton]
  omega
theorem enc_small {o : Og.Oper} (hm : Og.may o) : (Og.enc o).length ≤ 100 ∧ 0 < (Og.enc o).length := by
  have hg : ∀ n : Int, -9223372036854775808 ≤ n ∧ n < 9223372036854775808 → (Nm.grp n.toNat).length ≤ 10 := fun n h => grp_len _ (by unfold Nm.top; omega)
  have hf := Wk.may_fits hm
  have g1 := hg _ hf.keys
  have g2 := hg _ hf.bytes
  have g3 := hg _ hf.rate
  have g4 := hg _ hf.burst
  have ht : o.tok.l.length = 8 := rfl
  unfold Og.enc
  simp only [List.length_append, Cm.one, List.length_singleton]
  refine ⟨?_, by omega⟩
  repeat' split
  all_goals try simp only [List.length_append, List.length_singleton]
  all_goals omega
theorem shapeS {c : Cm.Cmd} (hf : Cm.Fits c) (hs : Cm.Small c) (hm : Cm.may c = true) : Cm.Shape c := by
  have tt : ∀ n : Nat, n ≤ 3000 → n < Nm.top := fun n h => by unfold Nm.top; omega
  exact Cm.shape_of hf hm (tt _ hs.key) (tt _ hs.val) (tt _ hs.exp) (tt _ hs.frm) (tt _ hs.tto) (fun p hp => ⟨tt _ (hs.parts p hp).1, tt _ (hs.parts p hp).2⟩)
theorem read_cut {c : Cm.Cmd} (hc : Cm.Shape c) (k : Nat) (hk : k < (Cm.bytes c).length) : Cm.read ((Cm.bytes c).take k) = none := by
  rcases h : Cm.read ((Cm.bytes c).take k) with _ | d
  · rfl
  · exfalso
    obtain ⟨hd, _, hl⟩ := (Cm.read_iff _ _).1 h
    have h1 : Cm.bytes d ++ (Cm.bytes c).drop k = Cm.bytes c := by rw [← hl]; exact List.take_append_drop _ _
    have := (Cm.bytes_free hd hc h1).2
    have := congrArg List.length this
    rw [List.length_drop] at this
    simp at this; omega
theorem read_and {c : Cm.Cmd} (hc : Cm.Shape c) {r : List UInt8} (hr : r ≠ []) : Cm.read (Cm.bytes c ++ r) = none := by
  rcases h : Cm.read (Cm.bytes c ++ r) with _ | d
  · rfl
  · exfalso
    obtain ⟨hd, _, hl⟩ := (Cm.read_iff _ _).1 h
    exact hr (Cm.bytes_free hc hd hl).2
theorem readR_cut {c : Rs.Res} (hc : Rs.Shape c) (k : Nat) (hk : k < (Rs.bytes c).length) : Rs.read ((Rs.bytes c).take k) = none := by
  rcases h : Rs.read ((Rs.bytes c).take k) with _ | d
  · rfl
  · exfalso
    obtain ⟨hd, hl⟩ := (Rs.read_iff _ _).1 h
    have h1 : Rs.bytes d ++ (Rs.bytes c).drop k = Rs.bytes c := by rw [← hl]; exact List.take_append_drop _ _
    have := (Rs.bytes_free hd hc h1).2
    have := congrArg List.length this
    rw [List.length_drop] at this
    simp at this; omega
theorem readR_and {c : Rs.Res} (hc : Rs.Shape c) {r : List UInt8} (hr : r ≠ []) : Rs.read (Rs.bytes c ++ r) = none := by
  rcases h : Rs.read (Rs.bytes c ++ r) with _ | d
  · rfl
  · exfalso
    obtain ⟨hd, hl⟩ := (Rs.read_iff _ _).1 h
    exact hr (Rs.bytes_free hc hd hl).2
theorem cut_list (t : ByteArray) (l : List UInt8) (hl : t.data.toList = l) (k : Nat) : (t.extract 0 k).data.toList = l.take k := by
  rw [Lib.extract_eq]; simp [hl]
theorem add_list (t b : ByteArray) (l : List UInt8) (hl : t.data.toList = l) : (t ++ b).data.toList = l ++ b.data.toList := by
  rw [ByteArray.data_append]; simp [hl]
theorem nil_of {b : ByteArray} (h : b.size = 0) : b.data.toList = [] := List.eq_nil_of_length_eq_zero (by rw [← Lib.size_eq]; exact h)
theorem ne_of {b : ByteArray} (h : b.size ≠ 0) : b.data.toList ≠ [] := fun e => h (by rw [Lib.size_eq, e]; rfl)
/-- A command's readings. -/
theorem rdC_of {c : Cm.Cmd} (hs : Cm.Shape c) (hm : Cm.may c = true) (hlen : c.parts.length ≤ 1000000) (t beh : ByteArray) (ht : t.data.toList = Cm.bytes c) (hz : t.size ≤ 2000000) (hb : beh.size ≤ 100) (k : Nat) (hk : k < t.size) (d : Cm.Cmd) (m : Bool) (hd : (beh.size = 0 ∧ d = c ∧ m = true) ∨ (beh.size ≠ 0 ∧ d = Cm.zero ∧ m = false)) : RdC c d m t (t.extract 0 k) (t ++ beh) := by
  have r1 : Cm.read t.data.toList = some c := by rw [ht]; exact (Cm.read_iff _ _).2 ⟨hs, hm, rfl⟩
  have r2 : Cm.read (t.extract 0 k).data.toList = none := by rw [cut_list t _ ht]; exact read_cut hs k (by rw [← ht, ← Lib.size_eq]; exact hk)
  refine ⟨fun W => ?_, fun W => ?_, fun W => ?_, fun W A k B l hA hB => ?_⟩
  · have h := cmdRead_any t W (by omega)
    rw [r1] at h; exact h
  · have h := cmdRead_any (t.extract 0 k) W (by rw [ByteArray.size_extract]; omega)
    rw [r2] at h; exact h
  · have h := cmdRead_any (t ++ beh) W (by rw [ByteArray.size_append]; omega)
    rcases hd with ⟨h0, rfl, rfl⟩ | ⟨h0, rfl, rfl⟩
    · rw [add_list t beh _ ht, nil_of h0, List.append_nil, ← ht, r1] at h; exact h
    · rw [add_list t beh _ ht, read_and hs (ne_of h0)] at h; exact h
  · have h := same_any c c A B k l W hA hB hlen
    rw [Cm.same_refl] at h; exact h
theorem rdO_of {o : Og.Oper} (hm : Og.may o) (t beh : ByteArray) (ht : t.data.toList = Og.enc o) (hz : t.size ≤ 2000000) (hb : beh.size ≤ 100) (k : Nat) (hk : k < t.size) (d : Og.Oper) (m : Bool) (hd : (beh.size = 0 ∧ d = o ∧ m = true) ∨ (beh.size ≠ 0 ∧ d = Og.Oper.zero ∧ m = false)) : RdO o d m t (t.extract 0 k) (t ++ beh) := by
  have r1 : Wk.oin t.data.toList = some o := (Wk.oin_iff _ _).2 ⟨hm, ht.symm⟩
  have r2 : Wk.oin (t.extract 0 k).data.toList = none := by
    rw [cut_list t _ ht]
    refine Wk.oin_less hm (List.take_append_drop k _) (fun e => ?_)
    have := congrArg List.length e
    rw [List.length_drop, ← ht, ← Lib.size_eq] at this
    simp at this; omega
  refine ⟨fun W => ?_, fun W => ?_, fun W => ?_⟩
  · have h := oread_any t W (by omega)
    rw [r1] at h; exact h
  · have h := oread_any (t.extract 0 k) W (by rw [ByteArray.size_extract]; omega)
    rw [r2] at h; exact h
  · have h := oread_any (t ++ beh) W (by rw [ByteArray.size_append]; omega)
    rcases hd with ⟨h0, rfl, rfl⟩ | ⟨h0, rfl, rfl⟩
    · rw [add_list t beh _ ht, nil_of h0, List.append_nil, ← ht, r1] at h; exact h
    · rw [add_list t beh _ ht, Wk.oin_more hm (ne_of h0)] at h; exact h
theorem rdR_of {r : Rs.Res} (hs : Rs.Shape r) (hlen : r.rows.length ≤ 1000000) (t beh : ByteArray) (ht : t.data.toList = Rs.bytes r) (hz : t.size ≤ 2000000) (hb : beh.size ≤ 100) (k : Nat) (hk : k < t.size) (d : Rs.Res) (m : Bool) (hd : (beh.size = 0 ∧ d = r ∧ m = true) ∨ (beh.size ≠ 0 ∧ d = Rs.zero ∧ m = false)) : RdR r d m t (t.extract 0 k) (t ++ beh) := by
  have r1 : Rs.read t.data.toList = some r := by rw [ht]; exact (Rs.read_iff _ _).2 ⟨hs, rfl⟩
  have r2 : Rs.read (t.extract 0 k).data.toList = none := by rw [cut_list t _ ht]; exact readR_cut hs k (by rw [← ht, ← Lib.size_eq]; exact hk)
  refine ⟨fun W => ?_, fun W => ?_, fun W => ?_, fun W A k B l hA hB => ?_⟩
  · have h := cmdReadRes_any t W (by omega)
    rw [r1] at h; exact h
  · have h := cmdReadRes_any (t.extract 0 k) W (by rw [ByteArray.size_extract]; omega)
    rw [r2] at h; exact h
  · have h := cmdReadRes_any (t ++ beh) W (by rw [ByteArray.size_append]; omega)
    rcases hd with ⟨h0, rfl, rfl⟩ | ⟨h0, rfl, rfl⟩
    · rw [add_list t beh _ ht, nil_of h0, List.append_nil, ← ht, r1] at h; exact h
    · rw [add_list t beh _ ht, readR_and hs (ne_of h0)] at h; exact h
  · have h := sameResult_any r r A B k l W hA hB hlen
    rw [(Rs.same_iff r r).2 rfl] at h; exact h
set_option maxRecDepth 100000 in
set_option maxHeartbeats 4000000 in
theorem cback_over (c : Cm.Cmd) (A : Option Addr) (cap : Nat) (o : Og.Oper) (r : Rs.Res) (R : Option Addr) (rcap : Nat) (beh : ByteArray) (i : Int) (w : World) (hA : Lies w A (pc c.parts)) (hR : Lies w R (rc r.rows)) (b1 b2 : Bool) (h : b1 = true ∨ b2 = true ∨ 100 < beh.size)
    (HG : Hid (∀ W, Lies W A (pc c.parts) → Calls Try.prog 22 #[.agg (cmdC c A cap)] W fun e w' => e = .returned (.bool b1) ∧ Below W.heap.size W w'))
    (HGR : Hid (∀ W, Lies W R (rc r.rows) → Calls Try.prog 33 #[.agg (resC r R rcap)] W fun e w' => e = .returned (.bool b2) ∧ Below W.heap.size W w')) :
    Calls Try.prog 8 #[.agg (cmdC c A cap), .agg (operC o), .agg (resC r R rcap), .int .u16 i, .string beh] w fun e w' => e = .returned (.bool true) ∧ Below w.heap.size w w' := by
  have HAw := Lib.hid cmdAwake_any
  have HS0 := Lib.hid (CkS.new (cap := cap) (o := o) (rcap := rcap) hA hR)
  obtain ⟨X0, hX0⟩ : ∃ X, X = cmdC c A cap := ⟨_, rfl⟩
  obtain ⟨Y0, hY0⟩ : ∃ X, X = operC o := ⟨_, rfl⟩
  obtain ⟨Z0, hZ0⟩ : ∃ X, X = resC r R rcap := ⟨_, rfl⟩
  rw [← hX0, ← hY0, ← hZ0] at HS0 ⊢
  clear hX0 hY0 hZ0 hA hR
  have Hh := Lib.hid h
  clear h
  go_enter Try.func8, Try.ntmps8
  go_upto_region 1 with (fail)
  refine forget (fun W => CkS w W c A cap o r R rcap) HS0.out ?_
  clear HS0
  intro W1 S
  have HS := Lib.hid S
  obtain ⟨q0, q1, q2, q3, q4, q5, q6, q7, q8, q9, q10, q11, _⟩ := cmdAt S.r0.row
  clear S
  go_wp2_with fail
  refine (HG.out _ HS.out.r0.lies).mono ?_
  rintro e w1 ⟨rfl, hb1⟩
  have S := HS.out.grow hb1
  clear hb1 HS q0 q1 q2 q3 q4 q5 q6 q7 q8 q9 q10 q11
  have r0 : w1.cell? ⟨w.heap.size + 1 + 1, 0, none⟩ = some (.int .u8 (r.code : Int)) := cell_of_row _ _ 0 _ _ _ S.r2
  have r1 : w1.cell? ⟨w.heap.size + 1 + 1, 1, none⟩ = some (.int .u64 (r.n : Int)) := cell_of_row _ _ 1 _ _ _ S.r2
  have r2 : w1.cell? ⟨w.heap.size + 1 + 1, 2, none⟩ = some (.string r.val) := cell_of_row _ _ 2 _ _ _ S.r2
  have r3 : w1.cell? ⟨w.heap.size + 1 + 1, 3, none⟩ = some (.slice R r.rows.length rcap) := cell_of_row _ _ 3 _ _ _ S.r2
  have HS := Lib.hid S
  clear S
  cases b1
  · go_wp2_with fail
    refine (HGR.out _ HS.out.l2).mono ?_
    rintro e w2 ⟨rfl, hb2⟩
    have HS2 := Lib.hid (HS.out.grow hb2).b
    clear hb2 HS r0 r1 r2 r3
    cases b2
    · have d2 : decide ((100 : Int) < (beh.size : Int)) = true := by
        rcases Hh.out with h | h | h
        · cases h
        · cases h
        · simp; omega
      go_wp2_with fail
      refine (HAw.out _).mono ?_
      rintro e w3 ⟨rfl, hb3⟩
      have HB := Lib.hid (bnext HS2.out hb3)
      clear hb3
      go_wp2_with fail
      go_ret
      exact ⟨rfl, HB.out⟩
    · go_wp2_with fail
      refine (HAw.out _).mono ?_
      rintro e w3 ⟨rfl, hb3⟩
      have HB := Lib.hid (bnext HS2.out hb3)
      clear hb3
      go_wp2_with fail
      go_ret
      exact ⟨rfl, HB.out⟩
  · have HS2 := Lib.hid HS.out.b
    clear HS
    go_wp2_with fail
    refine (HAw.out _).mono ?_
    rintro e w3 ⟨rfl, hb3⟩
    have HB := Lib.hid (bnext HS2.out hb3)
    clear hb3
    go_wp2_with fail
    go_ret
    exact ⟨rfl, HB.out⟩
theorem cmdBack_walk (w : World) (c : Cm.Cmd) (A : Option Addr) (cap : Nat) (g : Given w c A cap) (o : Og.Oper) (hof : Og.Fits o) (r : Rs.Res) (R : Option Addr) (rcap : Nat) (gr : GivenR w r R rcap) (i : Int) (wf : (Lit.int .u16 i).wf = true) (beh : ByteArray) (_w : beh.size ≤ maxLen) :
    Calls Try.prog 8 #[.agg (cmdC c A cap), .agg (operC o), .agg (resC r R rcap), .int .u16 i, .string beh] w fun e w' => e = .returned (.bool true) ∧ Below w.heap.size w w' := by
  have hG := fun W h => great_any c A cap W h
  have hGR := fun W h => greatR_any r R rcap W h
  by_cases hov : Cm.great c = true ∨ Rs.great r = true ∨ 100 < beh.size
  · exact cback_over c A cap o r R rcap beh i w g.lies gr.lies _ _ hov (Lib.hid hG) (Lib.hid hGR)
  have g1 : Cm.great c = false := by rw [← Bool.not_eq_true]; exact fun h => hov (.inl h)
  have g2 : Rs.great r = false := by rw [← Bool.not_eq_true]; exact fun h => hov (.inr (.inl h))
  have hbh : beh.size ≤ 100 := Nat.le_of_not_lt fun h => hov (.inr (.inr h))
  have hs := Cm.small_of g1
  have hr := Rs.small_of g2
  obtain ⟨cut, rfl, hc⟩ := u16_nat wf
  rw [g1] at hG
  rw [g2] at hGR
  obtain ⟨t1, ht1⟩ : ∃ t : ByteArray, t = ⟨(Cm.write c).toArray⟩ := ⟨_, rfl⟩
  obtain ⟨t2, ht2⟩ : ∃ t : ByteArray, t = ⟨(Wk.oout o).toArray⟩ := ⟨_, rfl⟩
  obtain ⟨t3, ht3⟩ : ∃ t : ByteArray, t = ⟨(Rs.bytes r).toArray⟩ := ⟨_, rfl⟩
  have hBk : BkC c A cap o r R rcap t1 t2 t3 := by
    refine ⟨hG, hGR, fun W h => ?_, fun W => ?_, fun W h => ?_⟩
    · have := cmdWrite_any c g.fits (hs.short g.fits) A cap W h
      unfold RetS at this
      rw [← ht1] at this; exact this
    · have := owrite_any o hof W (Wk.oper_ne o hof)
      unfold RetS at this
      rw [← ht2] at this; exact this
    · have := cmdWriteRes_any r gr.fits (by have := hr.val; omega) (by have := hr.len; omega) (fun p hp => ⟨by have := (hr.rows p hp).1; omega, by have := (hr.rows p hp).2; omega⟩) R rcap W h
      unfold RetS at this
      rw [← ht3] at this; exact this
  have hBk := Lib.hid hBk
  have l3 : t3.data.toList = Rs.bytes r := by rw [ht3]
  have z3 : t3.size = (Rs.bytes r).length := by rw [Lib.size_eq, l3]
  have b3 := res_small2 gr.fits hr
  have h4 : 4 ≤ t3.size := by rw [z3]; exact Rs.bytes_len r
  have hsR : Rs.Shape r := ⟨gr.fits.code, gr.fits.n, by have := hr.val; unfold Nm.top; omega, by have := hr.len; unfold Nm.top; omega, fun x hx => ⟨by have := (hr.rows x hx).1; unfold Nm.top; omega, by have := (hr.rows x hx).2; unfold Nm.top; omega, gr.fits.rows x hx⟩⟩
  have hR3 := fun d m hd => Lib.hid (rdR_of hsR (by have := hr.len; omega) t3 beh l3 (by omega) hbh (cut % t3.size) (Nat.mod_lt _ (by omega)) d m hd)
  have hC1 : Cm.may c = true → t1.data.toList = Cm.bytes c ∧ 0 < t1.size ∧ t1.size ≤ 2000000 ∧ ∀ d m, _ → Hid (RdC c d m t1 (t1.extract 0 (cut % t1.size)) (t1 ++ beh)) := fun hm => by
    have l1 : t1.data.toList = Cm.bytes c := by rw [ht1]; unfold Cm.write; rw [hm]; rfl
    have z1 : t1.size = (Cm.bytes c).length := by rw [Lib.size_eq, l1]
    have b1 := bytes_small2 g.fits hs
    have p1 : 0 < t1.size := by
      rw [z1]; unfold Cm.bytes Cm.head Cm.one; simp only [List.length_append, List.length_singleton]; omega
    exact ⟨l1, p1, by omega, fun d m hd => Lib.hid (rdC_of (shapeS g.fits hs hm) hm (by have := hs.len; omega) t1 beh l1 (by omega) hbh (cut % t1.size) (Nat.mod_lt _ p1) d m hd)⟩
  have hC2 : Og.may o → t2.data.toList = Og.enc o ∧ 0 < t2.size ∧ t2.size ≤ 2000000 ∧ ∀ d m, _ → Hid (RdO o d m t2 (t2.extract 0 (cut % t2.size)) (t2 ++ beh)) := fun hm => by
    have l2 : t2.data.toList = Og.enc o := by rw [ht2, Wk.oout_eq o hof, if_pos hm]
    have z2 : t2.size = (Og.enc o).length := by rw [Lib.size_eq, l2]
    obtain ⟨b2, p2⟩ := enc_small hm
    exact ⟨l2, by omega, by omega, fun d m hd => Lib.hid (rdO_of hm t2 beh l2 (by omega) hbh (cut % t2.size) (Nat.mod_lt _ (by omega)) d m hd)⟩
  have n1 : Cm.may c = false → t1 = ⟨#[]⟩ := fun hm => by rw [ht1]; unfold Cm.write; rw [hm]; rfl
  have n2 : ¬ Og.may o → t2 = ⟨#[]⟩ := fun hm => by rw [ht2, Wk.oout_eq o hof, if_neg hm]
  have hz3 : t3.size ≤ 100000000 := by omega
  by_cases hbe : beh.size = 0
  · have hR := hR3 r true (.inl ⟨hbe, rfl, rfl⟩)
    rcases hm : Cm.may c with _ | _
    · by_cases hmo : Og.may o
      · obtain ⟨_, p2, q2, f2⟩ := hC2 hmo
        exact cback_011 c A cap o r R rcap t1 t2 t3 beh cut hc w g.lies gr.lies hBk h4 hbh hbe (n1 hm) p2 (by omega) (f2 o true (.inl ⟨hbe, rfl, rfl⟩)) (by omega) hz3 hR
      · exact cback_001 c A cap o r R rcap t1 t2 t3 beh cut hc w g.lies gr.lies hBk h4 hbh hbe (n1 hm) (n2 hmo) (by omega) hz3 hR
    · obtain ⟨_, p1, q1, f1⟩ := hC1 hm
      by_cases hmo : Og.may o
      · obtain ⟨_, p2, q2, f2⟩ := hC2 hmo
        exact cback_111 c A cap o r R rcap t1 t2 t3 beh cut hc w g.lies gr.lies hBk h4 hbh hbe p1 (by omega) (f1 c true (.inl ⟨hbe, rfl, rfl⟩)) p2 (by omega) (f2 o true (.inl ⟨hbe, rfl, rfl⟩)) (by omega) hz3 hR
      · exact cback_101 c A cap o r R rcap t1 t2 t3 beh cut hc w g.lies gr.lies hBk h4 hbh hbe p1 (by omega) (f1 c true (.inl ⟨hbe, rfl, rfl⟩)) (n2 hmo) (by omega) hz3 hR
  · have hR := hR3 Rs.zero false (.inr ⟨hbe, rfl, rfl⟩)
    rcases hm : Cm.may c with _ | _
    · by_cases hmo : Og.may o
      · obtain ⟨_, p2, q2, f2⟩ := hC2 hmo
        exact cback_010 c A cap o r R rcap t1 t2 t3 beh cut hc w g.lies gr.lies hBk h4 hbh hbe (n1 hm) p2 (by omega) (f2 Og.Oper.zero false (.inr ⟨hbe, rfl, rfl⟩)) (by omega) hz3 hR
      · exact cback_000 c A cap o r R rcap t1 t2 t3 beh cut hc w g.lies gr.lies hBk h4 hbh hbe (n1 hm) (n2 hmo) (by omega) hz3 hR
    · obtain ⟨_, p1, q1, f1⟩ := hC1 hm
      by_cases hmo : Og.may o
      · obtain ⟨_, p2, q2, f2⟩ := hC2 hmo
        exact cback_110 c A cap o r R rcap t1 t2 t3 beh cut hc w g.lies gr.lies hBk h4 hbh hbe p1 (by omega) (f1 Cm.zero false (.inr ⟨hbe, rfl, rfl⟩)) p2 (by omega) (f2 Og.Oper.zero false (.inr ⟨hbe, rfl, rfl⟩)) (by omega) hz3 hR
      · exact cback_100 c A cap o r R rcap t1 t2 t3 beh cut hc w g.lies gr.lies hBk h4 hbh hbe p1 (by omega) (f1 Cm.zero false (.inr ⟨hbe, rfl, rfl⟩)) (n2 hmo) (by omega) hz3 hR
end Go.Proofs.Ytkghldobefgjeaa
