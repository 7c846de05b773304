/-
  Layer 3's mathematics, fourth part: a command with other texts in the place of its own. No program is named here.
  Commands that are not great: what their bytes are.
  The statements' own 'GreatResult' of layer 3 walked.
  What is read has texts no longer than its bytes. No program is walked here.
  What the statements of layer 6 ask of mathematics: frames and replies that are not great, those that are read of short texts, and both again.
-/
import Derived.Test.YtlcgjlganmblpaaRCmd
import Derived.Test.YtlcgjlganmblpaaRLaw
import Derived.Test.YtlcgjlganmblpaaRRes
import Derived.Test.YtlcgjlganmblpaaRRows
import Derived.Test.YtlcgjlganmblpaaROpM
import Derived.Test.YtlcgjlganmblpaaRFrW
set_option linter.unusedSimpArgs false
set_option linter.unusedVariables false
namespace Go.Proofs.Ytlcgjlganmblpaa
namespace Cm
/-- The text that is next, the k-th. -/
def nx (ts : List ByteArray) (k : Nat) : ByteArray := ts.getD k e0
def swP (ts : List ByteArray) : Nat → List Part → List Part
  | _, [] => []
  | k, p :: ps => if p.op = 2 then ⟨p.op, nx ts k, nx ts (k + 1)⟩ :: swP ts (k + 2) ps else ⟨p.op, nx ts k, p.val⟩ :: swP ts (k + 1) ps
/-- How many texts so many parts have taken. -/
def swN (k : Nat) : List Part → Nat
  | [] => k
  | p :: ps => if p.op = 2 then swN (k + 2) ps else swN (k + 1) ps
def swap (c : Cmd) (ts : List ByteArray) : Cmd :=
  if c.op = 2 then { c with key := nx ts 0, val := nx ts 1 }
  else if c.op = 3 ∨ c.op = 8 then { c with key := nx ts 0 }
  else if c.op = 4 then { c with key := nx ts 0, exp := nx ts 1, val := nx ts 2 }
  else if c.op = 9 then { c with frm := nx ts 0, tto := nx ts 1 }
  else if c.op = 5 then { c with parts := swP ts 0 c.parts }
  else c
theorem swP_len (ts : List ByteArray) : ∀ (k : Nat) (ps : List Part), (swP ts k ps).length = ps.length
  | _, [] => rfl
  | k, p :: ps => by unfold swP; split <;> simp [swP_len ts _ ps]
theorem swP_ok (ts : List ByteArray) : ∀ (k : Nat) (ps : List Part), (swP ts k ps).all okPart = ps.all okPart
  | _, [] => rfl
  | k, p :: ps => by
    unfold swP; split
    · rename_i h; simp [swP_ok ts _ ps, okPart, h]
    · rename_i h; simp [swP_ok ts _ ps, okPart, h]
theorem swP_app (ts : List ByteArray) : ∀ (k : Nat) (ps qs : List Part), swP ts k (ps ++ qs) = swP ts k ps ++ swP ts (swN k ps) qs
  | _, [], _ => rfl
  | k, p :: ps, qs => by
    simp only [List.cons_append, swP, swN]; split
    · simp [swP_app ts _ ps qs]
    · simp [swP_app ts _ ps qs]
theorem swN_app : ∀ (k : Nat) (ps qs : List Part), swN k (ps ++ qs) = swN (swN k ps) qs
  | _, [], _ => rfl
  | k, p :: ps, qs => by
    simp only [List.cons_append, swN]; split
    · exact swN_app _ ps qs
    · exact swN_app _ ps qs
theorem swN_le : ∀ (k : Nat) (ps : List Part), swN k ps ≤ k + 2 * ps.length
  | _, [] => by simp [swN]
  | k, p :: ps => by
    unfold swN; split
    · have := swN_le (k + 2) ps; simp only [List.length_cons]; omega
    · have := swN_le (k + 1) ps; simp only [List.length_cons]; omega
theorem swP_op (ts : List ByteArray) : ∀ (k : Nat) (ps : List Part), ∀ q ∈ swP ts k ps, (∃ p ∈ ps, q.op = p.op) 
  | _, [], q, h => by cases h
  | k, p :: ps, q, h => by
    unfold swP at h; split at h
    · rcases List.mem_cons.1 h with e | e
      · exact ⟨p, by simp, by rw [e]⟩
      · obtain ⟨r, hr, e2⟩ := swP_op ts _ ps q e; exact ⟨r, by simp [hr], e2⟩
    · rcases List.mem_cons.1 h with e | e
      · exact ⟨p, by simp, by rw [e]⟩
      · obtain ⟨r, hr, e2⟩ := swP_op ts _ ps q e; exact ⟨r, by simp [hr], e2⟩
theorem swP_size (ts : List ByteArray) (M : Nat) (ht : ∀ k, (nx ts k).size ≤ M) : ∀ (k : Nat) (ps : List Part), (∀ p ∈ ps, p.val.size ≤ M) → ∀ q ∈ swP ts k ps, q.key.size ≤ M ∧ q.val.size ≤ M
  | _, [], _, q, h => by cases h
  | k, p :: ps, hp, q, h => by
    have ih := fun j => swP_size ts M ht j ps (fun x hx => hp x (by simp [hx]))
    unfold swP at h; split at h
    · rcases List.mem_cons.1 h with e | e
      · rw [e]; exact ⟨ht _, ht _⟩
      · exact ih _ q e
    · rcases List.mem_cons.1 h with e | e
      · rw [e]; exact ⟨ht _, hp p (by simp)⟩
      · exact ih _ q e
theorem nx_size (ts : List ByteArray) (M : Nat) (h : ∀ t ∈ ts, t.size ≤ M) (k : Nat) : (nx ts k).size ≤ M := by
  unfold nx
  by_cases hk : k < ts.length
  · rw [List.getD_eq_getElem?_getD, List.getElem?_eq_getElem hk]; exact h _ (List.getElem_mem hk)
  · rw [List.getD_eq_getElem?_getD, List.getElem?_eq_none (by omega)]; show (0 : Nat) ≤ _; omega
theorem swap_op (c : Cmd) (ts : List ByteArray) : (swap c ts).op = c.op := by unfold swap; repeat' split
                                                                              all_goals rfl
theorem swap_parts (c : Cmd) (ts : List ByteArray) : (swap c ts).parts.length = c.parts.length := by
  unfold swap; repeat' split
  all_goals first | rfl | exact swP_len _ _ _
/-- Whether a command is plain doesn't hang on its texts. -/
theorem swap_plain (c : Cmd) (ts : List ByteArray) : (swap c ts = plain (swap c ts)) ↔ (c = plain c) := by
  obtain ⟨op, ses, seq, key, val, exp, frm, tto, lim, lease, ttl, parts⟩ := c
  by_cases h1 : op = 1 ∨ op = 6
  · have e : swap ⟨op, ses, seq, key, val, exp, frm, tto, lim, lease, ttl, parts⟩ ts = ⟨op, ses, seq, key, val, exp, frm, tto, lim, lease, ttl, parts⟩ := by
      unfold swap; rw [if_neg (by simp only; omega), if_neg (by simp only; omega), if_neg (by simp only; omega), if_neg (by simp only; omega), if_neg (by simp only; omega)]
    rw [e]
  by_cases h2 : op = 2
  · subst h2; simp [swap, plain]
  by_cases h3 : op = 3
  · subst h3; simp [swap, plain]
  by_cases h8 : op = 8
  · subst h8; simp [swap, plain]
  by_cases h4 : op = 4
  · subst h4; simp [swap, plain]
  by_cases h9 : op = 9
  · subst h9; simp [swap, plain]
  by_cases h5 : op = 5
  · subst h5; simp [swap, plain]
  · have e : swap ⟨op, ses, seq, key, val, exp, frm, tto, lim, lease, ttl, parts⟩ ts = ⟨op, ses, seq, key, val, exp, frm, tto, lim, lease, ttl, parts⟩ := by
      unfold swap; rw [if_neg (by simp only; omega), if_neg (by simp only; omega), if_neg (by simp only; omega), if_neg (by simp only; omega), if_neg (by simp only; omega)]
    rw [e]
theorem swap_all (c : Cmd) (ts : List ByteArray) : (swap c ts).parts.all okPart = c.parts.all okPart := by
  unfold swap; repeat' split
  all_goals first | rfl | exact swP_ok _ _ _
theorem swap_may (c : Cmd) (ts : List ByteArray) : may (swap c ts) = may c := by
  have hp : same (swap c ts) (plain (swap c ts)) = same c (plain c) := by
    rw [Bool.eq_iff_iff, same_iff, same_iff]; exact swap_plain c ts
  unfold may
  rw [swap_op, hp, swap_parts, swap_all]
theorem swap_fits {c : Cmd} (h : Fits c) (ts : List ByteArray) : Fits (swap c ts) := by
  have hq : ∀ q ∈ swP ts 0 c.parts, q.op < 256 := fun q hq => by
    obtain ⟨p, hp, e⟩ := swP_op ts 0 c.parts q hq
    rw [e]; exact h.parts p hp
  unfold swap; repeat' split
  all_goals first | exact h | exact ⟨h.op, h.ses, h.seq, h.lim, h.lease, h.ttl, h.parts⟩ | exact ⟨h.op, h.ses, h.seq, h.lim, h.lease, h.ttl, hq⟩
/-- Two commands that may be have the same bytes just if they are the same. -/
theorem bytes_inj {c d : Cmd} (hc : Shape c) (hd : Shape d) : (bytes c = bytes d) ↔ c = d :=
  ⟨fun h => (bytes_free (r := []) hc hd (by rw [List.append_nil]; exact h)).1, fun h => by rw [h]⟩
end Cm
end Go.Proofs.Ytlcgjlganmblpaa
namespace Go.Proofs.Ytlcgjlganmblpaa
open Go.RowKit
theorem bytes_small {c : Cm.Cmd} (hf : Cm.Fits c) (h : Cm.Small c) : (Cm.bytes c).length ≤ 2000000 := by
  have g1 := grp_len c.ses hf.ses
  have g2 := grp_len c.seq hf.seq
  have tx : ∀ s : ByteArray, s.size ≤ 3000 → (Cm.txt s).length ≤ 3010 := fun s hs => by
    have := grp_len s.size (by unfold Nm.top; omega)
    have e : s.data.toList.length = s.size := (Lib.size_eq s).symm
    unfold Cm.txt row
    rw [List.length_append, e]; omega
  have hb : (Cm.body c).length ≤ 1000000 := by
    have t1 := tx c.key h.key
    have t2 := tx c.val h.val
    have t3 := tx c.exp h.exp
    have t4 := tx c.frm h.frm
    have t5 := tx c.tto h.tto
    have g3 := grp_len c.ttl hf.ttl
    have g4 := grp_len c.lease hf.lease
    have hp : ∀ ps : List Cm.Part, (∀ p ∈ ps, p.key.size ≤ 3000 ∧ p.val.size ≤ 3000) → (Cm.partsB ps).length ≤ ps.length * 7000 := by
      intro ps
      induction ps with
      | nil => intro _; simp [Cm.partsB]
      | cons p ps ih =>
        intro hh
        have := ih (fun q hq => hh q (by simp [hq]))
        have k1 := tx p.key (hh p (by simp)).1
        have k2 := tx p.val (hh p (by simp)).2
        have e : (Cm.partsB (p :: ps)).length = (Cm.partB p).length + (Cm.partsB ps).length := by simp [Cm.partsB]
        have e2 : (Cm.partB p).length ≤ 7000 := by
          unfold Cm.partB
          split <;> simp only [List.length_append, Cm.one, List.length_singleton, List.length_nil] <;> omega
        rw [e, List.length_cons, Nat.add_mul]; omega
    have h5 := hp c.parts h.parts
    have h6 : c.parts.length * 7000 ≤ 40 * 7000 := Nat.mul_le_mul_right _ h.len
    unfold Cm.body
    repeat' split
    all_goals try simp only [List.length_append, Cm.one, List.length_singleton, List.length_nil]
    all_goals omega
  unfold Cm.bytes Cm.head
  simp only [List.length_append, Cm.one, List.length_singleton]
  omega
theorem small_shape {c : Cm.Cmd} (hf : Cm.Fits c) (h : Cm.Small c) (hm : Cm.may c = true) : Cm.Shape c :=
  Cm.shape_of hf hm (by have := h.key; unfold Nm.top; omega) (by have := h.val; unfold Nm.top; omega) (by have := h.exp; unfold Nm.top; omega) (by have := h.frm; unfold Nm.top; omega) (by have := h.tto; unfold Nm.top; omega)
    (fun p hp => ⟨by have := (h.parts p hp).1; unfold Nm.top; omega, by have := (h.parts p hp).2; unfold Nm.top; omega⟩)
theorem small_swap {c : Cm.Cmd} (h : Cm.Small c) {ts : List ByteArray} (ht : ∀ t ∈ ts, t.size ≤ 3000) : Cm.Small (Cm.swap c ts) := by
  have hn := Cm.nx_size ts 3000 ht
  have hp := Cm.swP_size ts 3000 hn 0 c.parts (fun p hp => (h.parts p hp).2)
  have hl : (Cm.swap c ts).parts.length ≤ 40 := by rw [Cm.swap_parts]; exact h.len
  obtain ⟨h1, h2, h3, h4, h5, h6, h7⟩ := h
  unfold Cm.swap at hl ⊢
  repeat' split
  all_goals first | exact ⟨hn _, hn _, h3, h4, h5, h6, h7⟩ | exact ⟨hn _, h2, h3, h4, h5, h6, h7⟩ | exact ⟨hn _, hn _, hn _, h4, h5, h6, h7⟩ | exact ⟨h1, h2, h3, hn _, hn _, h6, h7⟩ | exact ⟨h1, h2, h3, h4, h5, h6, h7⟩ | exact ⟨h1, h2, h3, h4, h5, (by rw [Cm.swP_len]; exact h6), hp⟩
theorem bytes_small2 {c : Cm.Cmd} (hf : Cm.Fits c) (h : Cm.Small c) : (Cm.bytes c).length ≤ 10000000 := by
  have h1 := bytes_small hf h
  omega
theorem read_write {c : Cm.Cmd} (hf : Cm.Fits c) (h : Cm.Small c) (hm : Cm.may c = true) : Cm.read (Cm.write c) = some c := by
  unfold Cm.write; rw [hm, if_pos rfl]
  exact (Cm.read_iff _ _).2 ⟨small_shape hf h hm, hm, rfl⟩
end Go.Proofs.Ytlcgjlganmblpaa
namespace Go.Proofs.Ytlcgjlganmblpaa
open Go.RowKit
namespace Rs
def greatP (p : Row) : Bool := decide (3000 < p.key.size) || decide (3000 < p.val.size)
def great0 (r : Res) : Bool := decide (3000 < r.val.size) || decide (40 < r.rows.length)
def great (r : Res) : Bool := great0 r || r.rows.any greatP
/-- A result that isn't great. -/
structure Small (r : Res) : Prop where
  val : r.val.size ≤ 3000
  len : r.rows.length ≤ 40
  rows : ∀ p ∈ r.rows, p.key.size ≤ 3000 ∧ p.val.size ≤ 3000
theorem small_of {r : Res} (h : great r = false) : Small r := by
  unfold great great0 at h
  simp only [Bool.or_eq_false_iff, decide_eq_false_iff_not] at h
  obtain ⟨⟨h1, h6⟩, h7⟩ := h
  refine ⟨by omega, by omega, fun p hp => ?_⟩
  have := (List.any_eq_false.1 h7) p hp
  simp only [greatP, Bool.or_eq_true, decide_eq_true_eq, not_or] at this
  exact ⟨by omega, by omega⟩
end Rs
theorem greatR_take (ps : List Rs.Row) (k : Nat) (hk : k < ps.length) : (ps.take (k + 1)).any Rs.greatP = ((ps.take k).any Rs.greatP || Rs.greatP ps[k]) := by
  rw [List.take_succ_eq_append_getElem hk, List.any_append]; simp
set_option maxRecDepth 100000 in
set_option maxHeartbeats 4000000 in
theorem greatR_any (r : Rs.Res) (A : Option Addr) (cap : Nat) (w : World) (hA : Lies w A (rc r.rows)) :
    Calls Try.prog 17 #[.agg (resC r A cap)] w fun e w' => e = .returned (.bool (Rs.great r)) ∧ Below w.heap.size w w' := by
  have hx : (resC r A cap).size = 4 := rfl
  have x2 : ∀ h, (resC r A cap)[2]'h = .string r.val := fun _ => rfl
  have x3 : ∀ h, (resC r A cap)[3]'h = .slice A r.rows.length cap := fun _ => rfl
  generalize resC r A cap = X at hx x2 x3 ⊢
  have HA := Lib.hid hA
  clear hA
  by_cases h1 : 3000 < r.val.size
  · have E : Hid (Rs.great r = true) := Lib.hid (by unfold Rs.great Rs.great0; simp [h1])
    have d1 : decide ((3000 : Int) < (r.val.size : Int)) = true := dec_t h1
    clear h1
    go_enter Try.func17, Try.ntmps17
    go_wp2_with fail
    go_ret
    rw [E.out]
    exact ⟨rfl, bnew (Below.refl _ _) _⟩
  by_cases h6 : 40 < r.rows.length
  · have E : Hid (Rs.great r = true) := Lib.hid (by unfold Rs.great Rs.great0; simp [h1, h6])
    have d1 : decide ((3000 : Int) < (r.val.size : Int)) = false := dec_f h1
    have d6 : decide ((40 : Int) < (r.rows.length : Int)) = true := dec_t h6
    clear h1 h6
    go_enter Try.func17, Try.ntmps17
    go_wp2_with fail
    go_ret
    rw [E.out]
    exact ⟨rfl, bnew (Below.refl _ _) _⟩
  have hlen : r.rows.length ≤ 40 := by omega
  have hgr : Rs.great r = r.rows.any Rs.greatP := by unfold Rs.great Rs.great0; simp [h1, h6]
  have d1 : decide ((3000 : Int) < (r.val.size : Int)) = false := dec_f h1
  have d6 : decide ((40 : Int) < (r.rows.length : Int)) = false := dec_f h6
  have Hgr := Lib.hid hgr
  clear h1 h6 hgr
  go_enter Try.func17, Try.ntmps17
  go_wp2_with fail
  clear d1 d6
  have hrow : (w.alloc (.cells X 37)).heap[w.heap.size]? = some (.cells X 37 (0, 0)) := heap_alloc_new w _
  have hbw : Below w.heap.size w (w.alloc (.cells X 37)) := bnew (Below.refl _ _) _
  generalize w.alloc (.cells X 37) = W1 at *
  have c11 := cell_of_row W1 w.heap.size 3 X _ _ hrow
  rw [Array.getElem?_eq_getElem (by omega), x3] at c11
  have Hb := Lib.hid hbw
  clear hrow hbw x2 x3
  go_loop [3] (fun i => ∃ k : Nat, k ≤ r.rows.length ∧ i = .int .i64 (k : Int) ∧ (r.rows.take k).any Rs.greatP = false) (fun i => r.rows.length - (intOf i).toNat)
  case atStart => exact ⟨0, Nat.zero_le _, rfl, by simp⟩
  case round =>
    obtain ⟨k, hk, rfl, hall⟩ := hrel
    have Hall := Lib.hid hall
    clear hall
    by_cases hlt : k < r.rows.length
    · obtain ⟨ba, oa, rfl, hba, p0, p1, p2⟩ := HA.out.row k hlt
      have r1 : W1.cell? ⟨ba, oa + k * 3, none⟩ = _ := (Hb.out.cell (p := ⟨ba, oa + k * 3, none⟩) hba).trans p0
      have r2 : W1.cell? ⟨ba, oa + k * 3 + 1, none⟩ = _ := (Hb.out.cell (p := ⟨ba, oa + k * 3 + 1, none⟩) hba).trans p1
      obtain ⟨p, hp⟩ : ∃ p, p = r.rows[k] := ⟨_, rfl⟩
      have hstep := greatR_take r.rows k hlt
      rw [← hp] at r1 r2 hstep
      rw [Hall.out, Bool.false_or] at hstep
      have Hst := Lib.hid hstep
      have Hmem : Hid (p ∈ r.rows) := Lib.hid (by rw [hp]; exact List.getElem_mem hlt)
      clear hstep hp p0 p1 p2
      by_cases g1 : 3000 < p.key.size
      · have Hfin : Hid (r.rows.any Rs.greatP = true) := Lib.hid (List.any_eq_true.2 ⟨p, Hmem.out, by simp [Rs.greatP, g1]⟩)
        have e1 : decide ((3000 : Int) < (p.key.size : Int)) = true := dec_t g1
        clear g1
        go_wp2_with fail
        go_ret
        exact ⟨by rw [Hgr.out, Hfin.out]; rfl, Hb.out⟩
      · have e1 : decide ((3000 : Int) < (p.key.size : Int)) = false := dec_f g1
        by_cases g2 : 3000 < p.val.size
        · have Hfin : Hid (r.rows.any Rs.greatP = true) := Lib.hid (List.any_eq_true.2 ⟨p, Hmem.out, by simp [Rs.greatP, g2]⟩)
          have e2 : decide ((3000 : Int) < (p.val.size : Int)) = true := dec_t g2
          clear g1 g2
          go_wp2_with fail
          go_ret
          exact ⟨by rw [Hgr.out, Hfin.out]; rfl, Hb.out⟩
        · have e2 : decide ((3000 : Int) < (p.val.size : Int)) = false := dec_f g2
          have Hgp : Hid (Rs.greatP p = false) := Lib.hid (by simp [Rs.greatP]; omega)
          clear g1 g2
          go_wp2_with fail
          go_round
          case rel => exact ⟨k + 1, by omega, by go_num, by rw [Hst.out, Hgp.out]⟩
          case measure => simp [intOf]; omega
    · obtain rfl : k = r.rows.length := by omega
      go_wp2_with fail
      go_ret
      refine ⟨?_, Hb.out⟩
      have := Hall.out
      rw [List.take_length] at this
      rw [Hgr.out, this]; rfl
end Go.Proofs.Ytlcgjlganmblpaa
namespace Go.Proofs.Ytlcgjlganmblpaa
theorem txt_ge (s : ByteArray) : s.size ≤ (Cm.txt s).length := by
  unfold Cm.txt row
  rw [List.length_append, ← Lib.size_eq]; omega
theorem flat_ge {α : Type} (f : α → List UInt8) (x : α) : ∀ l : List α, x ∈ l → (f x).length ≤ ((l.map f).flatten).length
  | [], h => by cases h
  | y :: l, h => by
    simp only [List.map_cons, List.flatten_cons, List.length_append]
    rcases List.mem_cons.1 h with rfl | h
    · omega
    · have := flat_ge f x l h; omega
theorem flat_len {α : Type} (f : α → List UInt8) (hf : ∀ x, 1 ≤ (f x).length) : ∀ l : List α, l.length ≤ ((l.map f).flatten).length
  | [] => by simp
  | y :: l => by
    simp only [List.map_cons, List.flatten_cons, List.length_append, List.length_cons]
    have := flat_len f hf l; have := hf y; omega
theorem e0_size : Cm.e0.size = 0 := rfl
theorem body_le (c : Cm.Cmd) : (Cm.body c).length ≤ (Cm.bytes c).length := by
  unfold Cm.bytes; rw [List.length_append]; omega
theorem cmd_short {c : Cm.Cmd} (hs : Cm.Shape c) (hl : (Cm.bytes c).length ≤ 5000) : Short c := by
  have hb := body_le c
  have hp := hs.plain
  have t1 := txt_ge c.key; have t2 := txt_ge c.val; have t3 := txt_ge c.exp; have t4 := txt_ge c.frm; have t5 := txt_ge c.tto
  have hlen := hs.len
  have main : c.key.size ≤ 5000 ∧ c.val.size ≤ 5000 ∧ c.exp.size ≤ 5000 ∧ c.frm.size ≤ 5000 ∧ c.tto.size ≤ 5000 ∧ (Cm.partsB c.parts).length ≤ 5000 := by
    by_cases o1 : c.op = 1 ∨ c.op = 6
    · rw [Cm.plain1 o1] at hp
      have k1 := congrArg (fun c => c.key.size) hp; have k2 := congrArg (fun c => c.val.size) hp; have k3 := congrArg (fun c => c.exp.size) hp; have k4 := congrArg (fun c => c.frm.size) hp; have k5 := congrArg (fun c => c.tto.size) hp; have k6 := congrArg (fun c => (Cm.partsB c.parts).length) hp
      simp only [e0_size, Cm.partsB, List.map_nil, List.flatten_nil, List.length_nil] at k1 k2 k3 k4 k5 k6
      refine ⟨?_, ?_, ?_, ?_, ?_, ?_⟩ <;> (try unfold Cm.partsB) <;> omega
    by_cases o2 : c.op = 2
    · rw [Cm.plain2 o2] at hp
      rw [Cm.body2 o2] at hb
      have k3 := congrArg (fun c => c.exp.size) hp; have k4 := congrArg (fun c => c.frm.size) hp; have k5 := congrArg (fun c => c.tto.size) hp; have k6 := congrArg (fun c => (Cm.partsB c.parts).length) hp
      simp only [e0_size, Cm.partsB, List.map_nil, List.flatten_nil, List.length_nil] at k3 k4 k5 k6
      simp only [List.length_append] at hb
      refine ⟨?_, ?_, ?_, ?_, ?_, ?_⟩ <;> (try unfold Cm.partsB) <;> omega
    by_cases o3 : c.op = 3 ∨ c.op = 8
    · rw [Cm.plain3 o3] at hp
      rw [Cm.body3 o3] at hb
      have k2 := congrArg (fun c => c.val.size) hp; have k3 := congrArg (fun c => c.exp.size) hp; have k4 := congrArg (fun c => c.frm.size) hp; have k5 := congrArg (fun c => c.tto.size) hp; have k6 := congrArg (fun c => (Cm.partsB c.parts).length) hp
      simp only [e0_size, Cm.partsB, List.map_nil, List.flatten_nil, List.length_nil] at k2 k3 k4 k5 k6
      refine ⟨?_, ?_, ?_, ?_, ?_, ?_⟩ <;> (try unfold Cm.partsB) <;> omega
    by_cases o4 : c.op = 4
    · rw [Cm.plain4 o4] at hp
      rw [Cm.body4 o4] at hb
      have k4 := congrArg (fun c => c.frm.size) hp; have k5 := congrArg (fun c => c.tto.size) hp; have k6 := congrArg (fun c => (Cm.partsB c.parts).length) hp
      simp only [e0_size, Cm.partsB, List.map_nil, List.flatten_nil, List.length_nil] at k4 k5 k6
      simp only [List.length_append] at hb
      refine ⟨?_, ?_, ?_, ?_, ?_, ?_⟩ <;> (try unfold Cm.partsB) <;> omega
    by_cases o5 : c.op = 5
    · rw [Cm.plain5 o5] at hp
      rw [Cm.body5 o5] at hb
      have k1 := congrArg (fun c => c.key.size) hp; have k2 := congrArg (fun c => c.val.size) hp; have k3 := congrArg (fun c => c.exp.size) hp; have k4 := congrArg (fun c => c.frm.size) hp; have k5 := congrArg (fun c => c.tto.size) hp
      simp only [e0_size] at k1 k2 k3 k4 k5
      simp only [List.length_append] at hb
      refine ⟨?_, ?_, ?_, ?_, ?_, ?_⟩ <;> omega
    by_cases o7 : c.op = 7
    · rw [Cm.plain7 o7] at hp
      have k1 := congrArg (fun c => c.key.size) hp; have k2 := congrArg (fun c => c.val.size) hp; have k3 := congrArg (fun c => c.exp.size) hp; have k4 := congrArg (fun c => c.frm.size) hp; have k5 := congrArg (fun c => c.tto.size) hp; have k6 := congrArg (fun c => (Cm.partsB c.parts).length) hp
      simp only [e0_size, Cm.partsB, List.map_nil, List.flatten_nil, List.length_nil] at k1 k2 k3 k4 k5 k6
      refine ⟨?_, ?_, ?_, ?_, ?_, ?_⟩ <;> (try unfold Cm.partsB) <;> omega
    by_cases o9 : c.op = 9
    · rw [Cm.plain9 o9] at hp
      rw [Cm.body9 o9] at hb
      have k1 := congrArg (fun c => c.key.size) hp; have k2 := congrArg (fun c => c.val.size) hp; have k3 := congrArg (fun c => c.exp.size) hp; have k6 := congrArg (fun c => (Cm.partsB c.parts).length) hp
      simp only [e0_size, Cm.partsB, List.map_nil, List.flatten_nil, List.length_nil] at k1 k2 k3 k6
      simp only [List.length_append] at hb
      refine ⟨?_, ?_, ?_, ?_, ?_, ?_⟩ <;> (try unfold Cm.partsB) <;> omega
    · have o0 : c.op = 0 ∨ 9 < c.op := by omega
      rw [Cm.plain0 o0] at hp
      have k1 := congrArg (fun c => c.key.size) hp; have k2 := congrArg (fun c => c.val.size) hp; have k3 := congrArg (fun c => c.exp.size) hp; have k4 := congrArg (fun c => c.frm.size) hp; have k5 := congrArg (fun c => c.tto.size) hp; have k6 := congrArg (fun c => (Cm.partsB c.parts).length) hp
      simp only [e0_size, Cm.partsB, List.map_nil, List.flatten_nil, List.length_nil] at k1 k2 k3 k4 k5 k6
      refine ⟨?_, ?_, ?_, ?_, ?_, ?_⟩ <;> (try unfold Cm.partsB) <;> omega
  obtain ⟨m1, m2, m3, m4, m5, m6⟩ := main
  refine ⟨by omega, by omega, by omega, by omega, by omega, by omega, fun p hpp => ?_⟩
  have hw := hs.parts p hpp
  have hg : (Cm.partB p).length ≤ (Cm.partsB c.parts).length := flat_ge Cm.partB p c.parts hpp
  have g1 := txt_ge p.key; have g2 := txt_ge p.val
  refine ⟨hw.op, ?_, ?_⟩
  · unfold Cm.partB at hg; simp only [List.length_append] at hg; omega
  · by_cases h2 : p.op = 2
    · unfold Cm.partB at hg; rw [if_pos h2] at hg; simp only [List.length_append] at hg; omega
    · rw [hw.none h2, e0_size]; omega
theorem res_short {r : Rs.Res} (hs : Rs.Shape r) (hl : (Rs.bytes r).length ≤ 5000) : RFits r ∧ r.val.size ≤ 5000 ∧ r.rows.length ≤ 5000 ∧ ∀ p ∈ r.rows, p.key.size ≤ 5000 ∧ p.val.size ≤ 5000 := by
  have t1 := txt_ge r.val
  unfold Rs.bytes at hl
  simp only [List.length_append] at hl
  have h1 : r.rows.length ≤ (Rs.rowsB r.rows).length := flat_len Rs.rowB (fun x => by
    have := Nm.grp_length x.ver
    unfold Rs.rowB; simp only [List.length_append]; omega) r.rows
  refine ⟨⟨hs.code, hs.n, fun x hx => (hs.rows x hx).ver⟩, by omega, by omega, fun p hp => ?_⟩
  have hg : (Rs.rowB p).length ≤ (Rs.rowsB r.rows).length := flat_ge Rs.rowB p r.rows hp
  have g1 := txt_ge p.key; have g2 := txt_ge p.val
  unfold Rs.rowB at hg
  simp only [List.length_append] at hg
  exact ⟨by omega, by omega⟩
end Go.Proofs.Ytlcgjlganmblpaa
namespace Go.Proofs.Ytlcgjlganmblpaa
open Go.RowKit
set_option linter.unusedVariables false
theorem txt_3000 (s : ByteArray) (hs : s.size ≤ 3000) : (Cm.txt s).length ≤ 3010 := by
  have := grp_len s.size (by unfold Nm.top; omega)
  have e : s.data.toList.length = s.size := (Lib.size_eq s).symm
  unfold Cm.txt row
  rw [List.length_append, e]; omega
theorem rowsB_small : ∀ xs : List Rs.Row, (∀ x ∈ xs, x.ver < Nm.top) → (∀ p ∈ xs, p.key.size ≤ 3000 ∧ p.val.size ≤ 3000) → (Rs.rowsB xs).length ≤ xs.length * 7000
  | [], _, _ => by simp [Rs.rowsB]
  | x :: xs, hv, hh => by
    have := rowsB_small xs (fun q hq => hv q (by simp [hq])) (fun q hq => hh q (by simp [hq]))
    have k1 := txt_3000 x.key (hh x (by simp)).1
    have k2 := txt_3000 x.val (hh x (by simp)).2
    have k3 := grp_len x.ver (hv x (by simp))
    have e : (Rs.rowsB (x :: xs)).length = (Rs.rowB x).length + (Rs.rowsB xs).length := by simp [Rs.rowsB]
    have e2 : (Rs.rowB x).length ≤ 7000 := by
      unfold Rs.rowB
      simp only [List.length_append]; omega
    rw [e, List.length_cons, Nat.add_mul]; omega
theorem resBytes_small {r : Rs.Res} (hf : RFits r) (h : Rs.Small r) : (Rs.bytes r).length ≤ 1000000 := by
  have h1 := grp_len r.n hf.n
  have h2 := grp_len r.rows.length (by have := h.len; unfold Nm.top; omega)
  have h3 := txt_3000 r.val h.val
  have h4 := rowsB_small r.rows hf.rows h.rows
  have h5 := h.len
  unfold Rs.bytes
  simp only [List.length_append, Cm.one, List.length_singleton]
  omega
theorem res_shape {r : Rs.Res} (hf : RFits r) (h : Rs.Small r) : Rs.Shape r :=
  ⟨hf.code, hf.n, by have := h.val; unfold Nm.top; omega, by have := h.len; unfold Nm.top; omega, fun x hx => ⟨by have := (h.rows x hx).1; unfold Nm.top; omega, by have := (h.rows x hx).2; unfold Nm.top; omega, hf.rows x hx⟩⟩
theorem zero_fits : Cm.Fits Cm.zero := ⟨by decide, by simp [Cm.zero, Nm.top], by simp [Cm.zero, Nm.top], by decide, by simp [Cm.zero, Nm.top], by simp [Cm.zero, Nm.top], fun p hp => by cases hp⟩
theorem zero_bytes : (Cm.bytes Cm.zero).length ≤ 100 := by decide +kernel
theorem ozero_fits : Og.Fits Og.Oper.zero := by constructor <;> decide
namespace Fr
open Cm (one)
/-- A frame whose bytes may be asked. -/
structure Ok (f : F) : Prop where
  fits : Fits f
  short : Short f.cmd
  parts : f.cmd.parts.length ≤ 1000000
  bytes : (Cm.bytes f.cmd).length ≤ 9000000
/-- A reply whose bytes may be asked. -/
structure OkR (r : R) : Prop where
  fit : RFit r
  rfits : RFits r.res
  len : r.res.rows.length ≤ 5000
  val : r.res.val.size ≤ 5000
  rows : ∀ p ∈ r.res.rows, p.key.size ≤ 5000 ∧ p.val.size ≤ 5000
  bytes : (Rs.bytes r.res).length ≤ 9000000
theorem ok_small {f : F} (hf : Fits f) (hs : Cm.Small f.cmd) : Ok f := ⟨hf, hs.short hf.cmd, by have := hs.len; omega, by have := bytes_small hf.cmd hs; omega⟩
theorem okr_small {r : R} (hf : RFit r) (hr : RFits r.res) (hs : Rs.Small r.res) : OkR r :=
  ⟨hf, hr, by have := hs.len; omega, by have := hs.val; omega, fun p hp => ⟨by have := (hs.rows p hp).1; omega, by have := (hs.rows p hp).2; omega⟩, by have := resBytes_small hr hs; omega⟩
theorem sh_small {f : F} (hf : Fits f) (hs : Cm.Small f.cmd) (hm : may f) : Sh f := ⟨fun h => small_shape hf.cmd hs (by
  rcases hm with ⟨_, _, h3⟩ | ⟨h1, _⟩
  · exact h3
  · omega)⟩
theorem rsh_small {r : R} (hf : RFit r) (hr : RFits r.res) (hs : Rs.Small r.res) : RSh r := ⟨hf, res_shape hr hs⟩
/-- What is read of a short text may be written. -/
theorem ok_read {l : List UInt8} {f : F} (h : read l = some f) (hl : l.length ≤ 4000) : Ok f ∧ write f = l := by
  obtain ⟨hs, hm, rfl⟩ := (read_iff _ _).1 h
  refine ⟨?_, write_yes hm⟩
  rcases hm with ⟨h1, h2, h3⟩ | ⟨h1, h2, h3⟩
  · have hsh := hs.cmd h1
    have hb : (Cm.bytes f.cmd).length ≤ 4000 := by
      unfold enc at hl; rw [if_pos h1, List.length_append] at hl; omega
    exact ⟨⟨by omega, hsh.fits, by rw [h2]; exact ozero_fits⟩, cmd_short hsh (by omega), by have := hsh.len; omega, by omega⟩
  · exact ⟨⟨by omega, by rw [h2]; exact zero_fits, Wk.may_fits h3⟩, by rw [h2]; exact zero_short, by rw [h2]; exact Nat.zero_le _, by rw [h2]; have := zero_bytes; omega⟩
theorem noRes_right {r : R} (hm : right r = true) (h : r.kind ≠ 6) : r.res = Rs.zero := by
  unfold right at hm
  rw [if_neg (show ¬ r.kind = 6 from h)] at hm
  repeat' split at hm
  all_goals first | (simp only [Bool.and_eq_true, noRes_iff] at hm; first | exact hm.2.2.2 | exact hm.2) | cases hm
theorem okr_zero {r : R} (hf : RFit r) (h : r.res = Rs.zero) : OkR r :=
  ⟨hf, by rw [h]; exact ⟨by decide, by unfold Rs.zero Nm.top; decide, fun p hp => by cases hp⟩, by rw [h]; exact Nat.zero_le _, by rw [h]; exact Nat.zero_le _, by rw [h]; exact fun p hp => (by cases hp), by rw [h]; have : (Rs.bytes Rs.zero).length = 4 := (by decide +kernel); omega⟩
theorem okr_read {l : List UInt8} {r : R} (h : rread l = some r) (hl : l.length ≤ 4000) : OkR r ∧ rwrite r = l := by
  obtain ⟨hs, hm, rfl⟩ := (rread_iff _ _).1 h
  refine ⟨?_, by unfold rwrite; rw [if_pos hm]⟩
  by_cases h6 : r.kind = 6
  · have hb : (Rs.bytes r.res).length ≤ 4000 := by
      unfold bytes tail at hl
      rw [if_neg (by omega), if_neg (by omega), if_pos h6] at hl
      simp only [List.length_append] at hl; omega
    obtain ⟨a, b, c, d⟩ := res_short hs.res (by omega)
    exact ⟨hs.fit, a, c, b, d, by omega⟩
  · exact okr_zero hs.fit (noRes_right hm h6)
theorem ok_zero : Ok F.zero := ⟨⟨by decide, zero_fits, ozero_fits⟩, zero_short, Nat.zero_le _, by have := zero_bytes; show (Cm.bytes Cm.zero).length ≤ _; omega⟩
theorem okr_zero0 : OkR R.zero := okr_zero ⟨by decide, by simp [R.zero, Nm.top], by simp [R.zero, Nm.top], by decide⟩ rfl
/-- The same frame with other texts. -/
def swapF (f : F) (ts : List ByteArray) : F := ⟨f.kind, f.tok, Cm.swap f.cmd ts, f.op⟩
theorem swap_zero (c : Cm.Cmd) (ts : List ByteArray) : Cm.swap c ts = Cm.zero ↔ c = Cm.zero := by
  have hn : ∀ c : Cm.Cmd, c.op = 0 → Cm.swap c ts = c := fun c h => by
    unfold Cm.swap; rw [if_neg (by omega), if_neg (by omega), if_neg (by omega), if_neg (by omega), if_neg (by omega)]
  constructor
  · intro h
    have h0 : c.op = 0 := by rw [← Cm.swap_op c ts, h]; rfl
    rw [← hn c h0]; exact h
  · rintro rfl; exact hn _ rfl
theorem swap_mayF (f : F) (ts : List ByteArray) : may (swapF f ts) ↔ may f := by
  unfold may swapF
  simp only [Cm.swap_may, swap_zero]
theorem swap_fitsF {f : F} (h : Fits f) (ts : List ByteArray) : Fits (swapF f ts) := ⟨h.kind, Cm.swap_fits h.cmd ts, h.op⟩
theorem enc_inj {f g : F} (hf : Sh f) (hg : Sh g) (mf : may f) (mg : may g) : enc f = enc g ↔ f = g :=
  ⟨fun h => (free (r := []) hf hg mf mg (by rw [List.append_nil]; exact h)).1, fun h => by rw [h]⟩
theorem enc_len {f : F} (ho : Ok f) (hm : may f) : (enc f).length ≤ 9000100 := by
  have := ho.bytes
  unfold enc head
  rcases hm with ⟨h1, h2, h3⟩ | ⟨h1, h2, h3⟩
  · rw [if_pos h1]; simp only [List.length_append, tok_len, one, List.length_singleton]; omega
  · have := oenc_len h3
    rw [if_neg (by omega)]; simp only [List.length_append, tok_len, one, List.length_singleton]; omega
theorem rbytes_len {r : R} (ho : OkR r) : (bytes r).length ≤ 9000100 := by
  have := ho.bytes
  have h1 := grp_len r.ses ho.fit.ses
  have h2 := grp_len r.seq ho.fit.seq
  unfold bytes tail
  repeat' split
  all_goals (simp only [List.length_append, one, List.length_cons, List.length_nil]; omega)
end Fr
/-- frame.Write, of a frame that is Ok. -/
theorem okW {f : Fr.F} (h : Fr.Ok f) (A : Option Addr) (cap : Nat) (w : World) (hA : Lies w A (pc f.cmd.parts)) : Calls Try.prog 10 #[.agg (frC f A cap)] w (RetS (Fr.write f) w) :=
  fwrite_any f h.fits h.short (by have := h.bytes; omega) A cap w hA
theorem okR {r : Fr.R} (h : Fr.OkR r) (A : Option Addr) (cap : Nat) (w : World) (hA : Lies w A (rc r.res.rows)) : Calls Try.prog 11 #[.agg (rpC r A cap)] w (RetS (Fr.rwrite r) w) :=
  fwreply_any r h.fit (by have := h.bytes; omega) A cap w (fun W hb => cmdWriteRes_gen 5000 5000 (by decide) (by decide) (by decide) r.res h.rfits (by have := h.val; omega) h.len h.rows A cap W (hA.below hb))
end Go.Proofs.Ytlcgjlganmblpaa
