/-
  The plain mathematics of results (layer 3): their bytes, and how they are read. No program is named here.
  Results as values, and how their rows lie in memory; wapentakeref03.WriteResult walked.
  wapentakeref03.SameResult walked.
-/
import Derived.Test.YtlcgjlganmblpaaRCmd
import Derived.Test.YtlcgjlganmblpaaRSame
import Derived.IntWalk
set_option linter.unusedSimpArgs false
set_option linter.unusedVariables false
namespace Go.Proofs.Ytlcgjlganmblpaa
namespace Rs
open Cm (rdB rdV rdS rdB_iff rdV_iff rdS_iff txt one e0 eqS eqS_iff)

structure Row where
  key : ByteArray
  val : ByteArray
  ver : Nat
structure Res where
  code : Nat
  n : Nat
  val : ByteArray
  rows : List Row
def zero : Res := ⟨0, 0, e0, []⟩
def rowB (x : Row) : List UInt8 := txt x.key ++ txt x.val ++ Nm.grp x.ver
def rowsB (xs : List Row) : List UInt8 := (xs.map rowB).flatten
def bytes (r : Res) : List UInt8 := one r.code ++ Nm.grp r.n ++ txt r.val ++ Nm.grp r.rows.length ++ rowsB r.rows

def sameR (a b : Row) : Bool := eqS a.key b.key && (eqS a.val b.val && a.ver == b.ver)
def sameL : List Row → List Row → Bool
  | [], [] => true
  | a :: l, b :: m => sameR a b && sameL l m
  | _, _ => false
def same (a b : Res) : Bool := a.code == b.code && (a.n == b.n && (eqS a.val b.val && (a.rows.length == b.rows.length && sameL a.rows b.rows)))
theorem sameR_iff (a b : Row) : sameR a b = true ↔ a = b := by
  obtain ⟨k, v, n⟩ := a
  obtain ⟨k', v', n'⟩ := b
  simp [sameR, eqS_iff]
theorem sameL_iff : ∀ l m, sameL l m = true ↔ l = m
  | [], [] => by simp [sameL]
  | [], _ :: _ => by simp [sameL]
  | _ :: _, [] => by simp [sameL]
  | a :: l, b :: m => by simp [sameL, sameR_iff, sameL_iff l m]
theorem same_iff (a b : Res) : same a b = true ↔ a = b := by
  obtain ⟨c, n, v, r⟩ := a
  obtain ⟨c', n', v', r'⟩ := b
  simp only [same, Bool.and_eq_true, sameL_iff, eqS_iff, beq_iff_eq, Res.mk.injEq]
  constructor
  · rintro ⟨h0, h1, h2, _, h3⟩; exact ⟨h0, h1, h2, h3⟩
  · rintro ⟨h0, h1, h2, h3⟩; exact ⟨h0, h1, h2, by rw [h3], h3⟩

def rdRow (l : List UInt8) : Option (Row × List UInt8) :=
  (rdS l).bind fun (k, l) => (rdS l).bind fun (v, l) => (rdV l).bind fun (n, l) => some (⟨k, v, n⟩, l)
def rdRows : Nat → List UInt8 → Option (List Row × List UInt8)
  | 0, l => some ([], l)
  | n + 1, l => (rdRow l).bind fun (x, l) => (rdRows n l).bind fun (xs, l) => some (x :: xs, l)
def parse (l : List UInt8) : Option (Res × List UInt8) :=
  (rdB l).bind fun (c, l) => (rdV l).bind fun (n, l) => (rdS l).bind fun (v, l) => (rdV l).bind fun (k, l) => (rdRows k l).bind fun (xs, l) => some (⟨c, n, v, xs⟩, l)
def read (l : List UInt8) : Option Res := (parse l).bind fun (r, t) => if t = [] then some r else none

structure RowW (x : Row) : Prop where
  key : x.key.size < Nm.top
  val : x.val.size < Nm.top
  ver : x.ver < Nm.top
theorem rdRow_iff (l : List UInt8) (x : Row) (r : List UInt8) : rdRow l = some (x, r) ↔ RowW x ∧ l = rowB x ++ r := by
  unfold rdRow rowB
  constructor
  · intro h
    simp only [Option.bind_eq_some_iff, Prod.exists, rdS_iff, rdV_iff, Option.some.injEq, Prod.mk.injEq] at h
    obtain ⟨k, l1, ⟨g1, rfl⟩, v, l2, ⟨g2, rfl⟩, n, l3, ⟨g3, rfl⟩, rfl, rfl⟩ := h
    exact ⟨⟨g1, g2, g3⟩, by simp⟩
  · rintro ⟨hw, rfl⟩
    rw [List.append_assoc, List.append_assoc, (rdS_iff _ _ _).2 ⟨hw.key, rfl⟩, Option.bind_some]
    simp only []
    rw [(rdS_iff _ _ _).2 ⟨hw.val, rfl⟩, Option.bind_some]
    simp only []
    rw [(rdV_iff _ _ _).2 ⟨hw.ver, rfl⟩, Option.bind_some]
theorem rdRows_iff : ∀ (n : Nat) (l : List UInt8) (xs : List Row) (r : List UInt8), rdRows n l = some (xs, r) ↔ xs.length = n ∧ (∀ x ∈ xs, RowW x) ∧ l = rowsB xs ++ r
  | 0, l, xs, r => by
    simp only [rdRows, Option.some.injEq, Prod.mk.injEq]
    constructor
    · rintro ⟨rfl, rfl⟩; exact ⟨rfl, fun p hp => (by cases hp), rfl⟩
    · rintro ⟨h, _, rfl⟩
      have : xs = [] := List.eq_nil_of_length_eq_zero h
      subst this; exact ⟨rfl, rfl⟩
  | n + 1, l, xs, r => by
    unfold rdRows
    constructor
    · intro h
      obtain ⟨⟨p, l1⟩, h1, h'⟩ := Option.bind_eq_some_iff.1 h
      obtain ⟨⟨qs, l2⟩, h2, h''⟩ := Option.bind_eq_some_iff.1 h'
      clear h h'
      obtain ⟨g1, rfl⟩ := (rdRow_iff _ _ _).1 h1
      obtain ⟨g2, g3, rfl⟩ := (rdRows_iff n _ _ _).1 h2
      simp only [Option.some.injEq, Prod.mk.injEq] at h''
      obtain ⟨rfl, rfl⟩ := h''
      refine ⟨by simp [g2], fun q hq => ?_, by simp [rowsB]⟩
      rcases List.mem_cons.1 hq with rfl | hq
      · exact g1
      · exact g3 q hq
    · rintro ⟨h, hw, rfl⟩
      match xs, h with
      | p :: qs, h =>
        have e : rowsB (p :: qs) ++ r = rowB p ++ (rowsB qs ++ r) := by simp [rowsB]
        rw [e, (rdRow_iff _ _ _).2 ⟨hw p (by simp), rfl⟩, Option.bind_some]
        simp only []
        rw [(rdRows_iff n _ _ _).2 ⟨by simpa using h, fun q hq => hw q (by simp [hq]), rfl⟩, Option.bind_some]
structure Shape (r : Res) : Prop where
  code : r.code < 256
  n : r.n < Nm.top
  val : r.val.size < Nm.top
  len : r.rows.length < Nm.top
  rows : ∀ x ∈ r.rows, RowW x
theorem parse_iff (l : List UInt8) (c : Res) (r : List UInt8) : parse l = some (c, r) ↔ Shape c ∧ l = bytes c ++ r := by
  unfold parse bytes
  constructor
  · intro h
    simp only [Option.bind_eq_some_iff, Prod.exists, rdS_iff, rdV_iff, rdB_iff, rdRows_iff, Option.some.injEq, Prod.mk.injEq] at h
    obtain ⟨a, l1, ⟨g1, rfl⟩, b, l2, ⟨g2, rfl⟩, v, l3, ⟨g3, rfl⟩, k, l4, ⟨g4, rfl⟩, xs, l5, ⟨g5, g6, rfl⟩, rfl, rfl⟩ := h
    exact ⟨⟨g1, g2, g3, by simp only; omega, g6⟩, by simp [g5]⟩
  · rintro ⟨hc, rfl⟩
    have e : one c.code ++ Nm.grp c.n ++ txt c.val ++ Nm.grp c.rows.length ++ rowsB c.rows ++ r = one c.code ++ (Nm.grp c.n ++ (txt c.val ++ (Nm.grp c.rows.length ++ (rowsB c.rows ++ r)))) := by simp
    rw [e, (rdB_iff _ _ _).2 ⟨hc.code, rfl⟩, Option.bind_some]
    simp only []
    rw [(rdV_iff _ _ _).2 ⟨hc.n, rfl⟩, Option.bind_some]
    simp only []
    rw [(rdS_iff _ _ _).2 ⟨hc.val, rfl⟩, Option.bind_some]
    simp only []
    rw [(rdV_iff _ _ _).2 ⟨hc.len, rfl⟩, Option.bind_some]
    simp only []
    rw [(rdRows_iff _ _ _ _).2 ⟨rfl, hc.rows, rfl⟩, Option.bind_some]
theorem read_iff (l : List UInt8) (c : Res) : read l = some c ↔ Shape c ∧ l = bytes c := by
  unfold read
  constructor
  · intro h
    obtain ⟨⟨d, r⟩, h1, h'⟩ := Option.bind_eq_some_iff.1 h
    simp only [] at h'
    split at h'
    · rename_i hr
      injection h' with h'
      subst h' hr
      obtain ⟨hs, hl⟩ := (parse_iff _ _ _).1 h1
      exact ⟨hs, by rw [hl, List.append_nil]⟩
    · cases h'
  · rintro ⟨hs, rfl⟩
    rw [(parse_iff _ c []).2 ⟨hs, (List.append_nil _).symm⟩, Option.bind_some]
    simp
theorem bytes_free {c d : Res} {r : List UInt8} (hc : Shape c) (hd : Shape d) (h : bytes c ++ r = bytes d) : c = d ∧ r = [] := by
  have h1 := (parse_iff _ c r).2 ⟨hc, rfl⟩
  have h2 := (parse_iff (bytes d) d []).2 ⟨hd, (List.append_nil _).symm⟩
  rw [h, h2] at h1
  simp only [Option.some.injEq, Prod.mk.injEq] at h1
  exact ⟨h1.1.symm, h1.2.symm⟩
theorem bytes_len (r : Res) : 4 ≤ (bytes r).length := by
  have h1 : 1 ≤ (Nm.grp r.n).length := by rw [Nm.grp_length]; omega
  have h2 : 1 ≤ (Nm.grp r.rows.length).length := by rw [Nm.grp_length]; omega
  have h3 : 1 ≤ (txt r.val).length := by unfold txt row; rw [List.length_append, Nm.grp_length]; omega
  unfold bytes
  simp only [List.length_append]
  have h4 : (one r.code).length = 1 := rfl
  omega
end Rs
end Go.Proofs.Ytlcgjlganmblpaa
namespace Go.Proofs.Ytlcgjlganmblpaa
open Go.RowKit

def rc1 (x : Rs.Row) : List Value := [.string x.key, .string x.val, .int .u64 (x.ver : Int)]
def rc (xs : List Rs.Row) : List Value := (xs.map rc1).flatten
theorem rc_length (xs : List Rs.Row) : (rc xs).length = 3 * xs.length := by
  induction xs with
  | nil => rfl
  | cons p ps ih =>
    have e : rc (p :: ps) = rc1 p ++ rc ps := rfl
    rw [e, List.length_append, ih, List.length_cons]
    have : (rc1 p).length = 3 := rfl
    omega
theorem rc_at : ∀ (ps : List Rs.Row) (i : Nat) (h : i < ps.length), (rc ps)[3 * i]? = some (.string ps[i].key) ∧ (rc ps)[3 * i + 1]? = some (.string ps[i].val) ∧ (rc ps)[3 * i + 2]? = some (.int .u64 (ps[i].ver : Int))
  | p :: ps, 0, _ => ⟨rfl, rfl, rfl⟩
  | p :: ps, i + 1, h => by
    have e : rc (p :: ps) = rc1 p ++ rc ps := rfl
    have hl : (rc1 p).length = 3 := rfl
    obtain ⟨h0, h1, h2⟩ := rc_at ps i (by simpa using h)
    have k : ∀ j, (rc (p :: ps))[3 * (i + 1) + j]? = (rc ps)[3 * i + j]? := fun j => by
      rw [e, List.getElem?_append_right (by omega)]; congr 1; omega
    exact ⟨(k 0).trans h0, (k 1).trans h1, (k 2).trans h2⟩
theorem Lies.row {w : World} {A : Option Addr} {ps : List Rs.Row} (h : Lies w A (rc ps)) (i : Nat) (hi : i < ps.length) :
    ∃ b off, A = some ⟨b, off, none⟩ ∧ b < w.heap.size ∧ w.cell? ⟨b, off + i * 3, none⟩ = some (.string ps[i].key) ∧ w.cell? ⟨b, off + i * 3 + 1, none⟩ = some (.string ps[i].val) ∧ w.cell? ⟨b, off + i * 3 + 2, none⟩ = some (.int .u64 (ps[i].ver : Int)) := by
  rcases h with h | ⟨b, off, rfl, hb, hc⟩
  · exfalso
    have := rc_length ps
    rw [h] at this
    simp at this; omega
  · obtain ⟨h0, h1, h2⟩ := rc_at ps i hi
    rw [Nat.mul_comm] at h0 h1 h2
    exact ⟨b, off, rfl, hb, hc _ _ h0, hc _ _ h1, hc _ _ h2⟩
/-- A result's cells. -/
def resC (r : Rs.Res) (A : Option Addr) (cap : Nat) : Array Value := #[.int .u8 (r.code : Int), .int .u64 (r.n : Int), .string r.val, .slice A r.rows.length cap]

theorem rowsB_take (ps : List Rs.Row) (k : Nat) (hk : k < ps.length) : Rs.rowsB (ps.take (k + 1)) = Rs.rowsB (ps.take k) ++ Rs.rowB ps[k] := by
  unfold Rs.rowsB
  rw [List.take_succ_eq_append_getElem hk, List.map_append, List.flatten_append, List.map_singleton, List.flatten_singleton]
theorem rowsB_take_le (ps : List Rs.Row) (k : Nat) : (Rs.rowsB (ps.take k)).length ≤ (Rs.rowsB ps).length := by
  have e : Rs.rowsB ps = Rs.rowsB (ps.take k) ++ Rs.rowsB (ps.drop k) := by
    unfold Rs.rowsB
    rw [← List.flatten_append, ← List.map_append, List.take_append_drop]
  rw [e, List.length_append]; omega

/-- Numbers that fit. -/
structure RFits (r : Rs.Res) : Prop where
  code : r.code < 256
  n : r.n < Nm.top
  rows : ∀ x ∈ r.rows, x.ver < Nm.top

set_option maxRecDepth 100000 in
set_option maxHeartbeats 4000000 in
theorem writeResult_any (r : Rs.Res) (hf : RFits r) (A : Option Addr) (cap : Nat) (w : World) (hA : Lies w A (rc r.rows)) (hn : r.rows.length ≤ 1000000) (hlen : (Rs.bytes r).length ≤ 50000000) :
    Calls Try.prog 45 #[.agg (resC r A cap)] w (RetS (Rs.bytes r) w) := by
  have hll : (Rs.bytes r).length = 1 + (Nm.grp r.n).length + (Cm.txt r.val).length + (Nm.grp r.rows.length).length + (Rs.rowsB r.rows).length := by
    unfold Rs.bytes; simp only [List.length_append]; rfl
  have hnt : r.rows.length < Nm.top := by unfold Nm.top; omega
  have h1 := one_any r.code
  have h2 := refOne_any r.n hf.n
  have h3 : ∀ W, Calls Try.prog 70 #[.string r.val] W (RetS (Cm.txt r.val) W) := fun W => text_any r.val W (by omega)
  have h4 := refOne_any r.rows.length hnt
  obtain ⟨g1, hg1⟩ : ∃ g : ByteArray, g = ⟨(Cm.one r.code).toArray⟩ := ⟨_, rfl⟩
  obtain ⟨g2, hg2⟩ : ∃ g : ByteArray, g = ⟨(Nm.grp r.n).toArray⟩ := ⟨_, rfl⟩
  obtain ⟨g3, hg3⟩ : ∃ g : ByteArray, g = ⟨(Cm.txt r.val).toArray⟩ := ⟨_, rfl⟩
  obtain ⟨g4, hg4⟩ : ∃ g : ByteArray, g = ⟨(Nm.grp r.rows.length).toArray⟩ := ⟨_, rfl⟩
  unfold RetS at h1 h2 h3 h4
  rw [← hg1] at h1
  rw [← hg2] at h2
  rw [← hg3] at h3
  rw [← hg4] at h4
  have z1 : g1.size = 1 := by rw [hg1]; rfl
  have z2 : g2.size ≤ 10 := by rw [hg2, Lib.size_eq]; exact grp_len _ hf.n
  have z3 : g3.size ≤ 50000000 := by rw [hg3, Lib.size_eq]; simp only; omega
  have z4 : g4.size ≤ 10 := by rw [hg4, Lib.size_eq]; exact grp_len _ hnt
  have hfin : (⟨(Rs.bytes r).toArray⟩ : ByteArray) = g1 ++ g2 ++ g3 ++ g4 ++ ⟨(Rs.rowsB r.rows).toArray⟩ := by
    rw [hg1, hg2, hg3, hg4]; simp [Rs.bytes, ByteArray.mk_append_mk]
  have hrl : (Rs.rowsB r.rows).length ≤ 50000000 := by omega
  have Hfin := Lib.hid hfin
  have H1 := Lib.hid h1
  have H2 := Lib.hid h2
  have H3 := Lib.hid h3
  have H4 := Lib.hid h4
  have HA := Lib.hid hA
  have a1 : ∀ W : World, (Op.stringOp .add g1 g2).run Try.prog W = .ok (.string (g1 ++ g2)) W := fun W => run_string_add_sum W g1 g2 (by omega)
  have a2 : ∀ W : World, (Op.stringOp .add (g1 ++ g2) g3).run Try.prog W = .ok (.string (g1 ++ g2 ++ g3)) W := fun W => run_string_add_sum W _ g3 (by simp only [ByteArray.size_append]; omega)
  have a3 : ∀ W : World, (Op.stringOp .add (g1 ++ g2 ++ g3) g4).run Try.prog W = .ok (.string (g1 ++ g2 ++ g3 ++ g4)) W := fun W => run_string_add_sum W _ g4 (by simp only [ByteArray.size_append]; omega)
  have hw8 : IntKind.i64.wrap (r.code : Int) = (r.code : Int) := IntWalk.i64_in _ (by have := hf.code; omega)
  have hwr : IntKind.u64.wrap (r.rows.length : Int) = (r.rows.length : Int) := wrap_u64_nat _ hnt
  clear hfin hll hlen hA h1 h2 h3 h4 hg1 hg2 hg3 hg4 hnt
  unfold resC
  go_enter Try.func45, Try.ntmps45
  go_wp2_with fail
  refine forget (fun W => Below w.heap.size w W ∧ w.heap.size < W.heap.size ∧ W.heap[w.heap.size]? = some (.cells (resC r A cap) 37 (0, 0))) ⟨bnew (Below.refl _ _) _, by simp, heap_alloc_new w _⟩ ?_
  rintro W0 ⟨hb0, hs0, hx0⟩
  have c0 : W0.cell? ⟨w.heap.size, 0, none⟩ = some (.int .u8 (r.code : Int)) := cell_of_row W0 w.heap.size 0 _ _ _ hx0
  have c1 : W0.cell? ⟨w.heap.size, 1, none⟩ = some (.int .u64 (r.n : Int)) := cell_of_row W0 w.heap.size 1 _ _ _ hx0
  have c2 : W0.cell? ⟨w.heap.size, 2, none⟩ = some (.string r.val) := cell_of_row W0 w.heap.size 2 _ _ _ hx0
  have c3 : W0.cell? ⟨w.heap.size, 3, none⟩ = some (.slice A r.rows.length cap) := cell_of_row W0 w.heap.size 3 _ _ _ hx0
  have k0 := fun d os => cell_regrown c0 d os
  have k1 := fun d os => cell_regrown c1 d os
  have k2 := fun d os => cell_regrown c2 d os
  have k3 := fun d os => cell_regrown c3 d os
  have HB := Lib.hid (And.intro hb0 hx0)
  clear hb0 hx0 c0 c1 c2 c3
  refine wp_region_quiet_below (by kernel_rfl) (by kernel_rfl) ?_
  repeat (go_big_quiet_step ((first | (go_at_call 67; exact Calls.regrown_of (H1.out _)) | (go_at_call 70; exact Calls.regrown_of (H3.out _)) | (go_at_call 69; first | (with_reducible exact Calls.regrown_of (H2.out _)) | (with_reducible exact Calls.regrown_of (H4.out _))))))
  refine wpQuiet_nil ?_
  intro _ hw'
  obtain ⟨pq, hw''⟩ := hw'
  subst hw''
  have hb1 := below_regrown W0 pq.d pq.os
  clear k0 k1 k2 k3
  generalize Go.Sort.grow (redrawn W0 pq.d) pq.os = W1 at *
  obtain ⟨hb0, hx0⟩ := HB.out
  have H0 := Lib.hid (And.intro (bnext hb0 hb1) (And.intro (Nat.lt_of_lt_of_le hs0 hb1.size) ((hb1.block w.heap.size hs0).trans hx0)))
  clear hb0 hx0 hb1 HB hs0 a1 a2 a3 hw8 hwr
  obtain ⟨G, hG⟩ : ∃ G : ByteArray, G = g1 ++ g2 ++ g3 ++ g4 := ⟨_, rfl⟩
  have hGz : G.size ≤ 50000100 := by rw [hG]; simp only [ByteArray.size_append]; omega
  rw [← hG] at Hfin ⊢
  clear hG
  go_wp2_with fail
  go_loopw [3, 4] (fun v i W => ∃ (k : Nat) (s : ByteArray), k ≤ r.rows.length ∧ i = .int .i64 (k : Int) ∧ v = .string s ∧ s = G ++ ⟨(Rs.rowsB (r.rows.take k)).toArray⟩ ∧ Below w.heap.size w W ∧ w.heap.size < W.heap.size ∧ W.heap[w.heap.size]? = some (.cells (resC r A cap) 37 (0, 0))) (fun _ i _ => r.rows.length - (intOf i).toNat)
  case atStart => exact ⟨0, G, Nat.zero_le _, rfl, rfl, by apply ByteArray.ext; simp [Rs.rowsB, ByteArray.data_append], H0.out⟩
  case round =>
    obtain ⟨k, s, hk, rfl, rfl, hs, hb, hsz, hbx⟩ := hrel
    have c3 : wr.cell? ⟨w.heap.size, 3, none⟩ = some (.slice A r.rows.length cap) := cell_of_row wr w.heap.size 3 _ _ _ hbx
    by_cases hlt : k < r.rows.length
    · obtain ⟨ba, oa, rfl, hba, p0, p1, p2⟩ := HA.out.row k hlt
      have hts := rowsB_take r.rows k hlt
      have htl := rowsB_take_le r.rows (k + 1)
      have hsl : s.size = G.size + (Rs.rowsB (r.rows.take k)).length := by rw [hs, ByteArray.size_append]; congr 1
      have hver := hf.rows _ (List.getElem_mem hlt)
      obtain ⟨p, hp⟩ : ∃ p, p = r.rows[k] := ⟨_, rfl⟩
      rw [← hp] at p0 p1 p2 hts hver
      have hpb : (Rs.rowB p).length + (Rs.rowsB (r.rows.take k)).length ≤ 50000000 := by
        rw [hts, List.length_append] at htl; omega
      have hpl3 : (Rs.rowB p).length = (Cm.txt p.key).length + (Cm.txt p.val).length + (Nm.grp p.ver).length := by
        unfold Rs.rowB; simp only [List.length_append]
      have r0 : wr.cell? ⟨ba, oa + k * 3, none⟩ = _ := (hb.cell (p := ⟨ba, oa + k * 3, none⟩) hba).trans p0
      have r1 : wr.cell? ⟨ba, oa + k * 3 + 1, none⟩ = _ := (hb.cell (p := ⟨ba, oa + k * 3 + 1, none⟩) hba).trans p1
      have r2 : wr.cell? ⟨ba, oa + k * 3 + 2, none⟩ = _ := (hb.cell (p := ⟨ba, oa + k * 3 + 2, none⟩) hba).trans p2
      have i1 : ∀ W, Calls Try.prog 70 #[.string p.key] W (RetS (Cm.txt p.key) W) := fun W => text_any p.key W (by omega)
      have i2 : ∀ W, Calls Try.prog 70 #[.string p.val] W (RetS (Cm.txt p.val) W) := fun W => text_any p.val W (by omega)
      have i3 := refOne_any p.ver hver
      obtain ⟨u1, hu1⟩ : ∃ g : ByteArray, g = ⟨(Cm.txt p.key).toArray⟩ := ⟨_, rfl⟩
      obtain ⟨u2, hu2⟩ : ∃ g : ByteArray, g = ⟨(Cm.txt p.val).toArray⟩ := ⟨_, rfl⟩
      obtain ⟨u3, hu3⟩ : ∃ g : ByteArray, g = ⟨(Nm.grp p.ver).toArray⟩ := ⟨_, rfl⟩
      unfold RetS at i1 i2 i3
      rw [← hu1] at i1
      rw [← hu2] at i2
      rw [← hu3] at i3
      have zu1 : u1.size = (Cm.txt p.key).length := by rw [hu1, Lib.size_eq]
      have zu2 : u2.size = (Cm.txt p.val).length := by rw [hu2, Lib.size_eq]
      have zu3 : u3.size = (Nm.grp p.ver).length := by rw [hu3, Lib.size_eq]
      have I1 := Lib.hid i1
      have I2 := Lib.hid i2
      have I3 := Lib.hid i3
      have a1 : ∀ W : World, (Op.stringOp .add s u1).run Try.prog W = .ok (.string (s ++ u1)) W := fun W => run_string_add_sum W s u1 (by omega)
      have a2 : ∀ W : World, (Op.stringOp .add (s ++ u1) u2).run Try.prog W = .ok (.string (s ++ u1 ++ u2)) W := fun W => run_string_add_sum W _ u2 (by simp only [ByteArray.size_append]; omega)
      have a3 : ∀ W : World, (Op.stringOp .add (s ++ u1 ++ u2) u3).run Try.prog W = .ok (.string (s ++ u1 ++ u2 ++ u3)) W := fun W => run_string_add_sum W _ u3 (by simp only [ByteArray.size_append]; omega)
      have Hs := Lib.hid hs
      have Hts := Lib.hid hts
      have Hu := Lib.hid (And.intro hu1 (And.intro hu2 hu3))
      have k3 := fun d os => cell_regrown c3 d os
      have k4 := fun d os => cell_regrown r0 d os
      have k5 := fun d os => cell_regrown r1 d os
      have k6 := fun d os => cell_regrown r2 d os
      have HB := Lib.hid (And.intro hb hbx)
      have hi0 : (0 : Int) ≤ (k : Int) := by omega
      have hi1 : (k : Int) < (r.rows.length : Int) := by omega
      clear hs hts hu1 hu2 hu3 hb hbx i1 i2 i3 p0 p1 p2 hp hver hsl htl zu1 zu2 zu3 hpl3 hpb r0 r1 r2
      go_wp2_with fail
      clear c3
      refine wp_region_quiet_below (by kernel_rfl) (by kernel_rfl) ?_
      repeat (go_big_quiet_step ((first | (go_at_call 69; exact Calls.regrown_of (I3.out _)) | (go_at_call 70; first | (with_reducible exact Calls.regrown_of (I1.out _)) | (with_reducible exact Calls.regrown_of (I2.out _))))))
      refine wpQuiet_nil ?_
      intro _ hw'
      obtain ⟨pq2, hw''⟩ := hw'
      subst hw''
      have hb5 := below_regrown wr pq2.d pq2.os
      clear k3 k4 k5 k6
      generalize Go.Sort.grow (redrawn wr pq2.d) pq2.os = W5 at *
      obtain ⟨hb, hbx⟩ := HB.out
      have HF := Lib.hid (And.intro (bnext hb hb5) (And.intro (Nat.lt_of_lt_of_le hsz hb5.size) ((hb5.block w.heap.size hsz).trans hbx)))
      clear hb hbx hb5 HB
      go_wp2_with fail
      go_roundw
      case rel => exact ⟨k + 1, s ++ u1 ++ u2 ++ u3, by omega, by go_num, rfl, by rw [Hts.out, Hs.out, Hu.out.1, Hu.out.2.1, Hu.out.2.2, Rs.rowB]; simp [ByteArray.append_assoc, ByteArray.mk_append_mk], HF.out⟩
      case measure => simp [intOf]; omega
    · obtain rfl : k = r.rows.length := by omega
      have hse : s = ⟨(Rs.bytes r).toArray⟩ := by rw [Hfin.out, hs, List.take_length]
      have Hse := Lib.hid hse
      have Hb := Lib.hid hb
      clear hs hse hb hbx
      go_wp2
      go_ret
      exact ⟨by rw [← Hse.out]; rfl, Hb.out⟩
end Go.Proofs.Ytlcgjlganmblpaa
namespace Go.Proofs.Ytlcgjlganmblpaa
open Go.RowKit
theorem stoodRow : Try.prog.stoodInHeld 78 = false := by kernel_rfl
theorem guardRow : Try.prog.eqGuardType Try.prog.depth 78 = false := by kernel_rfl
theorem row_eq (W : World) (x y : Int) (k v k' v' : ByteArray) : (Op.equalIn 10000 78 (.agg #[.string k, .string v, .int .u64 x]) (.agg #[.string k', .string v', .int .u64 y])).run Try.prog W = .ok (k.toList == k'.toList && (v.toList == v'.toList && x == y)) W := by
  rw [run_equalIn_agg W 9999 78 _ _ (by unfold Program.fieldsOf; rw [Try.underlying78]) stoodRow]
  unfold Program.fieldsOf
  rw [Try.underlying78]
  simp only [Op.eqFields]
  simp [go_sem]
  repeat' split
  all_goals simp_all
theorem row_neq (p q : Rs.Row) (W : World) : (binOp .neq 78 (.agg #[.string p.key, .string p.val, .int .u64 (p.ver : Int)]) (.agg #[.string q.key, .string q.val, .int .u64 (q.ver : Int)])).run Try.prog W = .ok (.bool (!Rs.sameR p q)) W := by
  rw [run_neq_struct, row_eq, Result.andThen_ok]
  have e : ((p.ver : Int) == (q.ver : Int)) = (p.ver == q.ver) := by rw [Bool.eq_iff_iff, beq_iff_eq, beq_iff_eq]; omega
  rw [e]; rfl
theorem row_eql (p q : Rs.Row) (W : World) : (binOp .eql 78 (.agg #[.string p.key, .string p.val, .int .u64 (p.ver : Int)]) (.agg #[.string q.key, .string q.val, .int .u64 (q.ver : Int)])).run Try.prog W = .ok (.bool (Rs.sameR p q)) W := by
  rw [run_eql_struct, row_eq, Result.andThen_ok]
  have e : ((p.ver : Int) == (q.ver : Int)) = (p.ver == q.ver) := by rw [Bool.eq_iff_iff, beq_iff_eq, beq_iff_eq]; omega
  rw [e]; rfl

set_option maxRecDepth 100000 in
set_option maxHeartbeats 4000000 in
theorem sameR_code (a b : Rs.Res) (A B : Option Addr) (ca cb : Nat) (w : World)  (b0 : ((a.code : Int) != (b.code : Int)) = true) (d0 : (a.code : Int) ≠ (b.code : Int)) :
    Calls Try.prog 50 #[.agg (resC a A ca), .agg (resC b B cb)] w fun e w' => e = .returned (.bool false) ∧ Below w.heap.size w w' := by
  unfold resC
  go_enter Try.func50, Try.ntmps50
  go_wp2
  go_ret
  exact ⟨rfl, bnew (bnew (Below.refl _ _) _) _⟩

set_option maxRecDepth 100000 in
set_option maxHeartbeats 4000000 in
theorem sameR_n (a b : Rs.Res) (A B : Option Addr) (ca cb : Nat) (w : World) (d0 : ((a.code : Int) = (b.code : Int)) = True) (b0 : ((a.code : Int) != (b.code : Int)) = false) (b1 : ((a.n : Int) != (b.n : Int)) = true) (d1 : (a.n : Int) ≠ (b.n : Int)) :
    Calls Try.prog 50 #[.agg (resC a A ca), .agg (resC b B cb)] w fun e w' => e = .returned (.bool false) ∧ Below w.heap.size w w' := by
  unfold resC
  go_enter Try.func50, Try.ntmps50
  go_wp2
  go_ret
  exact ⟨rfl, bnew (bnew (Below.refl _ _) _) _⟩

set_option maxRecDepth 100000 in
set_option maxHeartbeats 4000000 in
theorem sameR_val (a b : Rs.Res) (A B : Option Addr) (ca cb : Nat) (w : World) (d0 : ((a.code : Int) = (b.code : Int)) = True) (b0 : ((a.code : Int) != (b.code : Int)) = false) (d1 : ((a.n : Int) = (b.n : Int)) = True) (b1 : ((a.n : Int) != (b.n : Int)) = false) (d2 : (a.val.toList == b.val.toList) = false) :
    Calls Try.prog 50 #[.agg (resC a A ca), .agg (resC b B cb)] w fun e w' => e = .returned (.bool false) ∧ Below w.heap.size w w' := by
  unfold resC
  go_enter Try.func50, Try.ntmps50
  go_wp2
  go_ret
  exact ⟨rfl, bnew (bnew (Below.refl _ _) _) _⟩

set_option maxRecDepth 100000 in
set_option maxHeartbeats 4000000 in
theorem sameR_len (a b : Rs.Res) (A B : Option Addr) (ca cb : Nat) (w : World) (d0 : ((a.code : Int) = (b.code : Int)) = True) (b0 : ((a.code : Int) != (b.code : Int)) = false) (d1 : ((a.n : Int) = (b.n : Int)) = True) (b1 : ((a.n : Int) != (b.n : Int)) = false) (d2 : (a.val.toList == b.val.toList) = true) (b3 : ((a.rows.length : Int) != (b.rows.length : Int)) = true) (d3 : (a.rows.length : Int) ≠ (b.rows.length : Int)) :
    Calls Try.prog 50 #[.agg (resC a A ca), .agg (resC b B cb)] w fun e w' => e = .returned (.bool false) ∧ Below w.heap.size w w' := by
  unfold resC
  go_enter Try.func50, Try.ntmps50
  go_wp2
  go_ret
  exact ⟨rfl, bnew (bnew (Below.refl _ _) _) _⟩

set_option maxRecDepth 100000 in
set_option maxHeartbeats 4000000 in
theorem sameR_rows (a b : Rs.Res) (A B : Option Addr) (ca cb : Nat) (w : World) (hA : Lies w A (rc a.rows)) (hB : Lies w B (rc b.rows)) (hn : a.rows.length ≤ 1000000) (hn2 : a.rows.length = b.rows.length) (d0 : ((a.code : Int) = (b.code : Int)) = True) (b0 : ((a.code : Int) != (b.code : Int)) = false) (d1 : ((a.n : Int) = (b.n : Int)) = True) (b1 : ((a.n : Int) != (b.n : Int)) = false) (d2 : (a.val.toList == b.val.toList) = true) (d3 : ((a.rows.length : Int) = (b.rows.length : Int)) = True) (b3 : ((a.rows.length : Int) != (b.rows.length : Int)) = false) :
    Calls Try.prog 50 #[.agg (resC a A ca), .agg (resC b B cb)] w fun e w' => e = .returned (.bool (Rs.sameL a.rows b.rows)) ∧ Below w.heap.size w w' := by
  have HA := Lib.hid hA
  have HB := Lib.hid hB
  have Hn := Lib.hid hn2
  clear hA hB hn2
  unfold resC
  go_enter Try.func50, Try.ntmps50
  go_wp2
  clear d0 d1 d2 d3 b0 b1 b3
  go_loopw [5] (fun i wr => ∃ k : Nat, k ≤ a.rows.length ∧ i = .int .i64 (k : Int) ∧ (∀ j, j < k → a.rows[j]? = b.rows[j]?) ∧ Below w.heap.size w wr ∧ wr.heap[w.heap.size]? = some (.cells (resC a A ca) 37 (0, 0)) ∧ wr.heap[w.heap.size + 1]? = some (.cells (resC b B cb) 37 (0, 0))) (fun i _ => a.rows.length - (intOf i).toNat)
  case atStart => exact ⟨0, Nat.zero_le _, rfl, fun j hj => absurd hj (by omega), bnew (bnew (Below.refl _ _) _) _, by rw [Below.heap_alloc _ _ _ (by simp)]; exact heap_alloc_new w _, by have := heap_alloc_new (w.alloc (.cells (resC a A ca) 37)) (.cells (resC b B cb) 37); rw [World.size_alloc] at this; exact this⟩
  case round =>
    obtain ⟨k, hk, rfl, hall, hb, hbx, hby⟩ := hrel
    have Hall := Lib.hid hall
    have Hb := Lib.hid hb
    clear hall hb
    have c0 : wr.cell? ⟨w.heap.size, 3, none⟩ = some (.slice A a.rows.length ca) := cell_of_row wr w.heap.size 3 _ _ _ hbx
    have c1 : wr.cell? ⟨w.heap.size + 1, 3, none⟩ = some (.slice B b.rows.length cb) := cell_of_row wr (w.heap.size + 1) 3 _ _ _ hby
    have Hx := Lib.hid hbx
    have Hy := Lib.hid hby
    clear hbx hby
    by_cases hlt : k < a.rows.length
    · have hlt2 : k < b.rows.length := by rw [← Hn.out]; exact hlt
      obtain ⟨ba, oa, rfl, hba, p0, p1, p2⟩ := HA.out.row k hlt
      obtain ⟨bb, ob, rfl, hbb, q0, q1, q2⟩ := HB.out.row k hlt2
      have r0 : wr.cell? ⟨ba, oa + k * 3, none⟩ = _ := (Hb.out.cell (p := ⟨ba, oa + k * 3, none⟩) hba).trans p0
      have r1 : wr.cell? ⟨ba, oa + k * 3 + 1, none⟩ = _ := (Hb.out.cell (p := ⟨ba, oa + k * 3 + 1, none⟩) hba).trans p1
      have r2 : wr.cell? ⟨ba, oa + k * 3 + 2, none⟩ = _ := (Hb.out.cell (p := ⟨ba, oa + k * 3 + 2, none⟩) hba).trans p2
      have s0 : wr.cell? ⟨bb, ob + k * 3, none⟩ = _ := (Hb.out.cell (p := ⟨bb, ob + k * 3, none⟩) hbb).trans q0
      have s1 : wr.cell? ⟨bb, ob + k * 3 + 1, none⟩ = _ := (Hb.out.cell (p := ⟨bb, ob + k * 3 + 1, none⟩) hbb).trans q1
      have s2 : wr.cell? ⟨bb, ob + k * 3 + 2, none⟩ = _ := (Hb.out.cell (p := ⟨bb, ob + k * 3 + 2, none⟩) hbb).trans q2
      obtain ⟨p, hp⟩ : ∃ p, p = a.rows[k] := ⟨_, rfl⟩
      obtain ⟨q, hq⟩ : ∃ q, q = b.rows[k] := ⟨_, rfl⟩
      have hgp : a.rows[k]? = some p := by rw [hp, List.getElem?_eq_getElem]
      have hgq : b.rows[k]? = some q := by rw [hq, List.getElem?_eq_getElem]
      rw [← hp] at r0 r1 r2
      rw [← hq] at s0 s1 s2
      have HG := Lib.hid (And.intro hgp hgq)
      clear hp hq hgp hgq p0 p1 p2 q0 q1 q2
      have hne := row_neq p q
      cases hs : Rs.sameR p q
      · rw [hs] at hne
        have Hfin : Hid (Rs.sameL a.rows b.rows = false) := Lib.hid (by
          rw [Bool.eq_false_iff]; intro e
          have e2 := (Rs.sameL_iff _ _).1 e
          have := HG.out
          rw [e2] at this
          have e3 : p = q := by simpa using this.1.symm.trans this.2
          rw [(Rs.sameR_iff p q).2 e3] at hs; cases hs)
        clear hs
        go_wp2
        go_quiet (fail)
        go_wp2
        go_ret
        exact ⟨by rw [Hfin.out]; rfl, below_drewN Hb.out _⟩
      · rw [hs] at hne
        have Hs := Lib.hid ((Rs.sameR_iff p q).1 hs)
        clear hs
        go_wp2
        go_quiet (fail)
        go_wp2
        go_roundw
        case rel => exact ⟨k + 1, by omega, by go_num, fun j hj => (by
          by_cases e : j = k
          · subst e; rw [HG.out.1, HG.out.2, Hs.out]
          · exact Hall.out j (by omega)), below_drewN Hb.out _, Hx.out, Hy.out⟩
        case measure => simp [intOf]; omega
    · obtain rfl : k = a.rows.length := by omega
      have Hfin : Hid (Rs.sameL a.rows b.rows = true) := Lib.hid (by
        rw [Rs.sameL_iff]
        apply List.ext_getElem?
        intro j
        by_cases hj : j < a.rows.length
        · exact Hall.out j hj
        · rw [List.getElem?_eq_none (by omega), List.getElem?_eq_none (by rw [← Hn.out]; omega)])
      go_wp2
      go_ret
      exact ⟨by rw [Hfin.out]; rfl, Hb.out⟩
theorem sameR_no {a b : Rs.Res} (h : a ≠ b) : Rs.same a b = false := by
  rw [Bool.eq_false_iff]; intro e; exact h ((Rs.same_iff a b).1 e)

theorem sameResult_any (a b : Rs.Res) (A B : Option Addr) (ca cb : Nat) (w : World) (hA : Lies w A (rc a.rows)) (hB : Lies w B (rc b.rows)) (hn : a.rows.length ≤ 1000000) :
    Calls Try.prog 50 #[.agg (resC a A ca), .agg (resC b B cb)] w fun e w' => e = .returned (.bool (Rs.same a b)) ∧ Below w.heap.size w w' := by
  by_cases h0 : a.code = b.code
  case neg =>
    rw [sameR_no (fun e => h0 (by rw [e]))]
    exact sameR_code a b A B ca cb w  (ne_int' h0) (ne_int h0)
  by_cases h1 : a.n = b.n
  case neg =>
    rw [sameR_no (fun e => h1 (by rw [e]))]
    exact sameR_n a b A B ca cb w (eq_int h0) (eq_int' h0) (ne_int' h1) (ne_int h1)
  by_cases h2 : a.val = b.val
  case neg =>
    rw [sameR_no (fun e => h2 (by rw [e]))]
    exact sameR_val a b A B ca cb w (eq_int h0) (eq_int' h0) (eq_int h1) (eq_int' h1) (ne_str h2)
  by_cases h3 : a.rows.length = b.rows.length
  case neg =>
    rw [sameR_no (fun e => h3 (by rw [e]))]
    exact sameR_len a b A B ca cb w (eq_int h0) (eq_int' h0) (eq_int h1) (eq_int' h1) (eq_str h2) (ne_int' h3) (ne_int h3)
  have e : Rs.same a b = Rs.sameL a.rows b.rows := by
    unfold Rs.same
    rw [h0, h1, h2, h3]
    simp [Cm.eqS]
  rw [e]
  exact sameR_rows a b A B ca cb w hA hB hn h3 (eq_int h0) (eq_int' h0) (eq_int h1) (eq_int' h1) (eq_str h2) (eq_int h3) (eq_int' h3)
end Go.Proofs.Ytlcgjlganmblpaa
