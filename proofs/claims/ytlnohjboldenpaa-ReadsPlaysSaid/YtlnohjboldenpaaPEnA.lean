/-
  The plain mathematics of layer 4 (entry): entries, which may be, their bytes, and how they are read. No program is named here.
  Entries as values: their cells; entries held against each other.
-/
import Derived.Test.YtlnohjboldenpaaPCmd
import Derived.Test.YtlnohjboldenpaaPTok
import Derived.Test.YtlnohjboldenpaaPFrA
import Derived.Lib.QuietBelow
import Derived.Deep.WholeRow
set_option linter.unusedSimpArgs false
set_option linter.unusedVariables false
namespace Go.Proofs.Ytlnohjboldenpaa
namespace En
open Cm (rdB rdV rdS rdB_iff rdV_iff rdS_iff txt one e0)
structure E where
  idx : Nat
  trm : Nat
  kind : Nat
  slot : Nat
  tok : Og.Tk
  body : ByteArray
def zero : E := ⟨0, 0, 0, 0, Og.Tk.zero, e0⟩
/-- Numbers that fit. -/
structure Fits (e : E) : Prop where
  idx : e.idx < Nm.top
  trm : e.trm < Nm.top
  kind : e.kind < 256
  slot : e.slot < 256
theorem zero_fits : Fits zero := ⟨by decide, by decide, by decide, by decide⟩
def nob (e : E) : Bool := e.slot == 0 && decide (e.tok = Og.Tk.zero)
def mem (s : ByteArray) : Bool := match s.data.toList with
  | [c] => decide (1 ≤ c.toNat) && decide (c.toNat ≤ 31)
  | _ => false
def may (e : E) : Bool := decide (1 ≤ e.idx) && (decide (1 ≤ e.trm) &&
  (if e.kind = 1 ∨ e.kind = 5 then nob e && e.body.size == 0
   else if e.kind = 2 then nob e && mem e.body
   else if e.kind = 3 then decide (e.slot ≤ 3)
   else if e.kind = 4 then nob e
   else false))
def hasB (k : Nat) : Prop := 2 ≤ k ∧ k ≤ 4
instance (k : Nat) : Decidable (hasB k) := by unfold hasB; infer_instance
def own (e : E) : List UInt8 := if e.kind = 3 then one e.slot ++ e.tok.l else []
def bod (e : E) : List UInt8 := if hasB e.kind then txt e.body else []
def enc (e : E) : List UInt8 := one e.kind ++ (Nm.grp e.idx ++ (Nm.grp e.trm ++ (own e ++ bod e)))
def write (e : E) : List UInt8 := if may e = true then enc e else []

/-! Reading. -/
def head (l : List UInt8) : Option ((Nat × Nat × Nat) × List UInt8) :=
  (rdB l).bind fun (k, l) => (rdV l).bind fun (i, l) => (rdV l).bind fun (t, l) => some ((k, i, t), l)
def owner (l : List UInt8) : Option ((Nat × Og.Tk) × List UInt8) :=
  (rdB l).bind fun (s, l) => (Og.rdT l).bind fun (t, l) => some ((s, t), l)
def rdO (k : Nat) (l : List UInt8) : Option ((Nat × Og.Tk) × List UInt8) := if k = 3 then owner l else some ((0, Og.Tk.zero), l)
def rdY (k : Nat) (l : List UInt8) : Option (ByteArray × List UInt8) := if hasB k then rdS l else some (e0, l)
def parse (l : List UInt8) : Option (E × List UInt8) :=
  (head l).bind fun ((k, i, t), l) => (rdO k l).bind fun ((s, x), l) => (rdY k l).bind fun (b, l) => some (⟨i, t, k, s, x, b⟩, l)
def fin (o : Option (E × List UInt8)) : Option E := o.bind fun (e, r) => if r = [] ∧ may e = true then some e else none
def read (l : List UInt8) : Option E := fin (parse l)

theorem e0_of {s : ByteArray} (h : s.size = 0) : s = e0 := ByteArray.ext (Array.eq_empty_of_size_eq_zero h)
theorem may_parts {e : E} (h : may e = true) : (e.kind ≠ 3 → e.slot = 0 ∧ e.tok = Og.Tk.zero) ∧ (¬ hasB e.kind → e.body = e0) ∧ 1 ≤ e.kind ∧ e.kind ≤ 5 ∧ 1 ≤ e.idx ∧ 1 ≤ e.trm := by
  unfold may at h
  simp only [Bool.and_eq_true, decide_eq_true_eq] at h
  obtain ⟨h1, h2, h⟩ := h
  unfold hasB
  by_cases k1 : e.kind = 1 ∨ e.kind = 5
  · rw [if_pos k1] at h
    simp only [nob, Bool.and_eq_true, decide_eq_true_eq, beq_iff_eq] at h
    exact ⟨fun _ => h.1, fun _ => e0_of h.2, by omega, by omega, h1, h2⟩
  rw [if_neg k1] at h
  by_cases k2 : e.kind = 2
  · rw [if_pos k2] at h
    simp only [nob, Bool.and_eq_true, decide_eq_true_eq, beq_iff_eq] at h
    exact ⟨fun _ => h.1, fun hn => absurd (by omega) hn, by omega, by omega, h1, h2⟩
  rw [if_neg k2] at h
  by_cases k3 : e.kind = 3
  · exact ⟨fun hn => absurd k3 hn, fun hn => absurd (by omega) hn, by omega, by omega, h1, h2⟩
  rw [if_neg k3] at h
  by_cases k4 : e.kind = 4
  · rw [if_pos k4] at h
    simp only [nob, Bool.and_eq_true, decide_eq_true_eq, beq_iff_eq] at h
    exact ⟨fun _ => h, fun hn => absurd (by omega) hn, by omega, by omega, h1, h2⟩
  rw [if_neg k4] at h; cases h

theorem head_iff (l : List UInt8) (k i t : Nat) (r : List UInt8) : head l = some ((k, i, t), r) ↔ (k < 256 ∧ i < Nm.top ∧ t < Nm.top) ∧ l = one k ++ (Nm.grp i ++ (Nm.grp t ++ r)) := by
  unfold head
  constructor
  · intro h
    simp only [Option.bind_eq_some_iff, Prod.exists, rdV_iff, rdB_iff, Option.some.injEq, Prod.mk.injEq] at h
    obtain ⟨a, l1, ⟨g1, rfl⟩, b, l2, ⟨g2, rfl⟩, c, l3, ⟨g3, rfl⟩, ⟨rfl, rfl, rfl⟩, rfl⟩ := h
    exact ⟨⟨g1, g2, g3⟩, rfl⟩
  · rintro ⟨⟨g1, g2, g3⟩, rfl⟩
    rw [(rdB_iff _ _ _).2 ⟨g1, rfl⟩, Option.bind_some]
    simp only []
    rw [(rdV_iff _ _ _).2 ⟨g2, rfl⟩, Option.bind_some]
    simp only []
    rw [(rdV_iff _ _ _).2 ⟨g3, rfl⟩, Option.bind_some]
theorem owner_iff (l : List UInt8) (s : Nat) (x : Og.Tk) (r : List UInt8) : owner l = some ((s, x), r) ↔ s < 256 ∧ l = one s ++ x.l ++ r := by
  unfold owner
  constructor
  · intro h
    simp only [Option.bind_eq_some_iff, Prod.exists, rdB_iff, Og.rdT_iff, Option.some.injEq, Prod.mk.injEq] at h
    obtain ⟨a, l1, ⟨g1, rfl⟩, b, l2, rfl, ⟨rfl, rfl⟩, rfl⟩ := h
    exact ⟨g1, by simp⟩
  · rintro ⟨g1, rfl⟩
    rw [List.append_assoc, (rdB_iff _ _ _).2 ⟨g1, rfl⟩, Option.bind_some]
    simp only []
    rw [(Og.rdT_iff _ _ _).2 rfl, Option.bind_some]
theorem parse_enc {e : E} (hf : Fits e) (hb : e.body.size < Nm.top) (hm : may e = true) (r : List UInt8) : parse (enc e ++ r) = some (e, r) := by
  obtain ⟨m1, m2, _⟩ := may_parts hm
  obtain ⟨i, t, k, s, x, b⟩ := e
  simp only at m1 m2 hb
  have h1 : rdO k (own ⟨i, t, k, s, x, b⟩ ++ (bod ⟨i, t, k, s, x, b⟩ ++ r)) = some ((s, x), bod ⟨i, t, k, s, x, b⟩ ++ r) := by
    unfold rdO own
    by_cases k3 : k = 3
    · rw [if_pos k3, if_pos k3]; exact (owner_iff _ _ _ _).2 ⟨hf.slot, by simp⟩
    · rw [if_neg k3, if_neg k3]; obtain ⟨e1, e2⟩ := m1 k3; subst e1 e2; rfl
  have h2 : rdY k (bod ⟨i, t, k, s, x, b⟩ ++ r) = some (b, r) := by
    unfold rdY bod
    by_cases kb : hasB k
    · rw [if_pos kb, if_pos kb]; exact (rdS_iff _ _ _).2 ⟨hb, rfl⟩
    · rw [if_neg kb, if_neg kb]; rw [m2 kb]; rfl
  have e : enc ⟨i, t, k, s, x, b⟩ ++ r = one k ++ (Nm.grp i ++ (Nm.grp t ++ (own ⟨i, t, k, s, x, b⟩ ++ (bod ⟨i, t, k, s, x, b⟩ ++ r)))) := by simp [enc]
  unfold parse
  rw [e, (head_iff _ _ _ _ _).2 ⟨⟨hf.kind, hf.idx, hf.trm⟩, rfl⟩, Option.bind_some]
  simp only []
  rw [h1, Option.bind_some]
  simp only []
  rw [h2, Option.bind_some]
theorem parse_some {l : List UInt8} {e : E} {r : List UInt8} (h : parse l = some (e, r)) : Fits e ∧ e.body.size < Nm.top ∧ l = enc e ++ r := by
  unfold parse at h
  obtain ⟨⟨⟨k, i, t⟩, l1⟩, h1, h'⟩ := Option.bind_eq_some_iff.1 h
  simp only [] at h'
  obtain ⟨⟨⟨s, x⟩, l2⟩, h2, h''⟩ := Option.bind_eq_some_iff.1 h'
  simp only [] at h''
  obtain ⟨⟨b, l3⟩, h3, h'''⟩ := Option.bind_eq_some_iff.1 h''
  simp only [Option.some.injEq, Prod.mk.injEq] at h'''
  obtain ⟨rfl, rfl⟩ := h'''
  obtain ⟨⟨g1, g2, g3⟩, rfl⟩ := (head_iff _ _ _ _ _).1 h1
  have a2 : s < 256 ∧ l1 = own ⟨i, t, k, s, x, b⟩ ++ l2 := by
    unfold rdO at h2; unfold own
    by_cases k3 : k = 3
    · rw [if_pos k3] at h2; simp only [if_pos k3]; exact (owner_iff _ _ _ _).1 h2
    · rw [if_neg k3] at h2; simp only [if_neg k3]
      simp only [Option.some.injEq, Prod.mk.injEq] at h2
      obtain ⟨⟨rfl, rfl⟩, rfl⟩ := h2
      exact ⟨by omega, rfl⟩
  have a3 : b.size < Nm.top ∧ l2 = bod ⟨i, t, k, s, x, b⟩ ++ l3 := by
    unfold rdY at h3; unfold bod
    by_cases kb : hasB k
    · rw [if_pos kb] at h3; simp only [if_pos kb]; exact (rdS_iff _ _ _).1 h3
    · rw [if_neg kb] at h3; simp only [if_neg kb]
      simp only [Option.some.injEq, Prod.mk.injEq] at h3
      obtain ⟨rfl, rfl⟩ := h3
      exact ⟨by decide, rfl⟩
  obtain ⟨a2, rfl⟩ := a2
  obtain ⟨a3, rfl⟩ := a3
  exact ⟨⟨g2, g3, g1, a2⟩, a3, by simp [enc]⟩
theorem read_iff (l : List UInt8) (e : E) : read l = some e ↔ (Fits e ∧ e.body.size < Nm.top) ∧ may e = true ∧ l = enc e := by
  unfold read fin
  constructor
  · intro h
    obtain ⟨⟨d, r⟩, h1, h'⟩ := Option.bind_eq_some_iff.1 h
    simp only [] at h'
    split at h'
    · rename_i hr
      injection h' with h'
      subst h'
      obtain ⟨hr, hm⟩ := hr
      subst hr
      obtain ⟨hs, hb, hl⟩ := parse_some h1
      exact ⟨⟨hs, hb⟩, hm, by rw [hl, List.append_nil]⟩
    · cases h'
  · rintro ⟨⟨hs, hb⟩, hm, rfl⟩
    have := parse_enc hs hb hm []
    rw [List.append_nil] at this
    rw [this, Option.bind_some]
    simp [hm]
theorem read_more {e : E} (hf : Fits e) (hb : e.body.size < Nm.top) (hm : may e = true) (r : List UInt8) : read (enc e ++ r) = if r = [] then some e else none := by
  unfold read fin
  rw [parse_enc hf hb hm, Option.bind_some]
  simp [hm]
theorem read_less {e : E} (hf : Fits e) (hb : e.body.size < Nm.top) (hm : may e = true) (k : Nat) (hk : k < (enc e).length) : read ((enc e).take k) = none := by
  rcases h : read ((enc e).take k) with _ | d
  · rfl
  · exfalso
    obtain ⟨⟨hf2, hb2⟩, hm2, hl⟩ := (read_iff _ _).1 h
    have h1 := parse_enc hf2 hb2 hm2 ((enc e).drop k)
    rw [← hl, List.take_append_drop] at h1
    have h2 := parse_enc hf hb hm []
    rw [List.append_nil, h1] at h2
    simp only [Option.some.injEq, Prod.mk.injEq] at h2
    have := congrArg List.length h2.2
    simp at this; omega
theorem enc_ne (e : E) : enc e ≠ [] := by unfold enc one; simp
theorem enc_len (e : E) (hf : Fits e) (hb : e.body.size < Nm.top) : (enc e).length ≤ 50 + e.body.size := by
  have h1 := grp_len e.idx hf.idx
  have h2 := grp_len e.trm hf.trm
  have h3 : (txt e.body).length ≤ 10 + e.body.size := by
    have := grp_len e.body.data.toList.length (by rw [← Lib.size_eq]; exact hb)
    unfold txt row
    rw [List.length_append, ← Lib.size_eq] at *; omega
  have h4 : (own e).length ≤ 9 := by unfold own; split <;> simp [one, Og.Tk.l]
  have h5 : (bod e).length ≤ 10 + e.body.size := by
    unfold bod
    split
    · exact h3
    · exact Nat.zero_le _
  unfold enc
  simp only [List.length_append]
  have h6 : (one e.kind).length = 1 := rfl
  omega
end En
end Go.Proofs.Ytlnohjboldenpaa
namespace Go.Proofs.Ytlnohjboldenpaa
open Go.RowKit
/-- An entry's cells. -/
def entC (e : En.E) : Array Value := #[.int .u64 (e.idx : Int), .int .u64 (e.trm : Int), .int .u8 (e.kind : Int), .int .u8 (e.slot : Int), .int .u8 (e.tok.a0.toNat : Int), .int .u8 (e.tok.a1.toNat : Int), .int .u8 (e.tok.a2.toNat : Int), .int .u8 (e.tok.a3.toNat : Int), .int .u8 (e.tok.a4.toNat : Int), .int .u8 (e.tok.a5.toNat : Int), .int .u8 (e.tok.a6.toNat : Int), .int .u8 (e.tok.a7.toNat : Int), .string e.body]
theorem sizeEnt : (Try.prog.info? 49).map (·.size) = some 13 := by kernel_rfl
/-- What the walk asks of them. -/
structure EntF (X : Array Value) (e : En.E) : Prop where
  size : X.size = 13
  one : X.all (·.oneCell') = true
  f0 : ∀ h, X[0]'h = .int .u64 (e.idx : Int)
  f1 : ∀ h, X[1]'h = .int .u64 (e.trm : Int)
  f2 : ∀ h, X[2]'h = .int .u8 (e.kind : Int)
  f3 : ∀ h, X[3]'h = .int .u8 (e.slot : Int)
  f4 : ∀ h, X[4]'h = .int .u8 (e.tok.a0.toNat : Int)
  f5 : ∀ h, X[5]'h = .int .u8 (e.tok.a1.toNat : Int)
  f6 : ∀ h, X[6]'h = .int .u8 (e.tok.a2.toNat : Int)
  f7 : ∀ h, X[7]'h = .int .u8 (e.tok.a3.toNat : Int)
  f8 : ∀ h, X[8]'h = .int .u8 (e.tok.a4.toNat : Int)
  f9 : ∀ h, X[9]'h = .int .u8 (e.tok.a5.toNat : Int)
  f10 : ∀ h, X[10]'h = .int .u8 (e.tok.a6.toNat : Int)
  f11 : ∀ h, X[11]'h = .int .u8 (e.tok.a7.toNat : Int)
  f12 : ∀ h, X[12]'h = .string e.body
theorem entF (e : En.E) : EntF (entC e) e :=
  ⟨rfl, by simp [entC, Value.oneCell'], fun _ => rfl, fun _ => rfl, fun _ => rfl, fun _ => rfl, fun _ => rfl, fun _ => rfl, fun _ => rfl, fun _ => rfl, fun _ => rfl, fun _ => rfl, fun _ => rfl, fun _ => rfl, fun _ => rfl⟩
/-- An entry that lies in block g. -/
structure EntAt (W : World) (g : Nat) (e : En.E) : Prop where
  c0 : W.cell? ⟨g, 0, none⟩ = some (.int .u64 (e.idx : Int))
  c1 : W.cell? ⟨g, 1, none⟩ = some (.int .u64 (e.trm : Int))
  c2 : W.cell? ⟨g, 2, none⟩ = some (.int .u8 (e.kind : Int))
  c3 : W.cell? ⟨g, 3, none⟩ = some (.int .u8 (e.slot : Int))
  c4 : W.cell? ⟨g, 4, none⟩ = some (.int .u8 (e.tok.a0.toNat : Int))
  c5 : W.cell? ⟨g, 5, none⟩ = some (.int .u8 (e.tok.a1.toNat : Int))
  c6 : W.cell? ⟨g, 6, none⟩ = some (.int .u8 (e.tok.a2.toNat : Int))
  c7 : W.cell? ⟨g, 7, none⟩ = some (.int .u8 (e.tok.a3.toNat : Int))
  c8 : W.cell? ⟨g, 8, none⟩ = some (.int .u8 (e.tok.a4.toNat : Int))
  c9 : W.cell? ⟨g, 9, none⟩ = some (.int .u8 (e.tok.a5.toNat : Int))
  c10 : W.cell? ⟨g, 10, none⟩ = some (.int .u8 (e.tok.a6.toNat : Int))
  c11 : W.cell? ⟨g, 11, none⟩ = some (.int .u8 (e.tok.a7.toNat : Int))
  c12 : W.cell? ⟨g, 12, none⟩ = some (.string e.body)
  fz : ∀ i, W.frozen? ⟨g, i, none⟩ = false
theorem entAt {W : World} {g : Nat} {e : En.E} (h : W.heap[g]? = some (.cells (entC e) 49 (0, 0))) : EntAt W g e :=
  ⟨cell_of_row W g 0 _ _ _ h, cell_of_row W g 1 _ _ _ h, cell_of_row W g 2 _ _ _ h, cell_of_row W g 3 _ _ _ h, cell_of_row W g 4 _ _ _ h, cell_of_row W g 5 _ _ _ h, cell_of_row W g 6 _ _ _ h, cell_of_row W g 7 _ _ _ h, cell_of_row W g 8 _ _ _ h, cell_of_row W g 9 _ _ _ h, cell_of_row W g 10 _ _ _ h, cell_of_row W g 11 _ _ _ h, cell_of_row W g 12 _ _ _ h, fun i => frozen_of_row W g i _ _ h⟩
def entZ : Array Value := entC En.zero
theorem storeEnt (X : Array Value) (hs : X.size = 13) (ho : X.all (·.oneCell') = true) (W : World) : (storeCells ⟨W.heap.size, 0, none⟩ X.toList 0).run Try.prog (W.alloc (.cells #[.int .u64 0, .int .u64 0, .int .u8 0, .int .u8 0, .int .u8 0, .int .u8 0, .int .u8 0, .int .u8 0, .int .u8 0, .int .u8 0, .int .u8 0, .int .u8 0, .string ⟨#[]⟩] 49)) = .ok () (W.alloc (.cells X 49)) :=
  run_storeCells_new (P := Try.prog) W 49 _ X (by rw [hs]; exact sizeEnt) (by rw [hs]; rfl) ho
/-- An entry laid over a row, cell by cell. -/
theorem entPut {W : World} {g : Nat} {z e : En.E} (h : W.heap[g]? = some (.cells (entC z) 49 (0, 0))) :
    ((((((((((((((W.setCell ⟨g, 0, none⟩ (.int .u64 (e.idx : Int))).setCell ⟨g, 1, none⟩ (.int .u64 (e.trm : Int))).setCell ⟨g, 2, none⟩ (.int .u8 (e.kind : Int))).setCell ⟨g, 3, none⟩ (.int .u8 (e.slot : Int))).setCell ⟨g, 4, none⟩ (.int .u8 (e.tok.a0.toNat : Int))).setCell ⟨g, 5, none⟩ (.int .u8 (e.tok.a1.toNat : Int))).setCell ⟨g, 6, none⟩ (.int .u8 (e.tok.a2.toNat : Int))).setCell ⟨g, 7, none⟩ (.int .u8 (e.tok.a3.toNat : Int))).setCell ⟨g, 8, none⟩ (.int .u8 (e.tok.a4.toNat : Int))).setCell ⟨g, 9, none⟩ (.int .u8 (e.tok.a5.toNat : Int))).setCell ⟨g, 10, none⟩ (.int .u8 (e.tok.a6.toNat : Int))).setCell ⟨g, 11, none⟩ (.int .u8 (e.tok.a7.toNat : Int))).setCell ⟨g, 12, none⟩ (.string e.body))).heap[g]? = some (.cells (entC e) 49 (0, 0)) := by
  have s0 := heap_setCell_same (W) g 0 _ _ (.int .u64 (e.idx : Int)) h
  have s1 := heap_setCell_same ((W.setCell ⟨g, 0, none⟩ (.int .u64 (e.idx : Int)))) g 1 _ _ (.int .u64 (e.trm : Int)) s0
  have s2 := heap_setCell_same (((W.setCell ⟨g, 0, none⟩ (.int .u64 (e.idx : Int))).setCell ⟨g, 1, none⟩ (.int .u64 (e.trm : Int)))) g 2 _ _ (.int .u8 (e.kind : Int)) s1
  have s3 := heap_setCell_same ((((W.setCell ⟨g, 0, none⟩ (.int .u64 (e.idx : Int))).setCell ⟨g, 1, none⟩ (.int .u64 (e.trm : Int))).setCell ⟨g, 2, none⟩ (.int .u8 (e.kind : Int)))) g 3 _ _ (.int .u8 (e.slot : Int)) s2
  have s4 := heap_setCell_same (((((W.setCell ⟨g, 0, none⟩ (.int .u64 (e.idx : Int))).setCell ⟨g, 1, none⟩ (.int .u64 (e.trm : Int))).setCell ⟨g, 2, none⟩ (.int .u8 (e.kind : Int))).setCell ⟨g, 3, none⟩ (.int .u8 (e.slot : Int)))) g 4 _ _ (.int .u8 (e.tok.a0.toNat : Int)) s3
  have s5 := heap_setCell_same ((((((W.setCell ⟨g, 0, none⟩ (.int .u64 (e.idx : Int))).setCell ⟨g, 1, none⟩ (.int .u64 (e.trm : Int))).setCell ⟨g, 2, none⟩ (.int .u8 (e.kind : Int))).setCell ⟨g, 3, none⟩ (.int .u8 (e.slot : Int))).setCell ⟨g, 4, none⟩ (.int .u8 (e.tok.a0.toNat : Int)))) g 5 _ _ (.int .u8 (e.tok.a1.toNat : Int)) s4
  have s6 := heap_setCell_same (((((((W.setCell ⟨g, 0, none⟩ (.int .u64 (e.idx : Int))).setCell ⟨g, 1, none⟩ (.int .u64 (e.trm : Int))).setCell ⟨g, 2, none⟩ (.int .u8 (e.kind : Int))).setCell ⟨g, 3, none⟩ (.int .u8 (e.slot : Int))).setCell ⟨g, 4, none⟩ (.int .u8 (e.tok.a0.toNat : Int))).setCell ⟨g, 5, none⟩ (.int .u8 (e.tok.a1.toNat : Int)))) g 6 _ _ (.int .u8 (e.tok.a2.toNat : Int)) s5
  have s7 := heap_setCell_same ((((((((W.setCell ⟨g, 0, none⟩ (.int .u64 (e.idx : Int))).setCell ⟨g, 1, none⟩ (.int .u64 (e.trm : Int))).setCell ⟨g, 2, none⟩ (.int .u8 (e.kind : Int))).setCell ⟨g, 3, none⟩ (.int .u8 (e.slot : Int))).setCell ⟨g, 4, none⟩ (.int .u8 (e.tok.a0.toNat : Int))).setCell ⟨g, 5, none⟩ (.int .u8 (e.tok.a1.toNat : Int))).setCell ⟨g, 6, none⟩ (.int .u8 (e.tok.a2.toNat : Int)))) g 7 _ _ (.int .u8 (e.tok.a3.toNat : Int)) s6
  have s8 := heap_setCell_same (((((((((W.setCell ⟨g, 0, none⟩ (.int .u64 (e.idx : Int))).setCell ⟨g, 1, none⟩ (.int .u64 (e.trm : Int))).setCell ⟨g, 2, none⟩ (.int .u8 (e.kind : Int))).setCell ⟨g, 3, none⟩ (.int .u8 (e.slot : Int))).setCell ⟨g, 4, none⟩ (.int .u8 (e.tok.a0.toNat : Int))).setCell ⟨g, 5, none⟩ (.int .u8 (e.tok.a1.toNat : Int))).setCell ⟨g, 6, none⟩ (.int .u8 (e.tok.a2.toNat : Int))).setCell ⟨g, 7, none⟩ (.int .u8 (e.tok.a3.toNat : Int)))) g 8 _ _ (.int .u8 (e.tok.a4.toNat : Int)) s7
  have s9 := heap_setCell_same ((((((((((W.setCell ⟨g, 0, none⟩ (.int .u64 (e.idx : Int))).setCell ⟨g, 1, none⟩ (.int .u64 (e.trm : Int))).setCell ⟨g, 2, none⟩ (.int .u8 (e.kind : Int))).setCell ⟨g, 3, none⟩ (.int .u8 (e.slot : Int))).setCell ⟨g, 4, none⟩ (.int .u8 (e.tok.a0.toNat : Int))).setCell ⟨g, 5, none⟩ (.int .u8 (e.tok.a1.toNat : Int))).setCell ⟨g, 6, none⟩ (.int .u8 (e.tok.a2.toNat : Int))).setCell ⟨g, 7, none⟩ (.int .u8 (e.tok.a3.toNat : Int))).setCell ⟨g, 8, none⟩ (.int .u8 (e.tok.a4.toNat : Int)))) g 9 _ _ (.int .u8 (e.tok.a5.toNat : Int)) s8
  have s10 := heap_setCell_same (((((((((((W.setCell ⟨g, 0, none⟩ (.int .u64 (e.idx : Int))).setCell ⟨g, 1, none⟩ (.int .u64 (e.trm : Int))).setCell ⟨g, 2, none⟩ (.int .u8 (e.kind : Int))).setCell ⟨g, 3, none⟩ (.int .u8 (e.slot : Int))).setCell ⟨g, 4, none⟩ (.int .u8 (e.tok.a0.toNat : Int))).setCell ⟨g, 5, none⟩ (.int .u8 (e.tok.a1.toNat : Int))).setCell ⟨g, 6, none⟩ (.int .u8 (e.tok.a2.toNat : Int))).setCell ⟨g, 7, none⟩ (.int .u8 (e.tok.a3.toNat : Int))).setCell ⟨g, 8, none⟩ (.int .u8 (e.tok.a4.toNat : Int))).setCell ⟨g, 9, none⟩ (.int .u8 (e.tok.a5.toNat : Int)))) g 10 _ _ (.int .u8 (e.tok.a6.toNat : Int)) s9
  have s11 := heap_setCell_same ((((((((((((W.setCell ⟨g, 0, none⟩ (.int .u64 (e.idx : Int))).setCell ⟨g, 1, none⟩ (.int .u64 (e.trm : Int))).setCell ⟨g, 2, none⟩ (.int .u8 (e.kind : Int))).setCell ⟨g, 3, none⟩ (.int .u8 (e.slot : Int))).setCell ⟨g, 4, none⟩ (.int .u8 (e.tok.a0.toNat : Int))).setCell ⟨g, 5, none⟩ (.int .u8 (e.tok.a1.toNat : Int))).setCell ⟨g, 6, none⟩ (.int .u8 (e.tok.a2.toNat : Int))).setCell ⟨g, 7, none⟩ (.int .u8 (e.tok.a3.toNat : Int))).setCell ⟨g, 8, none⟩ (.int .u8 (e.tok.a4.toNat : Int))).setCell ⟨g, 9, none⟩ (.int .u8 (e.tok.a5.toNat : Int))).setCell ⟨g, 10, none⟩ (.int .u8 (e.tok.a6.toNat : Int)))) g 11 _ _ (.int .u8 (e.tok.a7.toNat : Int)) s10
  have s12 := heap_setCell_same (((((((((((((W.setCell ⟨g, 0, none⟩ (.int .u64 (e.idx : Int))).setCell ⟨g, 1, none⟩ (.int .u64 (e.trm : Int))).setCell ⟨g, 2, none⟩ (.int .u8 (e.kind : Int))).setCell ⟨g, 3, none⟩ (.int .u8 (e.slot : Int))).setCell ⟨g, 4, none⟩ (.int .u8 (e.tok.a0.toNat : Int))).setCell ⟨g, 5, none⟩ (.int .u8 (e.tok.a1.toNat : Int))).setCell ⟨g, 6, none⟩ (.int .u8 (e.tok.a2.toNat : Int))).setCell ⟨g, 7, none⟩ (.int .u8 (e.tok.a3.toNat : Int))).setCell ⟨g, 8, none⟩ (.int .u8 (e.tok.a4.toNat : Int))).setCell ⟨g, 9, none⟩ (.int .u8 (e.tok.a5.toNat : Int))).setCell ⟨g, 10, none⟩ (.int .u8 (e.tok.a6.toNat : Int))).setCell ⟨g, 11, none⟩ (.int .u8 (e.tok.a7.toNat : Int)))) g 12 _ _ (.string e.body) s11
  rw [s12]
  simp [entC]
theorem entBelow {W w : World} {B g : Nat} {e : En.E} (h : Below B w W) (hg : B ≤ g) :
    Below B w ((((((((((((((W.setCell ⟨g, 0, none⟩ (.int .u64 (e.idx : Int))).setCell ⟨g, 1, none⟩ (.int .u64 (e.trm : Int))).setCell ⟨g, 2, none⟩ (.int .u8 (e.kind : Int))).setCell ⟨g, 3, none⟩ (.int .u8 (e.slot : Int))).setCell ⟨g, 4, none⟩ (.int .u8 (e.tok.a0.toNat : Int))).setCell ⟨g, 5, none⟩ (.int .u8 (e.tok.a1.toNat : Int))).setCell ⟨g, 6, none⟩ (.int .u8 (e.tok.a2.toNat : Int))).setCell ⟨g, 7, none⟩ (.int .u8 (e.tok.a3.toNat : Int))).setCell ⟨g, 8, none⟩ (.int .u8 (e.tok.a4.toNat : Int))).setCell ⟨g, 9, none⟩ (.int .u8 (e.tok.a5.toNat : Int))).setCell ⟨g, 10, none⟩ (.int .u8 (e.tok.a6.toNat : Int))).setCell ⟨g, 11, none⟩ (.int .u8 (e.tok.a7.toNat : Int))).setCell ⟨g, 12, none⟩ (.string e.body))) :=
  (((((((((((((h.setCell (p := ⟨g, 0, none⟩) hg _).setCell (p := ⟨g, 1, none⟩) hg _).setCell (p := ⟨g, 2, none⟩) hg _).setCell (p := ⟨g, 3, none⟩) hg _).setCell (p := ⟨g, 4, none⟩) hg _).setCell (p := ⟨g, 5, none⟩) hg _).setCell (p := ⟨g, 6, none⟩) hg _).setCell (p := ⟨g, 7, none⟩) hg _).setCell (p := ⟨g, 8, none⟩) hg _).setCell (p := ⟨g, 9, none⟩) hg _).setCell (p := ⟨g, 10, none⟩) hg _).setCell (p := ⟨g, 11, none⟩) hg _).setCell (p := ⟨g, 12, none⟩) hg _)
theorem stoodEnt : Try.prog.stoodInHeld 49 = false := by kernel_rfl
theorem guardEnt : Try.prog.eqGuardType Try.prog.depth 49 = false := by kernel_rfl
instance : DecidableEq En.E := fun x y => by
  obtain ⟨a, b, c, d, t, s⟩ := x
  obtain ⟨a', b', c', d', t', s'⟩ := y
  exact decidable_of_iff (a = a' ∧ b = b' ∧ c = c' ∧ d = d' ∧ t = t' ∧ s.data.toList = s'.data.toList) (by
    rw [En.E.mk.injEq]
    constructor
    · rintro ⟨h1, h2, h3, h4, h5, h6⟩; exact ⟨h1, h2, h3, h4, h5, ByteArray.ext (Array.toList_inj.1 h6)⟩
    · rintro ⟨h1, h2, h3, h4, h5, h6⟩; exact ⟨h1, h2, h3, h4, h5, by rw [h6]⟩)
theorem ent_eq (W : World) (x y : En.E) : (Op.equalIn 10000 49 (.agg (entC x)) (.agg (entC y))).run Try.prog W = .ok (decide (x = y)) W := by
  rw [run_equalIn_agg W 9999 49 _ _ (by unfold Program.fieldsOf; rw [Try.underlying49]) stoodEnt]
  unfold Program.fieldsOf
  rw [Try.underlying49]
  have ht : ∀ W, (Op.equalIn 9999 47 (.agg (tk8 x.tok)) (.agg (tk8 y.tok))).run Try.prog W = .ok (decide (x.tok = y.tok)) W := fun W => tok_eq 9997 W _ _
  unfold tk8 t8 at ht
  unfold entC
  simp only [Op.eqFields]
  simp [go_sem, ht, bytes_eq]
  cases x; cases y
  simp only [En.E.mk.injEq]
  repeat' split
  all_goals (simp_all <;> omega)
theorem ent_neq (x y : En.E) (W : World) : (binOp .neq 49 (.agg (entC x)) (.agg (entC y))).run Try.prog W = .ok (.bool (!decide (x = y))) W := by
  rw [run_neq_struct, ent_eq, Result.andThen_ok]
theorem ent_eql (x y : En.E) (W : World) : (binOp .eql 49 (.agg (entC x)) (.agg (entC y))).run Try.prog W = .ok (.bool (decide (x = y))) W := by
  rw [run_eql_struct, ent_eq, Result.andThen_ok]
end Go.Proofs.Ytlnohjboldenpaa
