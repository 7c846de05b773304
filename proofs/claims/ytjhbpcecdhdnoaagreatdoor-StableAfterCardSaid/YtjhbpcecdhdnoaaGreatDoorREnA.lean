/-
  The plain mathematics of layer 4 (entry): entries, which may be, their bytes, and how they are read. No program is named here.
  Entries as values: their cells; entries held against each other.
  entry.isNobodys, isMembership, hasBody and Right walked.
  entry.Right walked. WRITTEN BY wip/tools/gen_enright.py.
-/
import Derived.Test.YtjhbpcecdhdnoaaGreatDoorRCmdZ
import Derived.Test.YtjhbpcecdhdnoaaGreatDoorRWords
import Derived.Lib.QuietBelow
import Derived.Deep.WholeRow
set_option linter.unusedSimpArgs false
set_option linter.unusedVariables false
namespace Go.Proofs.YtjhbpcecdhdnoaaGreatDoor
namespace En
open Cm (rdB rdV rdS rdB_iff rdV_iff rdS_iff txt one e0)
structure E where
  idx : Nat
  trm : Nat
  kind : Nat
  slot : Nat
  tok : Og.Tk
  body : ByteArray
def zero : E := ⟨0, 0, 0, 0, Og.Tk.zero, e0⟩
structure Fits (e : E) : Prop where
  idx : e.idx < Nm.top
  trm : e.trm < Nm.top
  kind : e.kind < 256
  slot : e.slot < 256
theorem zero_fits : Fits zero := ⟨by decide, by decide, by decide, by decide⟩
def nob (e : E) : Bool := e.slot == 0 && decide (e.tok = Og.Tk.zero)
def mem (s : ByteArray) : Bool := match s.data.toList with
  | [c] => decide (1 ≤ c.toNat) && decide (c.toNat ≤ 31)
  | _ => false
def may (e : E) : Bool := decide (1 ≤ e.idx) && (decide (1 ≤ e.trm) &&
  (if e.kind = 1 ∨ e.kind = 5 then nob e && e.body.size == 0
   else if e.kind = 2 then nob e && mem e.body
   else if e.kind = 3 then decide (e.slot ≤ 3)
   else if e.kind = 4 then nob e
   else false))
def hasB (k : Nat) : Prop := 2 ≤ k ∧ k ≤ 4
instance (k : Nat) : Decidable (hasB k) := by unfold hasB; infer_instance
def own (e : E) : List UInt8 := if e.kind = 3 then one e.slot ++ e.tok.l else []
def bod (e : E) : List UInt8 := if hasB e.kind then txt e.body else []
def enc (e : E) : List UInt8 := one e.kind ++ (Nm.grp e.idx ++ (Nm.grp e.trm ++ (own e ++ bod e)))
def write (e : E) : List UInt8 := if may e = true then enc e else []

/-! Reading. -/
def head (l : List UInt8) : Option ((Nat × Nat × Nat) × List UInt8) :=
  (rdB l).bind fun (k, l) => (rdV l).bind fun (i, l) => (rdV l).bind fun (t, l) => some ((k, i, t), l)
def owner (l : List UInt8) : Option ((Nat × Og.Tk) × List UInt8) :=
  (rdB l).bind fun (s, l) => (Og.rdT l).bind fun (t, l) => some ((s, t), l)
def rdO (k : Nat) (l : List UInt8) : Option ((Nat × Og.Tk) × List UInt8) := if k = 3 then owner l else some ((0, Og.Tk.zero), l)
def rdY (k : Nat) (l : List UInt8) : Option (ByteArray × List UInt8) := if hasB k then rdS l else some (e0, l)
def parse (l : List UInt8) : Option (E × List UInt8) :=
  (head l).bind fun ((k, i, t), l) => (rdO k l).bind fun ((s, x), l) => (rdY k l).bind fun (b, l) => some (⟨i, t, k, s, x, b⟩, l)
def fin (o : Option (E × List UInt8)) : Option E := o.bind fun (e, r) => if r = [] ∧ may e = true then some e else none
def read (l : List UInt8) : Option E := fin (parse l)

theorem e0_of {s : ByteArray} (h : s.size = 0) : s = e0 := ByteArray.ext (Array.eq_empty_of_size_eq_zero h)
theorem may_parts {e : E} (h : may e = true) : (e.kind ≠ 3 → e.slot = 0 ∧ e.tok = Og.Tk.zero) ∧ (¬ hasB e.kind → e.body = e0) ∧ 1 ≤ e.kind ∧ e.kind ≤ 5 ∧ 1 ≤ e.idx ∧ 1 ≤ e.trm := by
  unfold may at h
  simp only [Bool.and_eq_true, decide_eq_true_eq] at h
  obtain ⟨h1, h2, h⟩ := h
  unfold hasB
  by_cases k1 : e.kind = 1 ∨ e.kind = 5
  · rw [if_pos k1] at h
    simp only [nob, Bool.and_eq_true, decide_eq_true_eq, beq_iff_eq] at h
    exact ⟨fun _ => h.1, fun _ => e0_of h.2, by omega, by omega, h1, h2⟩
  rw [if_neg k1] at h
  by_cases k2 : e.kind = 2
  · rw [if_pos k2] at h
    simp only [nob, Bool.and_eq_true, decide_eq_true_eq, beq_iff_eq] at h
    exact ⟨fun _ => h.1, fun hn => absurd (by omega) hn, by omega, by omega, h1, h2⟩
  rw [if_neg k2] at h
  by_cases k3 : e.kind = 3
  · exact ⟨fun hn => absurd k3 hn, fun hn => absurd (by omega) hn, by omega, by omega, h1, h2⟩
  rw [if_neg k3] at h
  by_cases k4 : e.kind = 4
  · rw [if_pos k4] at h
    simp only [nob, Bool.and_eq_true, decide_eq_true_eq, beq_iff_eq] at h
    exact ⟨fun _ => h, fun hn => absurd (by omega) hn, by omega, by omega, h1, h2⟩
  rw [if_neg k4] at h; cases h

theorem head_iff (l : List UInt8) (k i t : Nat) (r : List UInt8) : head l = some ((k, i, t), r) ↔ (k < 256 ∧ i < Nm.top ∧ t < Nm.top) ∧ l = one k ++ (Nm.grp i ++ (Nm.grp t ++ r)) := by
  unfold head
  constructor
  · intro h
    simp only [Option.bind_eq_some_iff, Prod.exists, rdV_iff, rdB_iff, Option.some.injEq, Prod.mk.injEq] at h
    obtain ⟨a, l1, ⟨g1, rfl⟩, b, l2, ⟨g2, rfl⟩, c, l3, ⟨g3, rfl⟩, ⟨rfl, rfl, rfl⟩, rfl⟩ := h
    exact ⟨⟨g1, g2, g3⟩, rfl⟩
  · rintro ⟨⟨g1, g2, g3⟩, rfl⟩
    rw [(rdB_iff _ _ _).2 ⟨g1, rfl⟩, Option.bind_some]
    simp only []
    rw [(rdV_iff _ _ _).2 ⟨g2, rfl⟩, Option.bind_some]
    simp only []
    rw [(rdV_iff _ _ _).2 ⟨g3, rfl⟩, Option.bind_some]
theorem owner_iff (l : List UInt8) (s : Nat) (x : Og.Tk) (r : List UInt8) : owner l = some ((s, x), r) ↔ s < 256 ∧ l = one s ++ x.l ++ r := by
  unfold owner
  constructor
  · intro h
    simp only [Option.bind_eq_some_iff, Prod.exists, rdB_iff, Og.rdT_iff, Option.some.injEq, Prod.mk.injEq] at h
    obtain ⟨a, l1, ⟨g1, rfl⟩, b, l2, rfl, ⟨rfl, rfl⟩, rfl⟩ := h
    exact ⟨g1, by simp⟩
  · rintro ⟨g1, rfl⟩
    rw [List.append_assoc, (rdB_iff _ _ _).2 ⟨g1, rfl⟩, Option.bind_some]
    simp only []
    rw [(Og.rdT_iff _ _ _).2 rfl, Option.bind_some]
theorem parse_enc {e : E} (hf : Fits e) (hb : e.body.size < Nm.top) (hm : may e = true) (r : List UInt8) : parse (enc e ++ r) = some (e, r) := by
  obtain ⟨m1, m2, _⟩ := may_parts hm
  obtain ⟨i, t, k, s, x, b⟩ := e
  simp only at m1 m2 hb
  have h1 : rdO k (own ⟨i, t, k, s, x, b⟩ ++ (bod ⟨i, t, k, s, x, b⟩ ++ r)) = some ((s, x), bod ⟨i, t, k, s, x, b⟩ ++ r) := by
    unfold rdO own
    by_cases k3 : k = 3
    · rw [if_pos k3, if_pos k3]; exact (owner_iff _ _ _ _).2 ⟨hf.slot, by simp⟩
    · rw [if_neg k3, if_neg k3]; obtain ⟨e1, e2⟩ := m1 k3; subst e1 e2; rfl
  have h2 : rdY k (bod ⟨i, t, k, s, x, b⟩ ++ r) = some (b, r) := by
    unfold rdY bod
    by_cases kb : hasB k
    · rw [if_pos kb, if_pos kb]; exact (rdS_iff _ _ _).2 ⟨hb, rfl⟩
    · rw [if_neg kb, if_neg kb]; rw [m2 kb]; rfl
  have e : enc ⟨i, t, k, s, x, b⟩ ++ r = one k ++ (Nm.grp i ++ (Nm.grp t ++ (own ⟨i, t, k, s, x, b⟩ ++ (bod ⟨i, t, k, s, x, b⟩ ++ r)))) := by simp [enc]
  unfold parse
  rw [e, (head_iff _ _ _ _ _).2 ⟨⟨hf.kind, hf.idx, hf.trm⟩, rfl⟩, Option.bind_some]
  simp only []
  rw [h1, Option.bind_some]
  simp only []
  rw [h2, Option.bind_some]
theorem parse_some {l : List UInt8} {e : E} {r : List UInt8} (h : parse l = some (e, r)) : Fits e ∧ e.body.size < Nm.top ∧ l = enc e ++ r := by
  unfold parse at h
  obtain ⟨⟨⟨k, i, t⟩, l1⟩, h1, h'⟩ := Option.bind_eq_some_iff.1 h
  simp only [] at h'
  obtain ⟨⟨⟨s, x⟩, l2⟩, h2, h''⟩ := Option.bind_eq_some_iff.1 h'
  simp only [] at h''
  obtain ⟨⟨b, l3⟩, h3, h'''⟩ := Option.bind_eq_some_iff.1 h''
  simp only [Option.some.injEq, Prod.mk.injEq] at h'''
  obtain ⟨rfl, rfl⟩ := h'''
  obtain ⟨⟨g1, g2, g3⟩, rfl⟩ := (head_iff _ _ _ _ _).1 h1
  have a2 : s < 256 ∧ l1 = own ⟨i, t, k, s, x, b⟩ ++ l2 := by
    unfold rdO at h2; unfold own
    by_cases k3 : k = 3
    · rw [if_pos k3] at h2; simp only [if_pos k3]; exact (owner_iff _ _ _ _).1 h2
    · rw [if_neg k3] at h2; simp only [if_neg k3]
      simp only [Option.some.injEq, Prod.mk.injEq] at h2
      obtain ⟨⟨rfl, rfl⟩, rfl⟩ := h2
      exact ⟨by omega, rfl⟩
  have a3 : b.size < Nm.top ∧ l2 = bod ⟨i, t, k, s, x, b⟩ ++ l3 := by
    unfold rdY at h3; unfold bod
    by_cases kb : hasB k
    · rw [if_pos kb] at h3; simp only [if_pos kb]; exact (rdS_iff _ _ _).1 h3
    · rw [if_neg kb] at h3; simp only [if_neg kb]
      simp only [Option.some.injEq, Prod.mk.injEq] at h3
      obtain ⟨rfl, rfl⟩ := h3
      exact ⟨by decide, rfl⟩
  obtain ⟨a2, rfl⟩ := a2
  obtain ⟨a3, rfl⟩ := a3
  exact ⟨⟨g2, g3, g1, a2⟩, a3, by simp [enc]⟩
theorem read_iff (l : List UInt8) (e : E) : read l = some e ↔ (Fits e ∧ e.body.size < Nm.top) ∧ may e = true ∧ l = enc e := by
  unfold read fin
  constructor
  · intro h
    obtain ⟨⟨d, r⟩, h1, h'⟩ := Option.bind_eq_some_iff.1 h
    simp only [] at h'
    split at h'
    · rename_i hr
      injection h' with h'
      subst h'
      obtain ⟨hr, hm⟩ := hr
      subst hr
      obtain ⟨hs, hb, hl⟩ := parse_some h1
      exact ⟨⟨hs, hb⟩, hm, by rw [hl, List.append_nil]⟩
    · cases h'
  · rintro ⟨⟨hs, hb⟩, hm, rfl⟩
    have := parse_enc hs hb hm []
    rw [List.append_nil] at this
    rw [this, Option.bind_some]
    simp [hm]
theorem enc_len (e : E) (hf : Fits e) (hb : e.body.size < Nm.top) : (enc e).length ≤ 50 + e.body.size := by
  have h1 := grp_len e.idx hf.idx
  have h2 := grp_len e.trm hf.trm
  have h3 : (txt e.body).length ≤ 10 + e.body.size := by
    have := grp_len e.body.data.toList.length (by rw [← Lib.size_eq]; exact hb)
    unfold txt row
    rw [List.length_append, ← Lib.size_eq] at *; omega
  have h4 : (own e).length ≤ 9 := by unfold own; split <;> simp [one, Og.Tk.l]
  have h5 : (bod e).length ≤ 10 + e.body.size := by
    unfold bod
    split
    · exact h3
    · exact Nat.zero_le _
  unfold enc
  simp only [List.length_append]
  have h6 : (one e.kind).length = 1 := rfl
  omega
end En
end Go.Proofs.YtjhbpcecdhdnoaaGreatDoor
namespace Go.Proofs.YtjhbpcecdhdnoaaGreatDoor
open Go.RowKit
def entC (e : En.E) : Array Value := #[.int .u64 (e.idx : Int), .int .u64 (e.trm : Int), .int .u8 (e.kind : Int), .int .u8 (e.slot : Int), .int .u8 (e.tok.a0.toNat : Int), .int .u8 (e.tok.a1.toNat : Int), .int .u8 (e.tok.a2.toNat : Int), .int .u8 (e.tok.a3.toNat : Int), .int .u8 (e.tok.a4.toNat : Int), .int .u8 (e.tok.a5.toNat : Int), .int .u8 (e.tok.a6.toNat : Int), .int .u8 (e.tok.a7.toNat : Int), .string e.body]
theorem sizeEnt : (Tryz.prog.info? 88).map (·.size) = some 13 := by kernel_rfl
structure EntF (X : Array Value) (e : En.E) : Prop where
  size : X.size = 13
  one : X.all (·.oneCell') = true
  f0 : ∀ h, X[0]'h = .int .u64 (e.idx : Int)
  f1 : ∀ h, X[1]'h = .int .u64 (e.trm : Int)
  f2 : ∀ h, X[2]'h = .int .u8 (e.kind : Int)
  f3 : ∀ h, X[3]'h = .int .u8 (e.slot : Int)
  f4 : ∀ h, X[4]'h = .int .u8 (e.tok.a0.toNat : Int)
  f5 : ∀ h, X[5]'h = .int .u8 (e.tok.a1.toNat : Int)
  f6 : ∀ h, X[6]'h = .int .u8 (e.tok.a2.toNat : Int)
  f7 : ∀ h, X[7]'h = .int .u8 (e.tok.a3.toNat : Int)
  f8 : ∀ h, X[8]'h = .int .u8 (e.tok.a4.toNat : Int)
  f9 : ∀ h, X[9]'h = .int .u8 (e.tok.a5.toNat : Int)
  f10 : ∀ h, X[10]'h = .int .u8 (e.tok.a6.toNat : Int)
  f11 : ∀ h, X[11]'h = .int .u8 (e.tok.a7.toNat : Int)
  f12 : ∀ h, X[12]'h = .string e.body
theorem entF (e : En.E) : EntF (entC e) e :=
  ⟨rfl, by simp [entC, Value.oneCell'], fun _ => rfl, fun _ => rfl, fun _ => rfl, fun _ => rfl, fun _ => rfl, fun _ => rfl, fun _ => rfl, fun _ => rfl, fun _ => rfl, fun _ => rfl, fun _ => rfl, fun _ => rfl, fun _ => rfl⟩
structure EntAt (W : World) (g : Nat) (e : En.E) : Prop where
  c0 : W.cell? ⟨g, 0, none⟩ = some (.int .u64 (e.idx : Int))
  c1 : W.cell? ⟨g, 1, none⟩ = some (.int .u64 (e.trm : Int))
  c2 : W.cell? ⟨g, 2, none⟩ = some (.int .u8 (e.kind : Int))
  c3 : W.cell? ⟨g, 3, none⟩ = some (.int .u8 (e.slot : Int))
  c4 : W.cell? ⟨g, 4, none⟩ = some (.int .u8 (e.tok.a0.toNat : Int))
  c5 : W.cell? ⟨g, 5, none⟩ = some (.int .u8 (e.tok.a1.toNat : Int))
  c6 : W.cell? ⟨g, 6, none⟩ = some (.int .u8 (e.tok.a2.toNat : Int))
  c7 : W.cell? ⟨g, 7, none⟩ = some (.int .u8 (e.tok.a3.toNat : Int))
  c8 : W.cell? ⟨g, 8, none⟩ = some (.int .u8 (e.tok.a4.toNat : Int))
  c9 : W.cell? ⟨g, 9, none⟩ = some (.int .u8 (e.tok.a5.toNat : Int))
  c10 : W.cell? ⟨g, 10, none⟩ = some (.int .u8 (e.tok.a6.toNat : Int))
  c11 : W.cell? ⟨g, 11, none⟩ = some (.int .u8 (e.tok.a7.toNat : Int))
  c12 : W.cell? ⟨g, 12, none⟩ = some (.string e.body)
  fz : ∀ i, W.frozen? ⟨g, i, none⟩ = false
theorem entAt {W : World} {g : Nat} {e : En.E} (h : W.heap[g]? = some (.cells (entC e) 88 (0, 0))) : EntAt W g e :=
  ⟨cell_of_row W g 0 _ _ _ h, cell_of_row W g 1 _ _ _ h, cell_of_row W g 2 _ _ _ h, cell_of_row W g 3 _ _ _ h, cell_of_row W g 4 _ _ _ h, cell_of_row W g 5 _ _ _ h, cell_of_row W g 6 _ _ _ h, cell_of_row W g 7 _ _ _ h, cell_of_row W g 8 _ _ _ h, cell_of_row W g 9 _ _ _ h, cell_of_row W g 10 _ _ _ h, cell_of_row W g 11 _ _ _ h, cell_of_row W g 12 _ _ _ h, fun i => frozen_of_row W g i _ _ h⟩
def entZ : Array Value := entC En.zero
theorem storeEnt (X : Array Value) (hs : X.size = 13) (ho : X.all (·.oneCell') = true) (W : World) : (storeCells ⟨W.heap.size, 0, none⟩ X.toList 0).run Tryz.prog (W.alloc (.cells #[.int .u64 0, .int .u64 0, .int .u8 0, .int .u8 0, .int .u8 0, .int .u8 0, .int .u8 0, .int .u8 0, .int .u8 0, .int .u8 0, .int .u8 0, .int .u8 0, .string ⟨#[]⟩] 88)) = .ok () (W.alloc (.cells X 88)) :=
  run_storeCells_new (P := Tryz.prog) W 88 _ X (by rw [hs]; exact sizeEnt) (by rw [hs]; rfl) ho
theorem entPut {W : World} {g : Nat} {z e : En.E} (h : W.heap[g]? = some (.cells (entC z) 88 (0, 0))) :
    ((((((((((((((W.setCell ⟨g, 0, none⟩ (.int .u64 (e.idx : Int))).setCell ⟨g, 1, none⟩ (.int .u64 (e.trm : Int))).setCell ⟨g, 2, none⟩ (.int .u8 (e.kind : Int))).setCell ⟨g, 3, none⟩ (.int .u8 (e.slot : Int))).setCell ⟨g, 4, none⟩ (.int .u8 (e.tok.a0.toNat : Int))).setCell ⟨g, 5, none⟩ (.int .u8 (e.tok.a1.toNat : Int))).setCell ⟨g, 6, none⟩ (.int .u8 (e.tok.a2.toNat : Int))).setCell ⟨g, 7, none⟩ (.int .u8 (e.tok.a3.toNat : Int))).setCell ⟨g, 8, none⟩ (.int .u8 (e.tok.a4.toNat : Int))).setCell ⟨g, 9, none⟩ (.int .u8 (e.tok.a5.toNat : Int))).setCell ⟨g, 10, none⟩ (.int .u8 (e.tok.a6.toNat : Int))).setCell ⟨g, 11, none⟩ (.int .u8 (e.tok.a7.toNat : Int))).setCell ⟨g, 12, none⟩ (.string e.body))).heap[g]? = some (.cells (entC e) 88 (0, 0)) := by
  have s0 := heap_setCell_same (W) g 0 _ _ (.int .u64 (e.idx : Int)) h
  have s1 := heap_setCell_same ((W.setCell ⟨g, 0, none⟩ (.int .u64 (e.idx : Int)))) g 1 _ _ (.int .u64 (e.trm : Int)) s0
  have s2 := heap_setCell_same (((W.setCell ⟨g, 0, none⟩ (.int .u64 (e.idx : Int))).setCell ⟨g, 1, none⟩ (.int .u64 (e.trm : Int)))) g 2 _ _ (.int .u8 (e.kind : Int)) s1
  have s3 := heap_setCell_same ((((W.setCell ⟨g, 0, none⟩ (.int .u64 (e.idx : Int))).setCell ⟨g, 1, none⟩ (.int .u64 (e.trm : Int))).setCell ⟨g, 2, none⟩ (.int .u8 (e.kind : Int)))) g 3 _ _ (.int .u8 (e.slot : Int)) s2
  have s4 := heap_setCell_same (((((W.setCell ⟨g, 0, none⟩ (.int .u64 (e.idx : Int))).setCell ⟨g, 1, none⟩ (.int .u64 (e.trm : Int))).setCell ⟨g, 2, none⟩ (.int .u8 (e.kind : Int))).setCell ⟨g, 3, none⟩ (.int .u8 (e.slot : Int)))) g 4 _ _ (.int .u8 (e.tok.a0.toNat : Int)) s3
  have s5 := heap_setCell_same ((((((W.setCell ⟨g, 0, none⟩ (.int .u64 (e.idx : Int))).setCell ⟨g, 1, none⟩ (.int .u64 (e.trm : Int))).setCell ⟨g, 2, none⟩ (.int .u8 (e.kind : Int))).setCell ⟨g, 3, none⟩ (.int .u8 (e.slot : Int))).setCell ⟨g, 4, none⟩ (.int .u8 (e.tok.a0.toNat : Int)))) g 5 _ _ (.int .u8 (e.tok.a1.toNat : Int)) s4
  have s6 := heap_setCell_same (((((((W.setCell ⟨g, 0, none⟩ (.int .u64 (e.idx : Int))).setCell ⟨g, 1, none⟩ (.int .u64 (e.trm : Int))).setCell ⟨g, 2, none⟩ (.int .u8 (e.kind : Int))).setCell ⟨g, 3, none⟩ (.int .u8 (e.slot : Int))).setCell ⟨g, 4, none⟩ (.int .u8 (e.tok.a0.toNat : Int))).setCell ⟨g, 5, none⟩ (.int .u8 (e.tok.a1.toNat : Int)))) g 6 _ _ (.int .u8 (e.tok.a2.toNat : Int)) s5
  have s7 := heap_setCell_same ((((((((W.setCell ⟨g, 0, none⟩ (.int .u64 (e.idx : Int))).setCell ⟨g, 1, none⟩ (.int .u64 (e.trm : Int))).setCell ⟨g, 2, none⟩ (.int .u8 (e.kind : Int))).setCell ⟨g, 3, none⟩ (.int .u8 (e.slot : Int))).setCell ⟨g, 4, none⟩ (.int .u8 (e.tok.a0.toNat : Int))).setCell ⟨g, 5, none⟩ (.int .u8 (e.tok.a1.toNat : Int))).setCell ⟨g, 6, none⟩ (.int .u8 (e.tok.a2.toNat : Int)))) g 7 _ _ (.int .u8 (e.tok.a3.toNat : Int)) s6
  have s8 := heap_setCell_same (((((((((W.setCell ⟨g, 0, none⟩ (.int .u64 (e.idx : Int))).setCell ⟨g, 1, none⟩ (.int .u64 (e.trm : Int))).setCell ⟨g, 2, none⟩ (.int .u8 (e.kind : Int))).setCell ⟨g, 3, none⟩ (.int .u8 (e.slot : Int))).setCell ⟨g, 4, none⟩ (.int .u8 (e.tok.a0.toNat : Int))).setCell ⟨g, 5, none⟩ (.int .u8 (e.tok.a1.toNat : Int))).setCell ⟨g, 6, none⟩ (.int .u8 (e.tok.a2.toNat : Int))).setCell ⟨g, 7, none⟩ (.int .u8 (e.tok.a3.toNat : Int)))) g 8 _ _ (.int .u8 (e.tok.a4.toNat : Int)) s7
  have s9 := heap_setCell_same ((((((((((W.setCell ⟨g, 0, none⟩ (.int .u64 (e.idx : Int))).setCell ⟨g, 1, none⟩ (.int .u64 (e.trm : Int))).setCell ⟨g, 2, none⟩ (.int .u8 (e.kind : Int))).setCell ⟨g, 3, none⟩ (.int .u8 (e.slot : Int))).setCell ⟨g, 4, none⟩ (.int .u8 (e.tok.a0.toNat : Int))).setCell ⟨g, 5, none⟩ (.int .u8 (e.tok.a1.toNat : Int))).setCell ⟨g, 6, none⟩ (.int .u8 (e.tok.a2.toNat : Int))).setCell ⟨g, 7, none⟩ (.int .u8 (e.tok.a3.toNat : Int))).setCell ⟨g, 8, none⟩ (.int .u8 (e.tok.a4.toNat : Int)))) g 9 _ _ (.int .u8 (e.tok.a5.toNat : Int)) s8
  have s10 := heap_setCell_same (((((((((((W.setCell ⟨g, 0, none⟩ (.int .u64 (e.idx : Int))).setCell ⟨g, 1, none⟩ (.int .u64 (e.trm : Int))).setCell ⟨g, 2, none⟩ (.int .u8 (e.kind : Int))).setCell ⟨g, 3, none⟩ (.int .u8 (e.slot : Int))).setCell ⟨g, 4, none⟩ (.int .u8 (e.tok.a0.toNat : Int))).setCell ⟨g, 5, none⟩ (.int .u8 (e.tok.a1.toNat : Int))).setCell ⟨g, 6, none⟩ (.int .u8 (e.tok.a2.toNat : Int))).setCell ⟨g, 7, none⟩ (.int .u8 (e.tok.a3.toNat : Int))).setCell ⟨g, 8, none⟩ (.int .u8 (e.tok.a4.toNat : Int))).setCell ⟨g, 9, none⟩ (.int .u8 (e.tok.a5.toNat : Int)))) g 10 _ _ (.int .u8 (e.tok.a6.toNat : Int)) s9
  have s11 := heap_setCell_same ((((((((((((W.setCell ⟨g, 0, none⟩ (.int .u64 (e.idx : Int))).setCell ⟨g, 1, none⟩ (.int .u64 (e.trm : Int))).setCell ⟨g, 2, none⟩ (.int .u8 (e.kind : Int))).setCell ⟨g, 3, none⟩ (.int .u8 (e.slot : Int))).setCell ⟨g, 4, none⟩ (.int .u8 (e.tok.a0.toNat : Int))).setCell ⟨g, 5, none⟩ (.int .u8 (e.tok.a1.toNat : Int))).setCell ⟨g, 6, none⟩ (.int .u8 (e.tok.a2.toNat : Int))).setCell ⟨g, 7, none⟩ (.int .u8 (e.tok.a3.toNat : Int))).setCell ⟨g, 8, none⟩ (.int .u8 (e.tok.a4.toNat : Int))).setCell ⟨g, 9, none⟩ (.int .u8 (e.tok.a5.toNat : Int))).setCell ⟨g, 10, none⟩ (.int .u8 (e.tok.a6.toNat : Int)))) g 11 _ _ (.int .u8 (e.tok.a7.toNat : Int)) s10
  have s12 := heap_setCell_same (((((((((((((W.setCell ⟨g, 0, none⟩ (.int .u64 (e.idx : Int))).setCell ⟨g, 1, none⟩ (.int .u64 (e.trm : Int))).setCell ⟨g, 2, none⟩ (.int .u8 (e.kind : Int))).setCell ⟨g, 3, none⟩ (.int .u8 (e.slot : Int))).setCell ⟨g, 4, none⟩ (.int .u8 (e.tok.a0.toNat : Int))).setCell ⟨g, 5, none⟩ (.int .u8 (e.tok.a1.toNat : Int))).setCell ⟨g, 6, none⟩ (.int .u8 (e.tok.a2.toNat : Int))).setCell ⟨g, 7, none⟩ (.int .u8 (e.tok.a3.toNat : Int))).setCell ⟨g, 8, none⟩ (.int .u8 (e.tok.a4.toNat : Int))).setCell ⟨g, 9, none⟩ (.int .u8 (e.tok.a5.toNat : Int))).setCell ⟨g, 10, none⟩ (.int .u8 (e.tok.a6.toNat : Int))).setCell ⟨g, 11, none⟩ (.int .u8 (e.tok.a7.toNat : Int)))) g 12 _ _ (.string e.body) s11
  rw [s12]
  simp [entC]
theorem entBelow {W w : World} {B g : Nat} {e : En.E} (h : Below B w W) (hg : B ≤ g) :
    Below B w ((((((((((((((W.setCell ⟨g, 0, none⟩ (.int .u64 (e.idx : Int))).setCell ⟨g, 1, none⟩ (.int .u64 (e.trm : Int))).setCell ⟨g, 2, none⟩ (.int .u8 (e.kind : Int))).setCell ⟨g, 3, none⟩ (.int .u8 (e.slot : Int))).setCell ⟨g, 4, none⟩ (.int .u8 (e.tok.a0.toNat : Int))).setCell ⟨g, 5, none⟩ (.int .u8 (e.tok.a1.toNat : Int))).setCell ⟨g, 6, none⟩ (.int .u8 (e.tok.a2.toNat : Int))).setCell ⟨g, 7, none⟩ (.int .u8 (e.tok.a3.toNat : Int))).setCell ⟨g, 8, none⟩ (.int .u8 (e.tok.a4.toNat : Int))).setCell ⟨g, 9, none⟩ (.int .u8 (e.tok.a5.toNat : Int))).setCell ⟨g, 10, none⟩ (.int .u8 (e.tok.a6.toNat : Int))).setCell ⟨g, 11, none⟩ (.int .u8 (e.tok.a7.toNat : Int))).setCell ⟨g, 12, none⟩ (.string e.body))) :=
  (((((((((((((h.setCell (p := ⟨g, 0, none⟩) hg _).setCell (p := ⟨g, 1, none⟩) hg _).setCell (p := ⟨g, 2, none⟩) hg _).setCell (p := ⟨g, 3, none⟩) hg _).setCell (p := ⟨g, 4, none⟩) hg _).setCell (p := ⟨g, 5, none⟩) hg _).setCell (p := ⟨g, 6, none⟩) hg _).setCell (p := ⟨g, 7, none⟩) hg _).setCell (p := ⟨g, 8, none⟩) hg _).setCell (p := ⟨g, 9, none⟩) hg _).setCell (p := ⟨g, 10, none⟩) hg _).setCell (p := ⟨g, 11, none⟩) hg _).setCell (p := ⟨g, 12, none⟩) hg _)
theorem stoodEnt : Tryz.prog.stoodInHeld 88 = false := by kernel_rfl
instance : DecidableEq En.E := fun x y => by
  obtain ⟨a, b, c, d, t, s⟩ := x
  obtain ⟨a', b', c', d', t', s'⟩ := y
  exact decidable_of_iff (a = a' ∧ b = b' ∧ c = c' ∧ d = d' ∧ t = t' ∧ s.data.toList = s'.data.toList) (by
    rw [En.E.mk.injEq]
    constructor
    · rintro ⟨h1, h2, h3, h4, h5, h6⟩; exact ⟨h1, h2, h3, h4, h5, ByteArray.ext (Array.toList_inj.1 h6)⟩
    · rintro ⟨h1, h2, h3, h4, h5, h6⟩; exact ⟨h1, h2, h3, h4, h5, by rw [h6]⟩)
theorem ent_eq (W : World) (x y : En.E) : (Op.equalIn 10000 88 (.agg (entC x)) (.agg (entC y))).run Tryz.prog W = .ok (decide (x = y)) W := by
  rw [run_equalIn_agg W 9999 88 _ _ (by unfold Program.fieldsOf; rw [Tryz.underlying88]) stoodEnt]
  unfold Program.fieldsOf
  rw [Tryz.underlying88]
  have ht : ∀ W, (Op.equalIn 9999 86 (.agg (tk8 x.tok)) (.agg (tk8 y.tok))).run Tryz.prog W = .ok (decide (x.tok = y.tok)) W := fun W => tok_eq 9997 W _ _
  unfold tk8 t8 at ht
  unfold entC
  simp only [Op.eqFields]
  simp [go_sem, ht, bytes_eq]
  cases x; cases y
  simp only [En.E.mk.injEq]
  repeat' split
  all_goals (simp_all <;> omega)
theorem ent_neq (x y : En.E) (W : World) : (binOp .neq 88 (.agg (entC x)) (.agg (entC y))).run Tryz.prog W = .ok (.bool (!decide (x = y))) W := by
  rw [run_neq_struct, ent_eq, Result.andThen_ok]
theorem ent_eql (x y : En.E) (W : World) : (binOp .eql 88 (.agg (entC x)) (.agg (entC y))).run Tryz.prog W = .ok (.bool (decide (x = y))) W := by
  rw [run_eql_struct, ent_eq, Result.andThen_ok]
end Go.Proofs.YtjhbpcecdhdnoaaGreatDoor
namespace Go.Proofs.YtjhbpcecdhdnoaaGreatDoor
open Go.RowKit
set_option maxRecDepth 100000 in
theorem nob_any (e : En.E) (w : World) : Calls Tryz.prog 225 #[.agg (entC e)] w (RetTr (En.nob e) w) := by
  have ht : ∀ W, (binOp .eql 86 (.agg (tk8 e.tok)) (.agg #[.int .u8 0, .int .u8 0, .int .u8 0, .int .u8 0, .int .u8 0, .int .u8 0, .int .u8 0, .int .u8 0])).run Tryz.prog W = .ok (.bool (decide (e.tok = Og.Tk.zero))) W := tok_eql e.tok Og.Tk.zero
  have hn : En.nob e = (e.slot == 0 && decide (e.tok = Og.Tk.zero)) := rfl
  obtain ⟨b, hb⟩ : ∃ b, b = decide (e.tok = Og.Tk.zero) := ⟨_, rfl⟩
  rw [← hb] at ht hn
  unfold tk8 t8 at ht
  have Hn := Lib.hid hn
  have F := entF e
  generalize entC e = X at F ⊢
  obtain ⟨hx, _, x0, x1, x2, x3, x4, x5, x6, x7, x8, x9, x10, x11, x12⟩ := F
  clear hn hb
  by_cases hs : e.slot = 0
  · have d1 : ((e.slot : Int) == 0) = true := by simp [hs]
    have E : Hid (En.nob e = b) := Lib.hid (by rw [Hn.out, hs]; rfl)
    clear hs
    go_enter Tryz.func225, Tryz.ntmps225
    go_wp2_with fail
    go_ret
    exact ⟨by rw [E.out]; rfl, bnew (Below.refl _ _) _⟩
  · have d1 : ((e.slot : Int) == 0) = false := by simp; omega
    have E : Hid (En.nob e = false) := Lib.hid (by rw [Hn.out]; simp [hs])
    clear hs
    go_enter Tryz.func225, Tryz.ntmps225
    go_wp2_with fail
    go_ret
    exact ⟨by rw [E.out]; rfl, bnew (Below.refl _ _) _⟩
set_option maxRecDepth 100000 in
theorem memb_any (s : ByteArray) (w : World) : Calls Tryz.prog 226 #[.string s] w (RetTr (En.mem s) w) := by
  by_cases h1 : s.size = 1
  · have hp : 0 < s.size := by omega
    have d1 : ((s.size : Int) == 1) = true := by simp; omega
    have hm : En.mem s = (decide (1 ≤ s[0].toNat) && decide (s[0].toNat ≤ 31)) := by
      obtain ⟨⟨l⟩⟩ := s
      match l, h1 with
      | [c], _ => rfl
    have Hm := Lib.hid hm
    clear hm h1
    by_cases g1 : 1 ≤ s[0].toNat
    · have e1 : decide (1 ≤ s[0].toNat) = true := by simpa using g1
      have e1' : decide ((1 : Int) ≤ (s[0].toNat : Int)) = true := by simp; omega
      have e1'' : ((1 : Int) ≤ (s[0].toNat : Int)) = True := by simp; omega
      by_cases g2 : s[0].toNat ≤ 31
      · have e2 : decide (s[0].toNat ≤ 31) = true := by simpa using g2
        have e2' : decide ((s[0].toNat : Int) ≤ 31) = true := by simp; omega
        have e2'' : ((s[0].toNat : Int) ≤ 31) = True := by simp; omega
        have E : Hid (En.mem s = true) := Lib.hid (by rw [Hm.out, e1, e2]; rfl)
        clear g1 g2 e1 e2
        go_enter Tryz.func226, Tryz.ntmps226
        go_wp2_with fail
        go_ret
        exact ⟨by rw [E.out]; first | rfl | (rw [← e2']; rfl), Below.refl _ _⟩
      · have e2 : decide (s[0].toNat ≤ 31) = false := by simpa using g2
        have e2' : decide ((s[0].toNat : Int) ≤ 31) = false := by simp; omega
        have e2'' : ((s[0].toNat : Int) ≤ 31) = False := by simp; omega
        have E : Hid (En.mem s = false) := Lib.hid (by rw [Hm.out, e1, e2]; rfl)
        clear g1 g2 e1 e2
        go_enter Tryz.func226, Tryz.ntmps226
        go_wp2_with fail
        go_ret
        exact ⟨by rw [E.out]; first | rfl | (rw [← e2']; rfl), Below.refl _ _⟩
    · have e1 : decide (1 ≤ s[0].toNat) = false := by simpa using g1
      have e1' : decide ((1 : Int) ≤ (s[0].toNat : Int)) = false := by simp; omega
      have e1'' : ((1 : Int) ≤ (s[0].toNat : Int)) = False := by simp; omega
      have E : Hid (En.mem s = false) := Lib.hid (by rw [Hm.out, e1]; rfl)
      clear g1 e1
      go_enter Tryz.func226, Tryz.ntmps226
      go_wp2_with fail
      go_ret
      exact ⟨by rw [E.out]; rfl, Below.refl _ _⟩
  · have d1 : ((s.size : Int) == 1) = false := by simp; omega
    have E : Hid (En.mem s = false) := Lib.hid (by
      unfold En.mem
      rw [Lib.size_eq] at h1
      split
      · rename_i c hc; rw [hc] at h1; exact absurd rfl h1
      · rfl)
    clear h1
    go_enter Tryz.func226, Tryz.ntmps226
    go_wp2_with fail
    go_ret
    exact ⟨by rw [E.out]; rfl, Below.refl _ _⟩
set_option maxRecDepth 100000 in
theorem hasB_any (k : Nat) (w : World) : Calls Tryz.prog 240 #[.int .u8 (k : Int)] w fun e w' => e = .returned (.bool (decide (En.hasB k))) ∧ w = w' := by
  by_cases k2 : k = 2
  · subst k2
    go_enter Tryz.func240, Tryz.ntmps240
    go_wp2_with fail
    go_ret
    exact ⟨rfl, rfl⟩
  have d2 : ((k : Int) == 2) = false := by simp; omega
  by_cases k3 : k = 3
  · subst k3
    go_enter Tryz.func240, Tryz.ntmps240
    go_wp2_with fail
    go_ret
    exact ⟨rfl, rfl⟩
  have d3 : ((k : Int) == 3) = false := by simp; omega
  by_cases k4 : k = 4
  · subst k4
    go_enter Tryz.func240, Tryz.ntmps240
    go_wp2_with fail
    go_ret
    exact ⟨rfl, rfl⟩
  have d4 : ((k : Int) == 4) = false := by simp; omega
  have E : Hid (decide (En.hasB k) = false) := Lib.hid (by rw [decide_eq_false_iff_not]; unfold En.hasB; omega)
  clear k2 k3 k4
  go_enter Tryz.func240, Tryz.ntmps240
  go_wp2_with fail
  go_ret
  exact ⟨by rw [E.out]; rfl, rfl⟩
end Go.Proofs.YtjhbpcecdhdnoaaGreatDoor
namespace Go.Proofs.YtjhbpcecdhdnoaaGreatDoor
open Go.RowKit
set_option maxRecDepth 100000 in
set_option maxHeartbeats 4000000 in
theorem right_any (e : En.E) (w : World) : Calls Tryz.prog 181 #[.agg (entC e)] w (RetTr (En.may e) w) := by

  have HN2 := Lib.hid (fun W => nob_any e W)
  unfold RetTr entC at HN2
  have HM := Lib.hid (fun W => memb_any e.body W)
  have hbe := body_empty e.body
  have hmay : En.may e = (decide (1 ≤ e.idx) && (decide (1 ≤ e.trm) && (if e.kind = 1 ∨ e.kind = 5 then En.nob e && e.body.size == 0 else if e.kind = 2 then En.nob e && En.mem e.body else if e.kind = 3 then decide (e.slot ≤ 3) else if e.kind = 4 then En.nob e else false))) := rfl
  obtain ⟨nb, hnb⟩ : ∃ nb, nb = En.nob e := ⟨_, rfl⟩
  obtain ⟨mb, hmb⟩ : ∃ mb, mb = En.mem e.body := ⟨_, rfl⟩
  obtain ⟨eb, heb⟩ : ∃ eb, eb = (e.body.size == 0) := ⟨_, rfl⟩
  rw [← hnb] at HN2 hmay
  rw [← hmb] at HM hmay
  rw [← heb] at hbe hmay
  have Hmay := Lib.hid hmay
  have F := entF e
  generalize entC e = X at F ⊢
  unfold RetTr at HM ⊢
  obtain ⟨hx, _, x0, x1, x2, x3, x4, x5, x6, x7, x8, x9, x10, x11, x12⟩ := F
  have Q12 : Hid ((w.alloc (.cells X 88)).cell? ⟨w.heap.size, 12, none⟩ = some (.string e.body)) := Lib.hid (by
    have := cell_of_row (w.alloc (.cells X 88)) w.heap.size 12 X _ _ (heap_alloc_new w _)
    rwa [Array.getElem?_eq_getElem (by omega), x12] at this)
  clear hmay hnb hmb heb
  by_cases i1 : 1 ≤ e.idx
  · have a1 : decide ((e.idx : Int) < 1) = false := by simp; omega
    have a1' : ((e.idx : Int) < 1) = False := by simp; omega
    by_cases i2 : 1 ≤ e.trm
    · have a2 : decide ((e.trm : Int) < 1) = false := by simp; omega
      have a2' : ((e.trm : Int) < 1) = False := by simp; omega
      have Hm2 : Hid (En.may e = (if e.kind = 1 ∨ e.kind = 5 then nb && eb else if e.kind = 2 then nb && mb else if e.kind = 3 then decide (e.slot ≤ 3) else if e.kind = 4 then nb else false)) := Lib.hid (by rw [Hmay.out, decide_eq_true i1, decide_eq_true i2]; rfl)
      clear Hmay i1 i2
      by_cases k1 : e.kind = 1
      · skip
        have q1 : ((e.kind : Int) == 1) = true := by simp; omega
        cases nb
        · have E : Hid (En.may e = false) := Lib.hid (by rw [Hm2.out, if_pos (by omega)]; rfl)
          clear Hm2 k1
          go_enter Tryz.func181, Tryz.ntmps181
          go_wp2_with (first | (go_at_call 225; refine (HN2.out _).mono ?_; rintro r w1 ⟨rfl, hb1⟩; have c12 := (hb1.cell (p := ⟨w.heap.size, 12, none⟩) (by simp)).trans Q12.out))
          go_ret
          exact ⟨by rw [E.out]; rfl, bnext (bnew (Below.refl _ _) _) hb1⟩
        · have E : Hid (En.may e = eb) := Lib.hid (by rw [Hm2.out, if_pos (by omega)]; rfl)
          clear Hm2 k1
          go_enter Tryz.func181, Tryz.ntmps181
          go_wp2_with (first | (go_at_call 225; refine (HN2.out _).mono ?_; rintro r w1 ⟨rfl, hb1⟩; have c12 := (hb1.cell (p := ⟨w.heap.size, 12, none⟩) (by simp)).trans Q12.out))
          go_ret
          exact ⟨by rw [E.out]; rfl, bnext (bnew (Below.refl _ _) _) hb1⟩
      by_cases k5 : e.kind = 5
      · skip
        have q1 : ((e.kind : Int) == 1) = false := by simp; omega
        have q5 : ((e.kind : Int) == 5) = true := by simp; omega
        cases nb
        · have E : Hid (En.may e = false) := Lib.hid (by rw [Hm2.out, if_pos (by omega)]; rfl)
          clear Hm2 k5
          go_enter Tryz.func181, Tryz.ntmps181
          go_wp2_with (first | (go_at_call 225; refine (HN2.out _).mono ?_; rintro r w1 ⟨rfl, hb1⟩; have c12 := (hb1.cell (p := ⟨w.heap.size, 12, none⟩) (by simp)).trans Q12.out))
          go_ret
          exact ⟨by rw [E.out]; rfl, bnext (bnew (Below.refl _ _) _) hb1⟩
        · have E : Hid (En.may e = eb) := Lib.hid (by rw [Hm2.out, if_pos (by omega)]; rfl)
          clear Hm2 k5
          go_enter Tryz.func181, Tryz.ntmps181
          go_wp2_with (first | (go_at_call 225; refine (HN2.out _).mono ?_; rintro r w1 ⟨rfl, hb1⟩; have c12 := (hb1.cell (p := ⟨w.heap.size, 12, none⟩) (by simp)).trans Q12.out))
          go_ret
          exact ⟨by rw [E.out]; rfl, bnext (bnew (Below.refl _ _) _) hb1⟩
      by_cases k2 : e.kind = 2
      · skip
        have q1 : ((e.kind : Int) == 1) = false := by simp; omega
        have q5 : ((e.kind : Int) == 5) = false := by simp; omega
        have q2 : ((e.kind : Int) == 2) = true := by simp; omega
        cases nb
        · have E : Hid (En.may e = false) := Lib.hid (by rw [Hm2.out, if_neg (by omega), if_pos k2]; rfl)
          clear Hm2 k1 k5 k2
          go_enter Tryz.func181, Tryz.ntmps181
          go_wp2_with (first | (go_at_call 225; refine (HN2.out _).mono ?_; rintro r w1 ⟨rfl, hb1⟩; have c12 := (hb1.cell (p := ⟨w.heap.size, 12, none⟩) (by simp)).trans Q12.out))
          go_ret
          exact ⟨by rw [E.out]; rfl, bnext (bnew (Below.refl _ _) _) hb1⟩
        · have E : Hid (En.may e = mb) := Lib.hid (by rw [Hm2.out, if_neg (by omega), if_pos k2]; rfl)
          clear Hm2 k1 k5 k2
          go_enter Tryz.func181, Tryz.ntmps181
          go_wp2_with (first | (go_at_call 225; refine (HN2.out _).mono ?_; rintro r w1 ⟨rfl, hb1⟩; have c12 := (hb1.cell (p := ⟨w.heap.size, 12, none⟩) (by simp)).trans Q12.out) | (go_at_call 226; refine (HM.out _).mono ?_; rintro r w2 ⟨rfl, hb2⟩))
          go_ret
          exact ⟨by rw [E.out]; rfl, bnext (bnext (bnew (Below.refl _ _) _) hb1) hb2⟩
      by_cases k3 : e.kind = 3
      · skip
        have q1 : ((e.kind : Int) == 1) = false := by simp; omega
        have q5 : ((e.kind : Int) == 5) = false := by simp; omega
        have q2 : ((e.kind : Int) == 2) = false := by simp; omega
        have q3 : ((e.kind : Int) == 3) = true := by simp; omega
        by_cases g : e.slot ≤ 3
        · have E : Hid (En.may e = true) := Lib.hid (by rw [Hm2.out, if_neg (by omega), if_neg k2, if_pos k3]; simpa using g)
          have s1 : decide (e.slot < 4) = true := by simp; omega
          have s2 : decide ((e.slot : Int) < 4) = true := by simp; omega
          have s3 : ((e.slot : Int) < 4) = True := by simp; omega
          clear Hm2 k1 k5 k2 k3 g
          go_enter Tryz.func181, Tryz.ntmps181
          go_wp2_with (fail)
          go_ret
          exact ⟨by rw [E.out]; rfl, bnew (Below.refl _ _) _⟩
        · have E : Hid (En.may e = false) := Lib.hid (by rw [Hm2.out, if_neg (by omega), if_neg k2, if_pos k3]; simpa using g)
          have s1 : decide (e.slot < 4) = false := by simp; omega
          have s2 : decide ((e.slot : Int) < 4) = false := by simp; omega
          have s3 : ((e.slot : Int) < 4) = False := by simp; omega
          clear Hm2 k1 k5 k2 k3 g
          go_enter Tryz.func181, Tryz.ntmps181
          go_wp2_with (fail)
          go_ret
          exact ⟨by rw [E.out]; rfl, bnew (Below.refl _ _) _⟩
      by_cases k4 : e.kind = 4
      · skip
        have q1 : ((e.kind : Int) == 1) = false := by simp; omega
        have q5 : ((e.kind : Int) == 5) = false := by simp; omega
        have q2 : ((e.kind : Int) == 2) = false := by simp; omega
        have q3 : ((e.kind : Int) == 3) = false := by simp; omega
        have q4 : ((e.kind : Int) == 4) = true := by simp; omega
        have E : Hid (En.may e = nb) := Lib.hid (by rw [Hm2.out, if_neg (by omega), if_neg k2, if_neg k3, if_pos k4])
        clear Hm2 k1 k5 k2 k3 k4
        go_enter Tryz.func181, Tryz.ntmps181
        go_wp2_with (first | (go_at_call 225; refine (HN2.out _).mono ?_; rintro r w1 ⟨rfl, hb1⟩; have c12 := (hb1.cell (p := ⟨w.heap.size, 12, none⟩) (by simp)).trans Q12.out))
        go_ret
        exact ⟨by rw [E.out]; rfl, bnext (bnew (Below.refl _ _) _) hb1⟩
      have q1 : ((e.kind : Int) == 1) = false := by simp; omega
      have q5 : ((e.kind : Int) == 5) = false := by simp; omega
      have q2 : ((e.kind : Int) == 2) = false := by simp; omega
      have q3 : ((e.kind : Int) == 3) = false := by simp; omega
      have q4 : ((e.kind : Int) == 4) = false := by simp; omega
      have E : Hid (En.may e = false) := Lib.hid (by rw [Hm2.out, if_neg (by omega), if_neg k2, if_neg k3, if_neg k4])
      clear Hm2 k1 k5 k2 k3 k4
      go_enter Tryz.func181, Tryz.ntmps181
      go_wp2_with (fail)
      go_ret
      exact ⟨by rw [E.out]; rfl, bnew (Below.refl _ _) _⟩
    · have a2 : decide ((e.trm : Int) < 1) = true := by simp; omega
      have a2' : ((e.trm : Int) < 1) = True := by simp; omega
      have E : Hid (En.may e = false) := Lib.hid (by rw [Hmay.out, decide_eq_false i2, Bool.false_and, Bool.and_false])
      clear Hmay i1 i2
      go_enter Tryz.func181, Tryz.ntmps181
      go_wp2_with (fail)
      go_ret
      exact ⟨by rw [E.out]; rfl, bnew (Below.refl _ _) _⟩
  · have a1 : decide ((e.idx : Int) < 1) = true := by simp; omega
    have a1' : ((e.idx : Int) < 1) = True := by simp; omega
    have E : Hid (En.may e = false) := Lib.hid (by rw [Hmay.out, decide_eq_false i1, Bool.false_and])
    clear Hmay i1
    go_enter Tryz.func181, Tryz.ntmps181
    go_wp2_with (fail)
    go_ret
    exact ⟨by rw [E.out]; rfl, bnew (Below.refl _ _) _⟩
end Go.Proofs.YtjhbpcecdhdnoaaGreatDoor
