/-
  Words for CmdKnown's walk: its literals.
  CmdKnown walked: its words. WRITTEN BY wip/tools/gen_lwknown.py.
-/
import Derived.Test.YtpdahbfjbgcmgaaSLwBackH
import Derived.Test.YtpdahbfjbgcmgaaSOpen
import Derived.Test.YtpdahbfjbgcmgaaSOpM
import Derived.Laws.MakeOwn
set_option linter.unusedSimpArgs false
set_option linter.unusedVariables false
namespace Go.Proofs.Ytpdahbfjbgcmgaa
open Go.RowKit
set_option linter.unusedVariables false
theorem top_p5 {n : Nat} (h : n ≤ 1000) : n < Nm.top := by unfold Nm.top; omega
def kbatch : Cm.Cmd := ⟨5, 0, 0, Cm.e0, Cm.e0, Cm.e0, Cm.e0, Cm.e0, 0, 0, 0, [⟨2, bk, bv⟩, ⟨3, bk, Cm.e0⟩]⟩
theorem kb_write : Cm.write kbatch = [5, 0, 0, 2, 2, 1, 107, 1, 118, 3, 1, 107] := by decide +kernel
/-- A command of small numbers and texts. -/
def smallC (c : Cm.Cmd) : Bool := decide (c.op < 256) && decide (c.ses ≤ 1000) && decide (c.seq ≤ 1000) && decide (c.lim < 256) && decide (c.lease ≤ 1000) && decide (c.ttl ≤ 1000) && decide (c.key.size ≤ 1000) && decide (c.val.size ≤ 1000) && decide (c.exp.size ≤ 1000) && decide (c.frm.size ≤ 1000) && decide (c.tto.size ≤ 1000) && decide (c.parts.length ≤ 100) && c.parts.all fun p => decide (p.op < 256) && decide (p.key.size ≤ 1000) && decide (p.val.size ≤ 1000)
theorem smallC_fits {c : Cm.Cmd} (h : smallC c = true) : Cm.Fits c ∧ Short c := by
  unfold smallC at h
  simp only [Bool.and_eq_true, decide_eq_true_eq, List.all_eq_true] at h
  obtain ⟨⟨⟨⟨⟨⟨⟨⟨⟨⟨⟨⟨h1, h2⟩, h3⟩, h4⟩, h5⟩, h6⟩, h7⟩, h8⟩, h9⟩, h10⟩, h11⟩, h12⟩, h13⟩ := h
  refine ⟨⟨h1, top_p5 h2, top_p5 h3, h4, top_p5 h5, top_p5 h6, fun p hp => (h13 p hp).1.1⟩, ⟨by omega, by omega, by omega, by omega, by omega, by omega, fun p hp => ?_⟩⟩
  obtain ⟨⟨a, b⟩, c⟩ := h13 p hp
  exact ⟨a, by omega, by omega⟩
theorem kbW (A : Option Addr) (cap : Nat) (W : World) (h : Lies W A (pc kbatch.parts)) : Calls Try.prog 16 #[.agg #[.int .u8 5, .int .u64 0, .int .u64 0, .string ⟨#[]⟩, .string ⟨#[]⟩, .string ⟨#[]⟩, .string ⟨#[]⟩, .string ⟨#[]⟩, .int .u8 0, .int .u64 0, .int .u64 0, .slice A 2 cap]] W fun e w' => e = .returned (.string ⟨#[5, 0, 0, 2, 2, 1, 107, 1, 118, 3, 1, 107]⟩) ∧ Below W.heap.size W w' := by
  have hk := smallC_fits (c := kbatch) (by decide +kernel)
  have := cmdWrite_any kbatch hk.1 hk.2 A cap W h
  unfold RetS at this
  rw [kb_write] at this
  exact this
def zpart : Cm.Part := ⟨0, Cm.e0, Cm.e0⟩
def parts5 : List Cm.Part := [zpart, zpart, zpart, zpart, zpart]
def parts1 : List Cm.Part := [⟨3, Cm.e0, bv⟩]
def zc (op : Nat) : Cm.Cmd := ⟨op, 0, 0, Cm.e0, Cm.e0, Cm.e0, Cm.e0, Cm.e0, 0, 0, 0, []⟩
def cB5 : Cm.Cmd := { zc 5 with parts := parts5 }
def cB1 : Cm.Cmd := { zc 5 with parts := parts1 }
/-- The commands that may not be: with where their parts lie. -/
def badC (gA gB : Nat) : List (Cm.Cmd × Option Addr × Nat) :=
  [(zc 0, none, 0), (zc 12, none, 0), ({ zc 8 with val := bv }, none, 0), (zc 5, none, 0), (cB5, some ⟨gA, 0, none⟩, 5), (cB1, some ⟨gB, 0, none⟩, 1), ({ zc 2 with ttl := 1 }, none, 0), ({ zc 11 with lim := 1 }, none, 0)]
theorem badC_ok (gA gB : Nat) (W : World) (hA : Lies W (some ⟨gA, 0, none⟩) (pc parts5)) (hB : Lies W (some ⟨gB, 0, none⟩) (pc parts1)) : ∀ x ∈ badC gA gB, Cm.may x.1 = false ∧ (Cm.Fits x.1 ∧ Short x.1) ∧ Lies W x.2.1 (pc x.1.parts) := by
  intro x hx
  simp only [badC, List.mem_cons, List.not_mem_nil, or_false] at hx
  rcases hx with rfl | rfl | rfl | rfl | rfl | rfl | rfl | rfl
  · exact ⟨by decide +kernel, smallC_fits (by decide +kernel), .inl rfl⟩
  · exact ⟨by decide +kernel, smallC_fits (by decide +kernel), .inl rfl⟩
  · exact ⟨by decide +kernel, smallC_fits (by decide +kernel), .inl rfl⟩
  · exact ⟨by decide +kernel, smallC_fits (by decide +kernel), .inl rfl⟩
  · exact ⟨(by decide +kernel : Cm.may cB5 = false), smallC_fits (by decide +kernel : smallC cB5 = true), hA⟩
  · exact ⟨(by decide +kernel : Cm.may cB1 = false), smallC_fits (by decide +kernel : smallC cB1 = true), hB⟩
  · exact ⟨by decide +kernel, smallC_fits (by decide +kernel), .inl rfl⟩
  · exact ⟨by decide +kernel, smallC_fits (by decide +kernel), .inl rfl⟩
/-- Commands as cells. -/
def cc (l : List (Cm.Cmd × Option Addr × Nat)) : List Value := (l.map fun x => (cmdC x.1 x.2.1 x.2.2).toList).flatten
theorem cc_at : ∀ (es : List (Cm.Cmd × Option Addr × Nat)) (i : Nat) (h : i < es.length) (j : Nat), j < 12 → (cc es)[i * 12 + j]? = (cmdC es[i].1 es[i].2.1 es[i].2.2)[j]?
  | e :: es, 0, _, j, hj => by
    have h0 : (cmdC e.1 e.2.1 e.2.2).toList.length = 12 := rfl
    show ((cmdC e.1 e.2.1 e.2.2).toList ++ cc es)[0 * 12 + j]? = _
    rw [List.getElem?_append_left (by omega), Nat.zero_mul, Nat.zero_add, Array.getElem?_toList]
    rfl
  | e :: es, i + 1, h, j, hj => by
    have h0 : (cmdC e.1 e.2.1 e.2.2).toList.length = 12 := rfl
    have := cc_at es i (by simpa using h) j hj
    show ((cmdC e.1 e.2.1 e.2.2).toList ++ cc es)[(i + 1) * 12 + j]? = _
    rw [List.getElem?_append_right (by omega), h0, show (i + 1) * 12 + j - 12 = i * 12 + j by omega, this]
    rfl
def zo (op : Nat) : Og.Oper := ⟨op, 0, Og.Tk.zero, 0, 0, 0, 0, 0, 0⟩
/-- The operator's commands that may not be. -/
def badO : List Og.Oper := [zo 0, zo 8, { zo 5 with node := 6 }, zo 5, { zo 1 with slot := 4 }, { zo 1 with keys := -1 }, { zo 1 with burst := 2147483648 }, zo 2, { zo 4 with role := 1 }]
def smallO (o : Og.Oper) : Bool := decide (o.op < 256) && decide (o.slot < 256) && decide (o.role < 256) && decide (o.node < 256) && decide (-10 ≤ o.keys) && decide (o.keys ≤ 2147483648) && decide (-10 ≤ o.bytes) && decide (o.bytes ≤ 2147483648) && decide (-10 ≤ o.rate) && decide (o.rate ≤ 2147483648) && decide (-10 ≤ o.burst) && decide (o.burst ≤ 2147483648)
theorem smallO_fits {o : Og.Oper} (h : smallO o = true) : Og.Fits o := by
  unfold smallO at h
  simp only [Bool.and_eq_true, decide_eq_true_eq] at h
  obtain ⟨⟨⟨⟨⟨⟨⟨⟨⟨⟨⟨h1, h2⟩, h3⟩, h4⟩, h5⟩, h6⟩, h7⟩, h8⟩, h9⟩, h10⟩, h11⟩, h12⟩ := h
  exact ⟨h1, h2, h3, h4, by omega, by omega, by omega, by omega⟩
theorem badO_ok : ∀ o ∈ badO, Og.Fits o ∧ ¬ Og.may o := by
  have h : badO.all (fun o => smallO o && !decide (Og.may o)) = true := by decide +kernel
  intro o ho
  have := List.all_eq_true.1 h o ho
  simp only [Bool.and_eq_true, Bool.not_eq_true', decide_eq_false_iff_not] at this
  exact ⟨smallO_fits this.1, this.2⟩
def oc (l : List Og.Oper) : List Value := (l.map fun x => (operC x).toList).flatten
theorem oc_at : ∀ (es : List Og.Oper) (i : Nat) (h : i < es.length) (j : Nat), j < 16 → (oc es)[i * 16 + j]? = (operC es[i])[j]?
  | e :: es, 0, _, j, hj => by
    have h0 : (operC e).toList.length = 16 := rfl
    show ((operC e).toList ++ oc es)[0 * 16 + j]? = _
    rw [List.getElem?_append_left (by omega), Nat.zero_mul, Nat.zero_add, Array.getElem?_toList]
    rfl
  | e :: es, i + 1, h, j, hj => by
    have h0 : (operC e).toList.length = 16 := rfl
    have := oc_at es i (by simpa using h) j hj
    show ((operC e).toList ++ oc es)[(i + 1) * 16 + j]? = _
    rw [List.getElem?_append_right (by omega), h0, show (i + 1) * 16 + j - 16 = i * 16 + j by omega, this]
    rfl
end Go.Proofs.Ytpdahbfjbgcmgaa
namespace Go.Proofs.Ytpdahbfjbgcmgaa
open Go.RowKit
set_option linter.unusedVariables false
/-- What stands ahead of the first loop. -/
structure KnS (w W : World) (gA gB g : Nat) : Prop where
  b : Below w.heap.size w W
  lt : g < W.heap.size
  cells : ∀ i j u, i < 8 → j < 12 → (cc (badC gA gB))[i * 12 + j]? = some u → W.cell? ⟨g, i * 12 + j, none⟩ = some u
  lA : Lies W (some ⟨gA, 0, none⟩) (pc parts5)
  lB : Lies W (some ⟨gB, 0, none⟩) (pc parts1)
set_option maxRecDepth 100000 in
theorem litC (gA gB : Nat) : cc (badC gA gB) = [.int .u8 0, .int .u64 0, .int .u64 0, .string ⟨#[]⟩, .string ⟨#[]⟩, .string ⟨#[]⟩, .string ⟨#[]⟩, .string ⟨#[]⟩, .int .u8 0, .int .u64 0, .int .u64 0, .slice none 0 0, .int .u8 12, .int .u64 0, .int .u64 0, .string ⟨#[]⟩, .string ⟨#[]⟩, .string ⟨#[]⟩, .string ⟨#[]⟩, .string ⟨#[]⟩, .int .u8 0, .int .u64 0, .int .u64 0, .slice none 0 0, .int .u8 8, .int .u64 0, .int .u64 0, .string ⟨#[]⟩, .string ⟨#[118]⟩, .string ⟨#[]⟩, .string ⟨#[]⟩, .string ⟨#[]⟩, .int .u8 0, .int .u64 0, .int .u64 0, .slice none 0 0, .int .u8 5, .int .u64 0, .int .u64 0, .string ⟨#[]⟩, .string ⟨#[]⟩, .string ⟨#[]⟩, .string ⟨#[]⟩, .string ⟨#[]⟩, .int .u8 0, .int .u64 0, .int .u64 0, .slice none 0 0, .int .u8 5, .int .u64 0, .int .u64 0, .string ⟨#[]⟩, .string ⟨#[]⟩, .string ⟨#[]⟩, .string ⟨#[]⟩, .string ⟨#[]⟩, .int .u8 0, .int .u64 0, .int .u64 0, .slice (some ⟨gA, 0, none⟩) 5 5, .int .u8 5, .int .u64 0, .int .u64 0, .string ⟨#[]⟩, .string ⟨#[]⟩, .string ⟨#[]⟩, .string ⟨#[]⟩, .string ⟨#[]⟩, .int .u8 0, .int .u64 0, .int .u64 0, .slice (some ⟨gB, 0, none⟩) 1 1, .int .u8 2, .int .u64 0, .int .u64 0, .string ⟨#[]⟩, .string ⟨#[]⟩, .string ⟨#[]⟩, .string ⟨#[]⟩, .string ⟨#[]⟩, .int .u8 0, .int .u64 0, .int .u64 1, .slice none 0 0, .int .u8 11, .int .u64 0, .int .u64 0, .string ⟨#[]⟩, .string ⟨#[]⟩, .string ⟨#[]⟩, .string ⟨#[]⟩, .string ⟨#[]⟩, .int .u8 1, .int .u64 0, .int .u64 0, .slice none 0 0] := rfl
set_option maxRecDepth 100000 in
theorem litO : oc badO = [.int .u8 0, .int .u8 0, .int .u8 0, .int .u8 0, .int .u8 0, .int .u8 0, .int .u8 0, .int .u8 0, .int .u8 0, .int .u8 0, .int .u8 0, .int .i64 0, .int .i64 0, .int .i64 0, .int .i64 0, .int .u8 0, .int .u8 8, .int .u8 0, .int .u8 0, .int .u8 0, .int .u8 0, .int .u8 0, .int .u8 0, .int .u8 0, .int .u8 0, .int .u8 0, .int .u8 0, .int .i64 0, .int .i64 0, .int .i64 0, .int .i64 0, .int .u8 0, .int .u8 5, .int .u8 0, .int .u8 0, .int .u8 0, .int .u8 0, .int .u8 0, .int .u8 0, .int .u8 0, .int .u8 0, .int .u8 0, .int .u8 0, .int .i64 0, .int .i64 0, .int .i64 0, .int .i64 0, .int .u8 6, .int .u8 5, .int .u8 0, .int .u8 0, .int .u8 0, .int .u8 0, .int .u8 0, .int .u8 0, .int .u8 0, .int .u8 0, .int .u8 0, .int .u8 0, .int .i64 0, .int .i64 0, .int .i64 0, .int .i64 0, .int .u8 0, .int .u8 1, .int .u8 4, .int .u8 0, .int .u8 0, .int .u8 0, .int .u8 0, .int .u8 0, .int .u8 0, .int .u8 0, .int .u8 0, .int .u8 0, .int .i64 0, .int .i64 0, .int .i64 0, .int .i64 0, .int .u8 0, .int .u8 1, .int .u8 0, .int .u8 0, .int .u8 0, .int .u8 0, .int .u8 0, .int .u8 0, .int .u8 0, .int .u8 0, .int .u8 0, .int .u8 0, .int .i64 (-1), .int .i64 0, .int .i64 0, .int .i64 0, .int .u8 0, .int .u8 1, .int .u8 0, .int .u8 0, .int .u8 0, .int .u8 0, .int .u8 0, .int .u8 0, .int .u8 0, .int .u8 0, .int .u8 0, .int .u8 0, .int .i64 0, .int .i64 0, .int .i64 0, .int .i64 2147483648, .int .u8 0, .int .u8 2, .int .u8 0, .int .u8 0, .int .u8 0, .int .u8 0, .int .u8 0, .int .u8 0, .int .u8 0, .int .u8 0, .int .u8 0, .int .u8 0, .int .i64 0, .int .i64 0, .int .i64 0, .int .i64 0, .int .u8 0, .int .u8 4, .int .u8 0, .int .u8 0, .int .u8 0, .int .u8 0, .int .u8 0, .int .u8 0, .int .u8 0, .int .u8 0, .int .u8 0, .int .u8 1, .int .i64 0, .int .i64 0, .int .i64 0, .int .i64 0, .int .u8 0] := rfl
set_option maxRecDepth 100000 in
theorem knC (W : World) (gA gB : Nat) (i j : Nat) (u : Value) (hu : (cc (badC gA gB))[i * 12 + j]? = some u) : (W.alloc (.cells #[.int .u8 0, .int .u64 0, .int .u64 0, .string ⟨#[]⟩, .string ⟨#[]⟩, .string ⟨#[]⟩, .string ⟨#[]⟩, .string ⟨#[]⟩, .int .u8 0, .int .u64 0, .int .u64 0, .slice none 0 0, .int .u8 12, .int .u64 0, .int .u64 0, .string ⟨#[]⟩, .string ⟨#[]⟩, .string ⟨#[]⟩, .string ⟨#[]⟩, .string ⟨#[]⟩, .int .u8 0, .int .u64 0, .int .u64 0, .slice none 0 0, .int .u8 8, .int .u64 0, .int .u64 0, .string ⟨#[]⟩, .string ⟨#[118]⟩, .string ⟨#[]⟩, .string ⟨#[]⟩, .string ⟨#[]⟩, .int .u8 0, .int .u64 0, .int .u64 0, .slice none 0 0, .int .u8 5, .int .u64 0, .int .u64 0, .string ⟨#[]⟩, .string ⟨#[]⟩, .string ⟨#[]⟩, .string ⟨#[]⟩, .string ⟨#[]⟩, .int .u8 0, .int .u64 0, .int .u64 0, .slice none 0 0, .int .u8 5, .int .u64 0, .int .u64 0, .string ⟨#[]⟩, .string ⟨#[]⟩, .string ⟨#[]⟩, .string ⟨#[]⟩, .string ⟨#[]⟩, .int .u8 0, .int .u64 0, .int .u64 0, .slice (some ⟨gA, 0, none⟩) 5 5, .int .u8 5, .int .u64 0, .int .u64 0, .string ⟨#[]⟩, .string ⟨#[]⟩, .string ⟨#[]⟩, .string ⟨#[]⟩, .string ⟨#[]⟩, .int .u8 0, .int .u64 0, .int .u64 0, .slice (some ⟨gB, 0, none⟩) 1 1, .int .u8 2, .int .u64 0, .int .u64 0, .string ⟨#[]⟩, .string ⟨#[]⟩, .string ⟨#[]⟩, .string ⟨#[]⟩, .string ⟨#[]⟩, .int .u8 0, .int .u64 0, .int .u64 1, .slice none 0 0, .int .u8 11, .int .u64 0, .int .u64 0, .string ⟨#[]⟩, .string ⟨#[]⟩, .string ⟨#[]⟩, .string ⟨#[]⟩, .string ⟨#[]⟩, .int .u8 1, .int .u64 0, .int .u64 0, .slice none 0 0] 27)).cell? ⟨W.heap.size, i * 12 + j, none⟩ = some u := by
  rw [cell_of_row _ W.heap.size (i * 12 + j) _ _ _ (heap_alloc_new W _), ← Array.getElem?_toList]
  rw [litC] at hu
  exact hu
set_option maxRecDepth 100000 in
theorem knO (W : World) (i j : Nat) (u : Value) (hu : (oc badO)[i * 16 + j]? = some u) : (W.alloc (.cells #[.int .u8 0, .int .u8 0, .int .u8 0, .int .u8 0, .int .u8 0, .int .u8 0, .int .u8 0, .int .u8 0, .int .u8 0, .int .u8 0, .int .u8 0, .int .i64 0, .int .i64 0, .int .i64 0, .int .i64 0, .int .u8 0, .int .u8 8, .int .u8 0, .int .u8 0, .int .u8 0, .int .u8 0, .int .u8 0, .int .u8 0, .int .u8 0, .int .u8 0, .int .u8 0, .int .u8 0, .int .i64 0, .int .i64 0, .int .i64 0, .int .i64 0, .int .u8 0, .int .u8 5, .int .u8 0, .int .u8 0, .int .u8 0, .int .u8 0, .int .u8 0, .int .u8 0, .int .u8 0, .int .u8 0, .int .u8 0, .int .u8 0, .int .i64 0, .int .i64 0, .int .i64 0, .int .i64 0, .int .u8 6, .int .u8 5, .int .u8 0, .int .u8 0, .int .u8 0, .int .u8 0, .int .u8 0, .int .u8 0, .int .u8 0, .int .u8 0, .int .u8 0, .int .u8 0, .int .i64 0, .int .i64 0, .int .i64 0, .int .i64 0, .int .u8 0, .int .u8 1, .int .u8 4, .int .u8 0, .int .u8 0, .int .u8 0, .int .u8 0, .int .u8 0, .int .u8 0, .int .u8 0, .int .u8 0, .int .u8 0, .int .i64 0, .int .i64 0, .int .i64 0, .int .i64 0, .int .u8 0, .int .u8 1, .int .u8 0, .int .u8 0, .int .u8 0, .int .u8 0, .int .u8 0, .int .u8 0, .int .u8 0, .int .u8 0, .int .u8 0, .int .u8 0, .int .i64 (-1), .int .i64 0, .int .i64 0, .int .i64 0, .int .u8 0, .int .u8 1, .int .u8 0, .int .u8 0, .int .u8 0, .int .u8 0, .int .u8 0, .int .u8 0, .int .u8 0, .int .u8 0, .int .u8 0, .int .u8 0, .int .i64 0, .int .i64 0, .int .i64 0, .int .i64 2147483648, .int .u8 0, .int .u8 2, .int .u8 0, .int .u8 0, .int .u8 0, .int .u8 0, .int .u8 0, .int .u8 0, .int .u8 0, .int .u8 0, .int .u8 0, .int .u8 0, .int .i64 0, .int .i64 0, .int .i64 0, .int .i64 0, .int .u8 0, .int .u8 4, .int .u8 0, .int .u8 0, .int .u8 0, .int .u8 0, .int .u8 0, .int .u8 0, .int .u8 0, .int .u8 0, .int .u8 0, .int .u8 1, .int .i64 0, .int .i64 0, .int .i64 0, .int .i64 0, .int .u8 0] 33)).cell? ⟨W.heap.size, i * 16 + j, none⟩ = some u := by
  rw [cell_of_row _ W.heap.size (i * 16 + j) _ _ _ (heap_alloc_new W _), ← Array.getElem?_toList]
  rw [litO] at hu
  exact hu
theorem koW (o : Og.Oper) (hf : Og.Fits o) (l : List UInt8) (hl : Wk.oout o = l) (W : World) : Calls Try.prog 17 #[.agg (operC o)] W fun e w' => e = .returned (.string ⟨l.toArray⟩) ∧ Below W.heap.size W w' := by
  have := owrite_any o hf W (Wk.oper_ne o hf)
  unfold RetS at this
  rw [hl] at this; exact this
/-- Sixty-five zero bytes. -/
def long65 : ByteArray := ⟨(List.replicate 65 (0 : UInt8)).toArray⟩
theorem long_conv {W : World} {b g : Nat} (h : W.ownsRow b 5 1 (.slice (some ⟨g, 0, none⟩) 65 65) 65 ((madeCells (Value.int .u8 0).cells (65 * 1)).toList)) : (convert 36 9 (.slice (some ⟨g, 0, none⟩) 65 65)).run Try.prog W = .ok (.string long65) W := by
  have h2 : OwnB W b (.slice (some ⟨g, 0, none⟩) 65 65) (List.replicate 65 (0 : UInt8)) := by
    unfold OwnB
    rw [show (madeCells (Value.int .u8 0).cells (65 * 1)).toList = bc (List.replicate 65 (0 : UInt8)) by
      show (madeCells #[Value.int .u8 0] (65 * 1)).toList = _
      rw [toList_madeCells_one]; simp [bc]] at h
    exact h
  exact run_string_own h2
theorem made5 {W : World} {b : Nat} {g : Nat} (h : W.ownsRow b 23 3 (.slice (some ⟨g, 0, none⟩) 5 5) 5 ((madeCells (Value.agg #[.int .u8 0, .string ⟨#[]⟩, .string ⟨#[]⟩]).cells (5 * 3)).toList)) : Lies W (some ⟨g, 0, none⟩) (pc parts5) := by
  refine lies_of fun i u hu => ?_
  refine World.ownsRow.cells h (g := g) rfl i u ?_
  rw [show (madeCells (Value.agg #[.int .u8 0, .string ⟨#[]⟩, .string ⟨#[]⟩]).cells (5 * 3)).toList = pc parts5 by simp [madeCells, Value.cells, List.range, List.range.loop, pc, parts5, pc1, zpart, Cm.e0]]
  exact hu
end Go.Proofs.Ytpdahbfjbgcmgaa
