/-
  wapentakeref03.ReadOper's mathematics: what its steps come to is what cmd.ReadOper's come to.
  wapentakeref03.ReadOper's last part walked. WRITTEN BY wip/tools/gen_orread.py.
  wapentakeref03.ReadOper walked: an Op of its own. WRITTEN BY wip/tools/gen_orread.py.
  wapentakeref03.ReadOper walked: an Op of its own. WRITTEN BY wip/tools/gen_orread.py.
  wapentakeref03.ReadOper walked: an Op of its own. WRITTEN BY wip/tools/gen_orread.py.
-/
import Derived.Test.YtlcgjlganmblpaaROrT
import Derived.Test.YtlcgjlganmblpaaROpM
import Derived.Test.YtlcgjlganmblpaaRRsRd
import Derived.Test.YtlcgjlganmblpaaROrMay
import Derived.Test.YtlcgjlganmblpaaRTail
import Derived.Deep.DeepCutAuto
import Derived.Deep.CutBlock
set_option linter.unusedSimpArgs false
set_option linter.unusedVariables false
namespace Go.Proofs.Ytlcgjlganmblpaa
open Go.RowKit
set_option linter.unusedVariables false
namespace Og
open Cm (rdB rdV rdB_iff rdV_iff one)
/-- An amount as it is read. -/
def rdI (l : List UInt8) : Option (Int × List UInt8) := (rdV l).bind fun (n, l) => some (((Cm.cap31 n : Nat) : Int), l)
/-- What stands behind the Op. -/
def body (op : Nat) (l : List UInt8) : Option (Oper × List UInt8) :=
  if op = 1 then (rdB l).bind fun (s, l) => (rdI l).bind fun (a, l) => (rdI l).bind fun (b, l) => (rdI l).bind fun (r, l) => (rdI l).bind fun (u, l) => some (⟨op, s, Tk.zero, 0, a, b, r, u, 0⟩, l)
  else if op = 2 then (rdB l).bind fun (s, l) => (rdT l).bind fun (t, l) => (rdB l).bind fun (r, l) => some (⟨op, s, t, r, 0, 0, 0, 0, 0⟩, l)
  else if op = 3 then (rdT l).bind fun (t, l) => some (⟨op, 0, t, 0, 0, 0, 0, 0, 0⟩, l)
  else if op = 4 then (rdB l).bind fun (s, l) => some (⟨op, s, Tk.zero, 0, 0, 0, 0, 0, 0⟩, l)
  else (rdB l).bind fun (n, l) => some (⟨op, 0, Tk.zero, 0, 0, 0, 0, 0, n⟩, l)
def parse (l : List UInt8) : Option (Oper × List UInt8) := (rdB l).bind fun (op, l) => body op l
def read (l : List UInt8) : Option Oper := (parse l).bind fun (c, r) => if r = [] ∧ may c then some c else none
theorem rdI_in (n : Nat) (h : n ≤ 2147483647) (r : List UInt8) : rdI (Nm.grp n ++ r) = some ((n : Int), r) := by
  unfold rdI
  rw [(rdV_iff _ _ _).2 ⟨by unfold Nm.top; omega, rfl⟩, Option.bind_some]
  simp only []
  rw [show Cm.cap31 n = n by unfold Cm.cap31; rw [if_pos h]]
theorem rdI_out {l r : List UInt8} {a : Int} (h : rdI l = some (a, r)) (ha : amt a) : l = Nm.grp a.toNat ++ r := by
  unfold rdI at h
  obtain ⟨⟨n, l1⟩, h1, h2⟩ := Option.bind_eq_some_iff.1 h
  simp only [Option.some.injEq, Prod.mk.injEq] at h2
  obtain ⟨rfl, rfl⟩ := h2
  obtain ⟨_, rfl⟩ := (rdV_iff _ _ _).1 h1
  unfold amt Cm.cap31 at *
  split at ha
  · rename_i hle
    simp [hle]
  · omega
theorem rdB_in (n : Nat) (h : n < 256) (r : List UInt8) : rdB (one n ++ r) = some (n, r) := (rdB_iff _ _ _).2 ⟨h, rfl⟩
theorem parse_in (c : Oper) (hm : may c) (r : List UInt8) : parse (enc c ++ r) = some (c, r) := by
  have hf := Wk.may_fits hm
  unfold parse enc
  rw [List.append_assoc, rdB_in _ hf.op, Option.bind_some]
  simp only []
  unfold body
  obtain ⟨op, slot, tok, role, k, b, ra, u, n⟩ := c
  have hs := hf.slot
  have hr := hf.role
  have hn := hf.node
  unfold may none4 at hm
  simp only [] at hm hs hr hn ⊢
  rcases hm with ⟨rfl, h1, rfl, rfl, h2, h3, h4, h5, rfl⟩ | ⟨rfl, h1, h2, ⟨rfl, rfl, rfl, rfl⟩, rfl⟩ | ⟨rfl, rfl, rfl, ⟨rfl, rfl, rfl, rfl⟩, rfl⟩ | ⟨rfl, h1, rfl, rfl, ⟨rfl, rfl, rfl, rfl⟩, rfl⟩ | ⟨h0, rfl, rfl, rfl, ⟨rfl, rfl, rfl, rfl⟩, h1⟩
  · rw [if_pos rfl, if_pos rfl]
    obtain ⟨_, a1, a2⟩ := un_amt h2
    obtain ⟨_, b1, b2⟩ := un_amt h3
    obtain ⟨_, c1, c2⟩ := un_amt h4
    obtain ⟨_, d1, d2⟩ := un_amt h5
    simp only [List.append_assoc]
    rw [rdB_in _ hs, Option.bind_some]
    simp only []
    rw [rdI_in _ a1, Option.bind_some]
    simp only []
    rw [rdI_in _ b1, Option.bind_some]
    simp only []
    rw [rdI_in _ c1, Option.bind_some]
    simp only []
    rw [rdI_in _ d1, Option.bind_some, a2, b2, c2, d2]
  · rw [if_neg (by omega), if_pos rfl, if_neg (by omega), if_pos rfl]
    simp only [List.append_assoc]
    rw [rdB_in _ hs, Option.bind_some]
    simp only []
    rw [(rdT_iff _ _ _).2 rfl, Option.bind_some]
    simp only []
    rw [rdB_in _ hr, Option.bind_some]
  · rw [if_neg (by omega), if_neg (by omega), if_pos rfl, if_neg (by omega), if_neg (by omega), if_pos rfl]
    rw [(rdT_iff _ _ _).2 rfl, Option.bind_some]
  · rw [if_neg (by omega), if_neg (by omega), if_neg (by omega), if_pos rfl, if_neg (by omega), if_neg (by omega), if_neg (by omega), if_pos rfl]
    rw [rdB_in _ hs, Option.bind_some]
  · rw [if_neg (by omega), if_neg (by omega), if_neg (by omega), if_neg (by omega), if_neg (by omega), if_neg (by omega), if_neg (by omega), if_neg (by omega)]
    rw [rdB_in _ hn, Option.bind_some]
theorem parse_out {l r : List UInt8} {c : Oper} (h0 : parse l = some (c, r)) (hm : may c) : l = enc c ++ r := by
  unfold parse at h0
  obtain ⟨⟨op, l1⟩, h1, h⟩ := Option.bind_eq_some_iff.1 h0
  clear h0
  simp only [] at h
  obtain ⟨_, rfl⟩ := (rdB_iff _ _ _).1 h1
  unfold body at h
  by_cases e1 : op = 1
  · rw [if_pos e1] at h
    have hq := h
    clear h
    obtain ⟨⟨s, l2⟩, h2, h⟩ := Option.bind_eq_some_iff.1 hq
    clear hq
    simp only [] at h
    have hq := h
    clear h
    obtain ⟨⟨a, l3⟩, h3, h⟩ := Option.bind_eq_some_iff.1 hq
    clear hq
    simp only [] at h
    have hq := h
    clear h
    obtain ⟨⟨b, l4⟩, h4, h⟩ := Option.bind_eq_some_iff.1 hq
    clear hq
    simp only [] at h
    have hq := h
    clear h
    obtain ⟨⟨x, l5⟩, h5, h⟩ := Option.bind_eq_some_iff.1 hq
    clear hq
    simp only [] at h
    have hq := h
    clear h
    obtain ⟨⟨u, l6⟩, h6, h⟩ := Option.bind_eq_some_iff.1 hq
    clear hq
    simp only [Option.some.injEq, Prod.mk.injEq] at h
    obtain ⟨rfl, rfl⟩ := h
    have hk : amt a ∧ amt b ∧ amt x ∧ amt u := by
      unfold may at hm
      simp only [] at hm
      rcases hm with h1 | h1 | h1 | h1 | h1
      · exact ⟨h1.2.2.2.2.1, h1.2.2.2.2.2.1, h1.2.2.2.2.2.2.1, h1.2.2.2.2.2.2.2.1⟩
      all_goals (exfalso; have := h1.1; omega)
    obtain ⟨_, rfl⟩ := (rdB_iff _ _ _).1 h2
    rw [rdI_out h3 hk.1, rdI_out h4 hk.2.1, rdI_out h5 hk.2.2.1, rdI_out h6 hk.2.2.2]
    unfold enc
    rw [if_pos e1]
    simp
  rw [if_neg e1] at h
  by_cases e2 : op = 2
  · rw [if_pos e2] at h
    have hq := h
    clear h
    obtain ⟨⟨s, l2⟩, h2, h⟩ := Option.bind_eq_some_iff.1 hq
    clear hq
    simp only [] at h
    have hq := h
    clear h
    obtain ⟨⟨t, l3⟩, h3, h⟩ := Option.bind_eq_some_iff.1 hq
    clear hq
    simp only [] at h
    have hq := h
    clear h
    obtain ⟨⟨x, l4⟩, h4, h⟩ := Option.bind_eq_some_iff.1 hq
    clear hq
    simp only [Option.some.injEq, Prod.mk.injEq] at h
    obtain ⟨rfl, rfl⟩ := h
    obtain ⟨_, rfl⟩ := (rdB_iff _ _ _).1 h2
    rw [(rdT_iff _ _ _).1 h3]
    obtain ⟨_, rfl⟩ := (rdB_iff _ _ _).1 h4
    unfold enc
    rw [if_neg e1, if_pos e2]
    simp
  rw [if_neg e2] at h
  by_cases e3 : op = 3
  · rw [if_pos e3] at h
    have hq := h
    clear h
    obtain ⟨⟨t, l3⟩, h3, h⟩ := Option.bind_eq_some_iff.1 hq
    clear hq
    simp only [Option.some.injEq, Prod.mk.injEq] at h
    obtain ⟨rfl, rfl⟩ := h
    rw [(rdT_iff _ _ _).1 h3]
    unfold enc
    rw [if_neg e1, if_neg e2, if_pos e3]
    simp
  rw [if_neg e3] at h
  by_cases e4 : op = 4
  · rw [if_pos e4] at h
    have hq := h
    clear h
    obtain ⟨⟨s, l2⟩, h2, h⟩ := Option.bind_eq_some_iff.1 hq
    clear hq
    simp only [Option.some.injEq, Prod.mk.injEq] at h
    obtain ⟨rfl, rfl⟩ := h
    obtain ⟨_, rfl⟩ := (rdB_iff _ _ _).1 h2
    unfold enc
    rw [if_neg e1, if_neg e2, if_neg e3, if_pos e4]
    simp
  rw [if_neg e4] at h
  have hq := h
  clear h
  obtain ⟨⟨s, l2⟩, h2, h⟩ := Option.bind_eq_some_iff.1 hq
  clear hq
  simp only [Option.some.injEq, Prod.mk.injEq] at h
  obtain ⟨rfl, rfl⟩ := h
  obtain ⟨_, rfl⟩ := (rdB_iff _ _ _).1 h2
  unfold enc
  rw [if_neg e1, if_neg e2, if_neg e3, if_neg e4]
  simp
theorem read_iff (l : List UInt8) (c : Oper) : read l = some c ↔ may c ∧ enc c = l := by
  unfold read
  constructor
  · intro h
    obtain ⟨⟨d, r⟩, h1, h2⟩ := Option.bind_eq_some_iff.1 h
    simp only [] at h2
    split at h2
    · rename_i hr
      injection h2 with h2
      subst h2
      obtain ⟨rfl, hm⟩ := hr
      have := parse_out h1 hm
      rw [List.append_nil] at this
      exact ⟨hm, this.symm⟩
    · cases h2
  · rintro ⟨hm, rfl⟩
    have := parse_in c hm []
    rw [List.append_nil] at this
    rw [this, Option.bind_some]
    simp [hm]
theorem read_oin (l : List UInt8) : read l = Wk.oin l := by
  apply Option.ext
  intro c
  rw [read_iff, Wk.oin_iff]
theorem gI {t t' : Cm.Tk} {n : Nat} (h : Cm.tV t = (n, t')) : Cm.G t (rdI t.l) ((Cm.cap31 n : Nat) : Int) t' := (Cm.G.V h).bind (Cm.G.pure _ _)
theorem gparse {t0 t1 t : Cm.Tk} {op : Nat} {c : Oper} (h0 : Cm.tB t0 = (op, t1)) (h : Cm.G t1 (body op t1.l) c t) : Cm.G t0 (parse t0.l) c t := (Cm.G.B h0).bind h
theorem gread {l : List UInt8} {t : Cm.Tk} {c : Oper} (h : Cm.G ⟨l, true⟩ (parse l) c t) : read l = if t.ok = true ∧ t.l = [] ∧ may c then some c else none := by
  unfold read
  rw [h.good rfl]
  unfold Cm.opt
  by_cases ht : t.ok = true
  · by_cases hl : t.l = []
    · by_cases hm : may c <;> simp [ht, hl, hm]
    · simp [ht, hl]
  · simp [ht]
theorem body1 {op : Nat} {l : List UInt8} (h : op = 1) : body op l = (rdB l).bind fun (s, l) => (rdI l).bind fun (a, l) => (rdI l).bind fun (b, l) => (rdI l).bind fun (r, l) => (rdI l).bind fun (u, l) => some (⟨op, s, Tk.zero, 0, a, b, r, u, 0⟩, l) := by unfold body; rw [if_pos h]
theorem body2 {op : Nat} {l : List UInt8} (h : op = 2) : body op l = (rdB l).bind fun (s, l) => (rdT l).bind fun (t, l) => (rdB l).bind fun (r, l) => some (⟨op, s, t, r, 0, 0, 0, 0, 0⟩, l) := by unfold body; rw [if_neg (by omega), if_pos h]
theorem body3 {op : Nat} {l : List UInt8} (h : op = 3) : body op l = (rdT l).bind fun (t, l) => some (⟨op, 0, t, 0, 0, 0, 0, 0, 0⟩, l) := by unfold body; rw [if_neg (by omega), if_neg (by omega), if_pos h]
theorem body4 {op : Nat} {l : List UInt8} (h : op = 4) : body op l = (rdB l).bind fun (s, l) => some (⟨op, s, Tk.zero, 0, 0, 0, 0, 0, 0⟩, l) := by unfold body; rw [if_neg (by omega), if_neg (by omega), if_neg (by omega), if_pos h]
theorem body5 {op : Nat} {l : List UInt8} (h : op ≠ 1 ∧ op ≠ 2 ∧ op ≠ 3 ∧ op ≠ 4) : body op l = (rdB l).bind fun (n, l) => some (⟨op, 0, Tk.zero, 0, 0, 0, 0, 0, n⟩, l) := by unfold body; rw [if_neg h.1, if_neg h.2.1, if_neg h.2.2.1, if_neg h.2.2.2]
end Og
end Go.Proofs.Ytlcgjlganmblpaa
namespace Go.Proofs.Ytlcgjlganmblpaa
open Go.RowKit
set_option linter.unusedVariables false
theorem Cm.len_K (t : Cm.Tk) : (Cm.tK t).2.l.length ≤ t.l.length := Cm.tKk_len t 8
noncomputable def orrC : Code := ((Try.f47.body.bind (Tail.find 19)).getD .skip)
set_option maxRecDepth 100000 in
set_option maxHeartbeats 8000000 in
theorem orr_bad {c0 c1 c3 c6 c7 c8 c9 c10 c11 c12 c13 c14 c15 c16 c17 c18 c19 c20 c21 c22 c23 c24 c25 c26 c27 c28 c29 c30 c31 c32 c33 c34 c35 c36 c37 c38 c39 c40 c41 c42 c43 c44 c45 c46 c47 c48 c49 c50 c51 c52 c53 c54 c55 c56 c57 c58 c59 c60 c61 c62 c63 c64 c65 c66 c67 c68 c69 c70 c71 c72 c73 c74 c75 c76 c77 c78 c79 c80 : Value} (s : ByteArray) (w wc : World) (g : Nat) (c : Og.Oper) (tl : List UInt8) (Hno : Hid (Og.read s.data.toList = none)) (S : TSt 26 (operC Og.Oper.zero) w wc g ⟨tl, false⟩ (operC c)) :
    Code.wp Try.prog orrC (bodyPost Try.prog Try.f47 (RetOp (Og.read s.data.toList) w)) ⟨#[c0, c1, .pointer (some ⟨w.heap.size, 0, none⟩), c3, .pointer (some ⟨w.heap.size + 1, 0, none⟩), .pointer (some ⟨g, 0, none⟩), c6, c7, c8, c9, c10, c11, c12, c13, c14, c15, c16, c17, c18, c19, c20, c21, c22, c23, c24, c25, c26, c27, c28, c29, c30, c31, c32, c33, c34, c35, c36, c37, c38, c39, c40, c41, c42, c43, c44, c45, c46, c47, c48, c49, c50, c51, c52, c53, c54, c55, c56, c57, c58, c59, c60, c61, c62, c63, c64, c65, c66, c67, c68, c69, c70, c71, c72, c73, c74, c75, c76, c77, c78, c79, c80], []⟩ wc := by
  have u0 := S.t.s
  have u1 := S.t.k
  simp only at u0 u1
  have HS' := Lib.hid S
  clear S
  conv => arg 2; whnf
  obtain ⟨m0, m1, m2, m3, m4, m5, m6, m7, m8, m9, m10, m11, m12, m13, m14, m15, _⟩ := operAt HS'.out.z
  have f0 := frozen_of_row wc w.heap.size 0 _ _ HS'.out.z
  have f1 := frozen_of_row wc w.heap.size 1 _ _ HS'.out.z
  have f2 := frozen_of_row wc w.heap.size 2 _ _ HS'.out.z
  have f3 := frozen_of_row wc w.heap.size 3 _ _ HS'.out.z
  have f4 := frozen_of_row wc w.heap.size 4 _ _ HS'.out.z
  have f5 := frozen_of_row wc w.heap.size 5 _ _ HS'.out.z
  have f6 := frozen_of_row wc w.heap.size 6 _ _ HS'.out.z
  have f7 := frozen_of_row wc w.heap.size 7 _ _ HS'.out.z
  have f8 := frozen_of_row wc w.heap.size 8 _ _ HS'.out.z
  have f9 := frozen_of_row wc w.heap.size 9 _ _ HS'.out.z
  have f10 := frozen_of_row wc w.heap.size 10 _ _ HS'.out.z
  have f11 := frozen_of_row wc w.heap.size 11 _ _ HS'.out.z
  have f12 := frozen_of_row wc w.heap.size 12 _ _ HS'.out.z
  have f13 := frozen_of_row wc w.heap.size 13 _ _ HS'.out.z
  have f14 := frozen_of_row wc w.heap.size 14 _ _ HS'.out.z
  have f15 := frozen_of_row wc w.heap.size 15 _ _ HS'.out.z
  go_wp2_with fail
  have hres := results_ct (P := Try.prog) (fn := Try.f47) rfl
  refine bodyPost_ret (hres _ _ w.heap.size 26 (operC Og.Oper.zero) (0, 0) _ rfl (operPut (x := Og.Oper.zero) HS'.out.z) Try.underlying26 rfl sizeOper) rfl ⟨?_, operBelow (x := Og.Oper.zero) HS'.out.b (Nat.le_refl _)⟩
  rw [Hno.out]; rfl
set_option maxRecDepth 100000 in
set_option maxHeartbeats 8000000 in
theorem orr_more {c0 c1 c3 c6 c7 c8 c9 c10 c11 c12 c13 c14 c15 c16 c17 c18 c19 c20 c21 c22 c23 c24 c25 c26 c27 c28 c29 c30 c31 c32 c33 c34 c35 c36 c37 c38 c39 c40 c41 c42 c43 c44 c45 c46 c47 c48 c49 c50 c51 c52 c53 c54 c55 c56 c57 c58 c59 c60 c61 c62 c63 c64 c65 c66 c67 c68 c69 c70 c71 c72 c73 c74 c75 c76 c77 c78 c79 c80 : Value} (s : ByteArray) (w wc : World) (g : Nat) (c : Og.Oper) (x : UInt8) (r : List UInt8) (Hno : Hid (Og.read s.data.toList = none)) (S : TSt 26 (operC Og.Oper.zero) w wc g ⟨x :: r, true⟩ (operC c)) :
    Code.wp Try.prog orrC (bodyPost Try.prog Try.f47 (RetOp (Og.read s.data.toList) w)) ⟨#[c0, c1, .pointer (some ⟨w.heap.size, 0, none⟩), c3, .pointer (some ⟨w.heap.size + 1, 0, none⟩), .pointer (some ⟨g, 0, none⟩), c6, c7, c8, c9, c10, c11, c12, c13, c14, c15, c16, c17, c18, c19, c20, c21, c22, c23, c24, c25, c26, c27, c28, c29, c30, c31, c32, c33, c34, c35, c36, c37, c38, c39, c40, c41, c42, c43, c44, c45, c46, c47, c48, c49, c50, c51, c52, c53, c54, c55, c56, c57, c58, c59, c60, c61, c62, c63, c64, c65, c66, c67, c68, c69, c70, c71, c72, c73, c74, c75, c76, c77, c78, c79, c80], []⟩ wc := by
  have u0 := S.t.s
  have u1 := S.t.k
  simp only at u0 u1
  have HS' := Lib.hid S
  clear S
  conv => arg 2; whnf
  obtain ⟨y, hy⟩ : ∃ y : ByteArray, y = ⟨(x :: r).toArray⟩ := ⟨_, rfl⟩
  rw [← hy] at u0
  have e0 : y.size = (x :: r).length := by rw [hy, Lib.size_eq]
  have e1 : 0 < y.size := by rw [e0]; simp
  have d0 : decide ((0 : Int) < (y.size : Int)) = true := by simp; omega
  clear hy e0
  obtain ⟨m0, m1, m2, m3, m4, m5, m6, m7, m8, m9, m10, m11, m12, m13, m14, m15, _⟩ := operAt HS'.out.z
  have f0 := frozen_of_row wc w.heap.size 0 _ _ HS'.out.z
  have f1 := frozen_of_row wc w.heap.size 1 _ _ HS'.out.z
  have f2 := frozen_of_row wc w.heap.size 2 _ _ HS'.out.z
  have f3 := frozen_of_row wc w.heap.size 3 _ _ HS'.out.z
  have f4 := frozen_of_row wc w.heap.size 4 _ _ HS'.out.z
  have f5 := frozen_of_row wc w.heap.size 5 _ _ HS'.out.z
  have f6 := frozen_of_row wc w.heap.size 6 _ _ HS'.out.z
  have f7 := frozen_of_row wc w.heap.size 7 _ _ HS'.out.z
  have f8 := frozen_of_row wc w.heap.size 8 _ _ HS'.out.z
  have f9 := frozen_of_row wc w.heap.size 9 _ _ HS'.out.z
  have f10 := frozen_of_row wc w.heap.size 10 _ _ HS'.out.z
  have f11 := frozen_of_row wc w.heap.size 11 _ _ HS'.out.z
  have f12 := frozen_of_row wc w.heap.size 12 _ _ HS'.out.z
  have f13 := frozen_of_row wc w.heap.size 13 _ _ HS'.out.z
  have f14 := frozen_of_row wc w.heap.size 14 _ _ HS'.out.z
  have f15 := frozen_of_row wc w.heap.size 15 _ _ HS'.out.z
  go_wp2_with fail
  have hres := results_ct (P := Try.prog) (fn := Try.f47) rfl
  refine bodyPost_ret (hres _ _ w.heap.size 26 (operC Og.Oper.zero) (0, 0) _ rfl (operPut (x := Og.Oper.zero) HS'.out.z) Try.underlying26 rfl sizeOper) rfl ⟨?_, operBelow (x := Og.Oper.zero) HS'.out.b (Nat.le_refl _)⟩
  rw [Hno.out]; rfl
set_option maxRecDepth 100000 in
set_option maxHeartbeats 8000000 in
theorem orr_no {c0 c1 c3 c6 c7 c8 c9 c10 c11 c12 c13 c14 c15 c16 c17 c18 c19 c20 c21 c22 c23 c24 c25 c26 c27 c28 c29 c30 c31 c32 c33 c34 c35 c36 c37 c38 c39 c40 c41 c42 c43 c44 c45 c46 c47 c48 c49 c50 c51 c52 c53 c54 c55 c56 c57 c58 c59 c60 c61 c62 c63 c64 c65 c66 c67 c68 c69 c70 c71 c72 c73 c74 c75 c76 c77 c78 c79 c80 : Value} (s : ByteArray) (w wc : World) (g : Nat) (c : Og.Oper) (Hmay : Hid (¬ Og.may c)) (Hno : Hid (Og.read s.data.toList = none)) (S : TSt 26 (operC Og.Oper.zero) w wc g ⟨[], true⟩ (operC c)) :
    Code.wp Try.prog orrC (bodyPost Try.prog Try.f47 (RetOp (Og.read s.data.toList) w)) ⟨#[c0, c1, .pointer (some ⟨w.heap.size, 0, none⟩), c3, .pointer (some ⟨w.heap.size + 1, 0, none⟩), .pointer (some ⟨g, 0, none⟩), c6, c7, c8, c9, c10, c11, c12, c13, c14, c15, c16, c17, c18, c19, c20, c21, c22, c23, c24, c25, c26, c27, c28, c29, c30, c31, c32, c33, c34, c35, c36, c37, c38, c39, c40, c41, c42, c43, c44, c45, c46, c47, c48, c49, c50, c51, c52, c53, c54, c55, c56, c57, c58, c59, c60, c61, c62, c63, c64, c65, c66, c67, c68, c69, c70, c71, c72, c73, c74, c75, c76, c77, c78, c79, c80], []⟩ wc := by
  have u0 := S.t.s
  have u1 := S.t.k
  simp only at u0 u1
  have HS' := Lib.hid S
  clear S
  conv => arg 2; whnf
  have y0 : decide ((0 : Int) < ((⟨#[]⟩ : ByteArray).size : Int)) = false := by rfl
  have hm := fun W => mayOper_any c W
  unfold RetTr operC at hm
  obtain ⟨q0, q1, q2, q3, q4, q5, q6, q7, q8, q9, q10, q11, q12, q13, q14, q15, _⟩ := operAt HS'.out.c
  rw [decide_eq_false Hmay.out] at hm
  have HM := Lib.hid hm
  clear hm
  go_wp2_with fail
  refine (HM.out _).mono ?_
  rintro e w5 ⟨rfl, hb5⟩
  have H5 := Lib.hid (HS'.out.grow hb5)
  clear hb5 q0 q1 q2 q3 q4 q5 q6 q7 q8 q9 q10 q11 q12 q13 q14 q15
  obtain ⟨m0, m1, m2, m3, m4, m5, m6, m7, m8, m9, m10, m11, m12, m13, m14, m15, _⟩ := operAt H5.out.z
  have f0 := frozen_of_row w5 w.heap.size 0 _ _ H5.out.z
  have f1 := frozen_of_row w5 w.heap.size 1 _ _ H5.out.z
  have f2 := frozen_of_row w5 w.heap.size 2 _ _ H5.out.z
  have f3 := frozen_of_row w5 w.heap.size 3 _ _ H5.out.z
  have f4 := frozen_of_row w5 w.heap.size 4 _ _ H5.out.z
  have f5 := frozen_of_row w5 w.heap.size 5 _ _ H5.out.z
  have f6 := frozen_of_row w5 w.heap.size 6 _ _ H5.out.z
  have f7 := frozen_of_row w5 w.heap.size 7 _ _ H5.out.z
  have f8 := frozen_of_row w5 w.heap.size 8 _ _ H5.out.z
  have f9 := frozen_of_row w5 w.heap.size 9 _ _ H5.out.z
  have f10 := frozen_of_row w5 w.heap.size 10 _ _ H5.out.z
  have f11 := frozen_of_row w5 w.heap.size 11 _ _ H5.out.z
  have f12 := frozen_of_row w5 w.heap.size 12 _ _ H5.out.z
  have f13 := frozen_of_row w5 w.heap.size 13 _ _ H5.out.z
  have f14 := frozen_of_row w5 w.heap.size 14 _ _ H5.out.z
  have f15 := frozen_of_row w5 w.heap.size 15 _ _ H5.out.z
  go_wp2_with fail
  have hres := results_ct (P := Try.prog) (fn := Try.f47) rfl
  refine bodyPost_ret (hres _ _ w.heap.size 26 (operC Og.Oper.zero) (0, 0) _ rfl (operPut (x := Og.Oper.zero) H5.out.z) Try.underlying26 rfl sizeOper) rfl ⟨?_, operBelow (x := Og.Oper.zero) H5.out.b (Nat.le_refl _)⟩
  rw [Hno.out]; rfl
set_option maxRecDepth 100000 in
set_option maxHeartbeats 8000000 in
theorem orr_yes {c0 c1 c3 c6 c7 c8 c9 c10 c11 c12 c13 c14 c15 c16 c17 c18 c19 c20 c21 c22 c23 c24 c25 c26 c27 c28 c29 c30 c31 c32 c33 c34 c35 c36 c37 c38 c39 c40 c41 c42 c43 c44 c45 c46 c47 c48 c49 c50 c51 c52 c53 c54 c55 c56 c57 c58 c59 c60 c61 c62 c63 c64 c65 c66 c67 c68 c69 c70 c71 c72 c73 c74 c75 c76 c77 c78 c79 c80 : Value} (s : ByteArray) (w wc : World) (g : Nat) (c : Og.Oper) (Hmay : Hid (Og.may c)) (Hyes : Hid (Og.read s.data.toList = some c)) (S : TSt 26 (operC Og.Oper.zero) w wc g ⟨[], true⟩ (operC c)) :
    Code.wp Try.prog orrC (bodyPost Try.prog Try.f47 (RetOp (Og.read s.data.toList) w)) ⟨#[c0, c1, .pointer (some ⟨w.heap.size, 0, none⟩), c3, .pointer (some ⟨w.heap.size + 1, 0, none⟩), .pointer (some ⟨g, 0, none⟩), c6, c7, c8, c9, c10, c11, c12, c13, c14, c15, c16, c17, c18, c19, c20, c21, c22, c23, c24, c25, c26, c27, c28, c29, c30, c31, c32, c33, c34, c35, c36, c37, c38, c39, c40, c41, c42, c43, c44, c45, c46, c47, c48, c49, c50, c51, c52, c53, c54, c55, c56, c57, c58, c59, c60, c61, c62, c63, c64, c65, c66, c67, c68, c69, c70, c71, c72, c73, c74, c75, c76, c77, c78, c79, c80], []⟩ wc := by
  have u0 := S.t.s
  have u1 := S.t.k
  simp only at u0 u1
  have HS' := Lib.hid S
  clear S
  conv => arg 2; whnf
  have y0 : decide ((0 : Int) < ((⟨#[]⟩ : ByteArray).size : Int)) = false := by rfl
  have hm := fun W => mayOper_any c W
  unfold RetTr operC at hm
  obtain ⟨q0, q1, q2, q3, q4, q5, q6, q7, q8, q9, q10, q11, q12, q13, q14, q15, _⟩ := operAt HS'.out.c
  rw [decide_eq_true Hmay.out] at hm
  have HM := Lib.hid hm
  clear hm
  go_wp2_with fail
  refine (HM.out _).mono ?_
  rintro e w5 ⟨rfl, hb5⟩
  have H5 := Lib.hid (HS'.out.grow hb5)
  clear hb5 q0 q1 q2 q3 q4 q5 q6 q7 q8 q9 q10 q11 q12 q13 q14 q15
  go_upto_region 21 with (fail)
  obtain ⟨q0, q1, q2, q3, q4, q5, q6, q7, q8, q9, q10, q11, q12, q13, q14, q15, _⟩ := operAt H5.out.c
  obtain ⟨m0, m1, m2, m3, m4, m5, m6, m7, m8, m9, m10, m11, m12, m13, m14, m15, _⟩ := operAt H5.out.z
  have f0 := frozen_of_row w5 w.heap.size 0 _ _ H5.out.z
  have f1 := frozen_of_row w5 w.heap.size 1 _ _ H5.out.z
  have f2 := frozen_of_row w5 w.heap.size 2 _ _ H5.out.z
  have f3 := frozen_of_row w5 w.heap.size 3 _ _ H5.out.z
  have f4 := frozen_of_row w5 w.heap.size 4 _ _ H5.out.z
  have f5 := frozen_of_row w5 w.heap.size 5 _ _ H5.out.z
  have f6 := frozen_of_row w5 w.heap.size 6 _ _ H5.out.z
  have f7 := frozen_of_row w5 w.heap.size 7 _ _ H5.out.z
  have f8 := frozen_of_row w5 w.heap.size 8 _ _ H5.out.z
  have f9 := frozen_of_row w5 w.heap.size 9 _ _ H5.out.z
  have f10 := frozen_of_row w5 w.heap.size 10 _ _ H5.out.z
  have f11 := frozen_of_row w5 w.heap.size 11 _ _ H5.out.z
  have f12 := frozen_of_row w5 w.heap.size 12 _ _ H5.out.z
  have f13 := frozen_of_row w5 w.heap.size 13 _ _ H5.out.z
  have f14 := frozen_of_row w5 w.heap.size 14 _ _ H5.out.z
  have f15 := frozen_of_row w5 w.heap.size 15 _ _ H5.out.z
  have hlo := H5.out.lo
  go_wp2_with fail
  have hres := results_ct (P := Try.prog) (fn := Try.f47) rfl
  refine bodyPost_ret (hres _ _ w.heap.size 26 (operC c) (0, 0) _ rfl (operPut (x := c) H5.out.z) Try.underlying26 rfl sizeOper) rfl ⟨?_, operBelow (x := c) H5.out.b (Nat.le_refl _)⟩
  rw [Hyes.out]; rfl
theorem orrest {c0 c1 c3 c6 c7 c8 c9 c10 c11 c12 c13 c14 c15 c16 c17 c18 c19 c20 c21 c22 c23 c24 c25 c26 c27 c28 c29 c30 c31 c32 c33 c34 c35 c36 c37 c38 c39 c40 c41 c42 c43 c44 c45 c46 c47 c48 c49 c50 c51 c52 c53 c54 c55 c56 c57 c58 c59 c60 c61 c62 c63 c64 c65 c66 c67 c68 c69 c70 c71 c72 c73 c74 c75 c76 c77 c78 c79 c80 : Value} (s : ByteArray) (w wc : World) (g : Nat) (c : Og.Oper) (t : Cm.Tk) (HR : Og.read s.data.toList = if t.ok = true ∧ t.l = [] ∧ Og.may c then some c else none) (S : TSt 26 (operC Og.Oper.zero) w wc g t (operC c)) :
    Code.wp Try.prog orrC (bodyPost Try.prog Try.f47 (RetOp (Og.read s.data.toList) w)) ⟨#[c0, c1, .pointer (some ⟨w.heap.size, 0, none⟩), c3, .pointer (some ⟨w.heap.size + 1, 0, none⟩), .pointer (some ⟨g, 0, none⟩), c6, c7, c8, c9, c10, c11, c12, c13, c14, c15, c16, c17, c18, c19, c20, c21, c22, c23, c24, c25, c26, c27, c28, c29, c30, c31, c32, c33, c34, c35, c36, c37, c38, c39, c40, c41, c42, c43, c44, c45, c46, c47, c48, c49, c50, c51, c52, c53, c54, c55, c56, c57, c58, c59, c60, c61, c62, c63, c64, c65, c66, c67, c68, c69, c70, c71, c72, c73, c74, c75, c76, c77, c78, c79, c80], []⟩ wc := by
  obtain ⟨tl, tok⟩ := t
  cases tok
  · exact orr_bad s w wc g c tl (Lib.hid (by rw [HR, if_neg (by simp)])) S
  · rcases tl with _ | ⟨x, r⟩
    · by_cases hm : Og.may c
      · exact orr_yes s w wc g c (Lib.hid hm) (Lib.hid (by rw [HR, if_pos ⟨rfl, rfl, hm⟩])) S
      · exact orr_no s w wc g c (Lib.hid hm) (Lib.hid (by rw [HR, if_neg (fun h => hm h.2.2)])) S
    · exact orr_more s w wc g c x r (Lib.hid (by rw [HR, if_neg (by simp)])) S
end Go.Proofs.Ytlcgjlganmblpaa
namespace Go.Proofs.Ytlcgjlganmblpaa
open Go.RowKit
set_option linter.unusedVariables false
set_option maxRecDepth 100000 in
set_option maxHeartbeats 8000000 in
theorem refReadOper_1 (s : ByteArray) (w : World) (hs : s.size ≤ 10000000) (HOp : Hid ((Cm.tB ⟨s.data.toList, true⟩).1 = 1)) :
    Calls Try.prog 47 #[.string s] w (RetOp (Wk.oin s.data.toList) w) := by
  rw [← Og.read_oin]
  obtain ⟨t0, ht0⟩ : ∃ t : Cm.Tk, t = ⟨s.data.toList, true⟩ := ⟨_, rfl⟩
  have hl0 : t0.l.length ≤ 10000000 := by rw [ht0, ← Lib.size_eq]; exact hs
  have T0 := taker_new 26 (operC Og.Oper.zero) w s
  rw [← ht0] at T0
  have hc := tkB_any _ _ _ T0 (by omega)
  have hlt := Cm.lt_B t0
  have hl1 := Cm.len_B t0
  generalize hB : Cm.tB t0 = r1 at hc hlt hl1
  obtain ⟨n, t1⟩ := r1
  simp only at hc hlt hl1
  have hw8 : (n : Int) % 256 = (n : Int) := by omega
  have HB := Lib.hid hB
  have Hc := Lib.hid hc
  have H : Hid (n = 1) := Lib.hid (by
    have := HOp.out
    rw [← ht0, hB] at this
    exact this)
  have Ht0 := Lib.hid ht0
  clear hc T0 hB ht0 HOp
  go_enter Try.func47, Try.ntmps47
  go_wp2_with fail
  refine Hc.out.mono ?_
  rintro e w1 ⟨rfl, hT1, ho1⟩
  have HS := Lib.hid (TSt.start 26 (operC Og.Oper.zero) (operC ⟨n, 0, Og.Tk.zero, 0, 0, 0, 0, 0, 0⟩) w w1 s t1 ho1 hT1)
  clear hT1 ho1 Hc
  go_upto_region 3 with (fail)
  refine forget (fun W => TSt 26 (operC Og.Oper.zero) w W w1.heap.size t1 (operC ⟨n, 0, Og.Tk.zero, 0, 0, 0, 0, 0, 0⟩)) HS.out ?_
  clear hw8 HS
  obtain ⟨g, hg⟩ : ∃ g, g = w1.heap.size := ⟨_, rfl⟩
  rw [← hg]
  clear hg
  clear w1
  intro W0 S
  have HS := Lib.hid S
  have k0 : W0.cell? ⟨g, 0, none⟩ = some (.int .u8 (n : Int)) := cell_of_row W0 g 0 _ _ _ S.c
  clear S
  go_upto_block 0 with (fail)
  clear k0
  go_cut [] (fun W => ∃ (t : Cm.Tk) (c : Og.Oper), TSt 26 (operC Og.Oper.zero) w W g t (operC c) ∧ t.l.length ≤ 10000000 ∧ Cm.G t1 (Og.body n t1.l) c t)
  case first =>
    have hh := H.out
    have e1 : ((n : Int) == 1) = true := by rw [beq_iff_eq]; omega
    have e2 : ((n : Int) == 2) = false := by rw [beq_eq_false_iff_ne]; omega
    have e3 : ((n : Int) == 3) = false := by rw [beq_eq_false_iff_ne]; omega
    have e4 : ((n : Int) == 4) = false := by rw [beq_eq_false_iff_ne]; omega
    clear hh
    go_wp2_with fail
    have hc := tkB_any _ _ _ HS.out.t (by omega)
    have hl2 := Cm.len_B t1
    have hv2 := Cm.lt_B t1
    generalize hV2 : Cm.tB t1 = r at hc hl2 hv2
    obtain ⟨v2, t2⟩ := r
    simp only at hc hl2 hv2
    have HV2 := Lib.hid hV2
    clear hV2
    have hw2 : (v2 : Int) % 256 = (v2 : Int) := by omega
    have Hc := Lib.hid hc
    clear hc
    refine Hc.out.mono ?_
    rintro e W2 ⟨rfl, hT, ho⟩
    have S1 := HS.out.call ho hT
    clear hT ho HS Hc
    have kc : W2.cell? ⟨g, 1, none⟩ = some (.int .u8 0) := cell_of_row W2 g 1 _ _ _ S1.c
    have zc := frozen_of_row W2 g 1 _ _ S1.c
    have HS : Hid (TSt 26 (operC Og.Oper.zero) w _ g t2 (operC ⟨n, v2, Og.Tk.zero, 0, 0, 0, 0, 0, 0⟩)) := Lib.hid (S1.put 1 (.int .u8 (v2 : Int)))
    clear S1
    go_upto_region 7 with (fail)
    refine forget (fun W => TSt 26 (operC Og.Oper.zero) w W g t2 (operC ⟨n, v2, Og.Tk.zero, 0, 0, 0, 0, 0, 0⟩)) HS.out ?_
    clear kc zc HS
    intro W2' S
    have HS := Lib.hid S
    clear S
    go_wp2_with fail
    have hc := tkI_any _ _ _ HS.out.t (by omega)
    have hl3 := Cm.len_V t2
    generalize hV3 : Cm.tV t2 = r at hc hl3
    obtain ⟨v3, t3⟩ := r
    simp only at hc hl3
    have HV3 := Lib.hid hV3
    clear hV3
    obtain ⟨n3, hn3⟩ : ∃ m, m = Cm.cap31 v3 := ⟨_, rfl⟩
    rw [← hn3] at hc
    have Hn3 := Lib.hid hn3
    clear hn3
    have Hc := Lib.hid hc
    clear hc
    refine Hc.out.mono ?_
    rintro e W3 ⟨rfl, hT, ho⟩
    have S1 := HS.out.call ho hT
    clear hT ho HS Hc
    have kc : W3.cell? ⟨g, 11, none⟩ = some (.int .i64 0) := cell_of_row W3 g 11 _ _ _ S1.c
    have zc := frozen_of_row W3 g 11 _ _ S1.c
    have HS : Hid (TSt 26 (operC Og.Oper.zero) w _ g t3 (operC ⟨n, v2, Og.Tk.zero, 0, ((n3 : Nat) : Int), 0, 0, 0, 0⟩)) := Lib.hid (S1.put 11 (.int .i64 ((n3 : Nat) : Int)))
    clear S1
    go_upto_region 8 with (fail)
    refine forget (fun W => TSt 26 (operC Og.Oper.zero) w W g t3 (operC ⟨n, v2, Og.Tk.zero, 0, ((n3 : Nat) : Int), 0, 0, 0, 0⟩)) HS.out ?_
    clear kc zc HS
    intro W3' S
    have HS := Lib.hid S
    clear S
    go_wp2_with fail
    have hc := tkI_any _ _ _ HS.out.t (by omega)
    have hl4 := Cm.len_V t3
    generalize hV4 : Cm.tV t3 = r at hc hl4
    obtain ⟨v4, t4⟩ := r
    simp only at hc hl4
    have HV4 := Lib.hid hV4
    clear hV4
    obtain ⟨n4, hn4⟩ : ∃ m, m = Cm.cap31 v4 := ⟨_, rfl⟩
    rw [← hn4] at hc
    have Hn4 := Lib.hid hn4
    clear hn4
    have Hc := Lib.hid hc
    clear hc
    refine Hc.out.mono ?_
    rintro e W4 ⟨rfl, hT, ho⟩
    have S1 := HS.out.call ho hT
    clear hT ho HS Hc
    have kc : W4.cell? ⟨g, 12, none⟩ = some (.int .i64 0) := cell_of_row W4 g 12 _ _ _ S1.c
    have zc := frozen_of_row W4 g 12 _ _ S1.c
    have HS : Hid (TSt 26 (operC Og.Oper.zero) w _ g t4 (operC ⟨n, v2, Og.Tk.zero, 0, ((n3 : Nat) : Int), ((n4 : Nat) : Int), 0, 0, 0⟩)) := Lib.hid (S1.put 12 (.int .i64 ((n4 : Nat) : Int)))
    clear S1
    go_upto_region 9 with (fail)
    refine forget (fun W => TSt 26 (operC Og.Oper.zero) w W g t4 (operC ⟨n, v2, Og.Tk.zero, 0, ((n3 : Nat) : Int), ((n4 : Nat) : Int), 0, 0, 0⟩)) HS.out ?_
    clear kc zc HS
    intro W4' S
    have HS := Lib.hid S
    clear S
    go_wp2_with fail
    have hc := tkI_any _ _ _ HS.out.t (by omega)
    have hl5 := Cm.len_V t4
    generalize hV5 : Cm.tV t4 = r at hc hl5
    obtain ⟨v5, t5⟩ := r
    simp only at hc hl5
    have HV5 := Lib.hid hV5
    clear hV5
    obtain ⟨n5, hn5⟩ : ∃ m, m = Cm.cap31 v5 := ⟨_, rfl⟩
    rw [← hn5] at hc
    have Hn5 := Lib.hid hn5
    clear hn5
    have Hc := Lib.hid hc
    clear hc
    refine Hc.out.mono ?_
    rintro e W5 ⟨rfl, hT, ho⟩
    have S1 := HS.out.call ho hT
    clear hT ho HS Hc
    have kc : W5.cell? ⟨g, 13, none⟩ = some (.int .i64 0) := cell_of_row W5 g 13 _ _ _ S1.c
    have zc := frozen_of_row W5 g 13 _ _ S1.c
    have HS : Hid (TSt 26 (operC Og.Oper.zero) w _ g t5 (operC ⟨n, v2, Og.Tk.zero, 0, ((n3 : Nat) : Int), ((n4 : Nat) : Int), ((n5 : Nat) : Int), 0, 0⟩)) := Lib.hid (S1.put 13 (.int .i64 ((n5 : Nat) : Int)))
    clear S1
    go_upto_region 10 with (fail)
    refine forget (fun W => TSt 26 (operC Og.Oper.zero) w W g t5 (operC ⟨n, v2, Og.Tk.zero, 0, ((n3 : Nat) : Int), ((n4 : Nat) : Int), ((n5 : Nat) : Int), 0, 0⟩)) HS.out ?_
    clear kc zc HS
    intro W5' S
    have HS := Lib.hid S
    clear S
    go_wp2_with fail
    have hc := tkI_any _ _ _ HS.out.t (by omega)
    have hl6 := Cm.len_V t5
    generalize hV6 : Cm.tV t5 = r at hc hl6
    obtain ⟨v6, t6⟩ := r
    simp only at hc hl6
    have HV6 := Lib.hid hV6
    clear hV6
    obtain ⟨n6, hn6⟩ : ∃ m, m = Cm.cap31 v6 := ⟨_, rfl⟩
    rw [← hn6] at hc
    have Hn6 := Lib.hid hn6
    clear hn6
    have Hc := Lib.hid hc
    clear hc
    refine Hc.out.mono ?_
    rintro e W6 ⟨rfl, hT, ho⟩
    have S1 := HS.out.call ho hT
    clear hT ho HS Hc
    have kc : W6.cell? ⟨g, 14, none⟩ = some (.int .i64 0) := cell_of_row W6 g 14 _ _ _ S1.c
    have zc := frozen_of_row W6 g 14 _ _ S1.c
    have HS : Hid (TSt 26 (operC Og.Oper.zero) w _ g t6 (operC ⟨n, v2, Og.Tk.zero, 0, ((n3 : Nat) : Int), ((n4 : Nat) : Int), ((n5 : Nat) : Int), ((n6 : Nat) : Int), 0⟩)) := Lib.hid (S1.put 14 (.int .i64 ((n6 : Nat) : Int)))
    clear S1
    go_wp2_with fail
    go_meet
    exact ⟨t6, ⟨n, v2, Og.Tk.zero, 0, ((n3 : Nat) : Int), ((n4 : Nat) : Int), ((n5 : Nat) : Int), ((n6 : Nat) : Int), 0⟩, HS.out, by omega, by rw [Og.body1 H.out]; exact (Cm.G.B HV2.out).bind (Cm.G.bind (by have := Og.gI HV3.out; rw [← Hn3.out] at this; exact this) (Cm.G.bind (by have := Og.gI HV4.out; rw [← Hn4.out] at this; exact this) (Cm.G.bind (by have := Og.gI HV5.out; rw [← Hn5.out] at this; exact this) (Cm.G.bind (by have := Og.gI HV6.out; rw [← Hn6.out] at this; exact this) (Cm.G.pure _ _)))))⟩
  case rest =>
    obtain ⟨t, c, S, hlt4, hG⟩ := hcut
    have hG2 : Cm.G ⟨s.data.toList, true⟩ (Og.parse s.data.toList) c t := by
      have := Og.gparse HB.out hG
      rw [Ht0.out] at this
      exact this
    have hrd := Og.gread hG2
    rename_i hK
    refine hK _ _ ?_
    exact orrest s w _ g c t hrd S
end Go.Proofs.Ytlcgjlganmblpaa
namespace Go.Proofs.Ytlcgjlganmblpaa
open Go.RowKit
set_option linter.unusedVariables false
set_option maxRecDepth 100000 in
set_option maxHeartbeats 8000000 in
theorem refReadOper_4 (s : ByteArray) (w : World) (hs : s.size ≤ 10000000) (HOp : Hid ((Cm.tB ⟨s.data.toList, true⟩).1 = 4)) :
    Calls Try.prog 47 #[.string s] w (RetOp (Wk.oin s.data.toList) w) := by
  rw [← Og.read_oin]
  obtain ⟨t0, ht0⟩ : ∃ t : Cm.Tk, t = ⟨s.data.toList, true⟩ := ⟨_, rfl⟩
  have hl0 : t0.l.length ≤ 10000000 := by rw [ht0, ← Lib.size_eq]; exact hs
  have T0 := taker_new 26 (operC Og.Oper.zero) w s
  rw [← ht0] at T0
  have hc := tkB_any _ _ _ T0 (by omega)
  have hlt := Cm.lt_B t0
  have hl1 := Cm.len_B t0
  generalize hB : Cm.tB t0 = r1 at hc hlt hl1
  obtain ⟨n, t1⟩ := r1
  simp only at hc hlt hl1
  have hw8 : (n : Int) % 256 = (n : Int) := by omega
  have HB := Lib.hid hB
  have Hc := Lib.hid hc
  have H : Hid (n = 4) := Lib.hid (by
    have := HOp.out
    rw [← ht0, hB] at this
    exact this)
  have Ht0 := Lib.hid ht0
  clear hc T0 hB ht0 HOp
  go_enter Try.func47, Try.ntmps47
  go_wp2_with fail
  refine Hc.out.mono ?_
  rintro e w1 ⟨rfl, hT1, ho1⟩
  have HS := Lib.hid (TSt.start 26 (operC Og.Oper.zero) (operC ⟨n, 0, Og.Tk.zero, 0, 0, 0, 0, 0, 0⟩) w w1 s t1 ho1 hT1)
  clear hT1 ho1 Hc
  go_upto_region 3 with (fail)
  refine forget (fun W => TSt 26 (operC Og.Oper.zero) w W w1.heap.size t1 (operC ⟨n, 0, Og.Tk.zero, 0, 0, 0, 0, 0, 0⟩)) HS.out ?_
  clear hw8 HS
  obtain ⟨g, hg⟩ : ∃ g, g = w1.heap.size := ⟨_, rfl⟩
  rw [← hg]
  clear hg
  clear w1
  intro W0 S
  have HS := Lib.hid S
  have k0 : W0.cell? ⟨g, 0, none⟩ = some (.int .u8 (n : Int)) := cell_of_row W0 g 0 _ _ _ S.c
  clear S
  go_upto_block 0 with (fail)
  clear k0
  go_cut [] (fun W => ∃ (t : Cm.Tk) (c : Og.Oper), TSt 26 (operC Og.Oper.zero) w W g t (operC c) ∧ t.l.length ≤ 10000000 ∧ Cm.G t1 (Og.body n t1.l) c t)
  case first =>
    have hh := H.out
    have e1 : ((n : Int) == 1) = false := by rw [beq_eq_false_iff_ne]; omega
    have e2 : ((n : Int) == 2) = false := by rw [beq_eq_false_iff_ne]; omega
    have e3 : ((n : Int) == 3) = false := by rw [beq_eq_false_iff_ne]; omega
    have e4 : ((n : Int) == 4) = true := by rw [beq_iff_eq]; omega
    clear hh
    go_wp2_with fail
    have hc := tkB_any _ _ _ HS.out.t (by omega)
    have hl2 := Cm.len_B t1
    have hv2 := Cm.lt_B t1
    generalize hV2 : Cm.tB t1 = r at hc hl2 hv2
    obtain ⟨v2, t2⟩ := r
    simp only at hc hl2 hv2
    have HV2 := Lib.hid hV2
    clear hV2
    have hw2 : (v2 : Int) % 256 = (v2 : Int) := by omega
    have Hc := Lib.hid hc
    clear hc
    refine Hc.out.mono ?_
    rintro e W2 ⟨rfl, hT, ho⟩
    have S1 := HS.out.call ho hT
    clear hT ho HS Hc
    have kc : W2.cell? ⟨g, 1, none⟩ = some (.int .u8 0) := cell_of_row W2 g 1 _ _ _ S1.c
    have zc := frozen_of_row W2 g 1 _ _ S1.c
    have HS : Hid (TSt 26 (operC Og.Oper.zero) w _ g t2 (operC ⟨n, v2, Og.Tk.zero, 0, 0, 0, 0, 0, 0⟩)) := Lib.hid (S1.put 1 (.int .u8 (v2 : Int)))
    clear S1
    go_wp2_with fail
    go_meet
    exact ⟨t2, ⟨n, v2, Og.Tk.zero, 0, 0, 0, 0, 0, 0⟩, HS.out, by omega, by rw [Og.body4 H.out]; exact (Cm.G.B HV2.out).bind (Cm.G.pure _ _)⟩
  case rest =>
    obtain ⟨t, c, S, hlt4, hG⟩ := hcut
    have hG2 : Cm.G ⟨s.data.toList, true⟩ (Og.parse s.data.toList) c t := by
      have := Og.gparse HB.out hG
      rw [Ht0.out] at this
      exact this
    have hrd := Og.gread hG2
    rename_i hK
    refine hK _ _ ?_
    exact orrest s w _ g c t hrd S
end Go.Proofs.Ytlcgjlganmblpaa
namespace Go.Proofs.Ytlcgjlganmblpaa
open Go.RowKit
set_option linter.unusedVariables false
set_option maxRecDepth 100000 in
set_option maxHeartbeats 8000000 in
theorem refReadOper_5 (s : ByteArray) (w : World) (hs : s.size ≤ 10000000) (HOp : Hid ((Cm.tB ⟨s.data.toList, true⟩).1 ≠ 1 ∧ (Cm.tB ⟨s.data.toList, true⟩).1 ≠ 2 ∧ (Cm.tB ⟨s.data.toList, true⟩).1 ≠ 3 ∧ (Cm.tB ⟨s.data.toList, true⟩).1 ≠ 4)) :
    Calls Try.prog 47 #[.string s] w (RetOp (Wk.oin s.data.toList) w) := by
  rw [← Og.read_oin]
  obtain ⟨t0, ht0⟩ : ∃ t : Cm.Tk, t = ⟨s.data.toList, true⟩ := ⟨_, rfl⟩
  have hl0 : t0.l.length ≤ 10000000 := by rw [ht0, ← Lib.size_eq]; exact hs
  have T0 := taker_new 26 (operC Og.Oper.zero) w s
  rw [← ht0] at T0
  have hc := tkB_any _ _ _ T0 (by omega)
  have hlt := Cm.lt_B t0
  have hl1 := Cm.len_B t0
  generalize hB : Cm.tB t0 = r1 at hc hlt hl1
  obtain ⟨n, t1⟩ := r1
  simp only at hc hlt hl1
  have hw8 : (n : Int) % 256 = (n : Int) := by omega
  have HB := Lib.hid hB
  have Hc := Lib.hid hc
  have H : Hid (n ≠ 1 ∧ n ≠ 2 ∧ n ≠ 3 ∧ n ≠ 4) := Lib.hid (by
    have := HOp.out
    rw [← ht0, hB] at this
    exact this)
  have Ht0 := Lib.hid ht0
  clear hc T0 hB ht0 HOp
  go_enter Try.func47, Try.ntmps47
  go_wp2_with fail
  refine Hc.out.mono ?_
  rintro e w1 ⟨rfl, hT1, ho1⟩
  have HS := Lib.hid (TSt.start 26 (operC Og.Oper.zero) (operC ⟨n, 0, Og.Tk.zero, 0, 0, 0, 0, 0, 0⟩) w w1 s t1 ho1 hT1)
  clear hT1 ho1 Hc
  go_upto_region 3 with (fail)
  refine forget (fun W => TSt 26 (operC Og.Oper.zero) w W w1.heap.size t1 (operC ⟨n, 0, Og.Tk.zero, 0, 0, 0, 0, 0, 0⟩)) HS.out ?_
  clear hw8 HS
  obtain ⟨g, hg⟩ : ∃ g, g = w1.heap.size := ⟨_, rfl⟩
  rw [← hg]
  clear hg
  clear w1
  intro W0 S
  have HS := Lib.hid S
  have k0 : W0.cell? ⟨g, 0, none⟩ = some (.int .u8 (n : Int)) := cell_of_row W0 g 0 _ _ _ S.c
  clear S
  go_upto_block 0 with (fail)
  clear k0
  go_cut [] (fun W => ∃ (t : Cm.Tk) (c : Og.Oper), TSt 26 (operC Og.Oper.zero) w W g t (operC c) ∧ t.l.length ≤ 10000000 ∧ Cm.G t1 (Og.body n t1.l) c t)
  case first =>
    have hh := H.out
    have e1 : ((n : Int) == 1) = false := by rw [beq_eq_false_iff_ne]; omega
    have e2 : ((n : Int) == 2) = false := by rw [beq_eq_false_iff_ne]; omega
    have e3 : ((n : Int) == 3) = false := by rw [beq_eq_false_iff_ne]; omega
    have e4 : ((n : Int) == 4) = false := by rw [beq_eq_false_iff_ne]; omega
    clear hh
    go_wp2_with fail
    have hc := tkB_any _ _ _ HS.out.t (by omega)
    have hl2 := Cm.len_B t1
    have hv2 := Cm.lt_B t1
    generalize hV2 : Cm.tB t1 = r at hc hl2 hv2
    obtain ⟨v2, t2⟩ := r
    simp only at hc hl2 hv2
    have HV2 := Lib.hid hV2
    clear hV2
    have hw2 : (v2 : Int) % 256 = (v2 : Int) := by omega
    have Hc := Lib.hid hc
    clear hc
    refine Hc.out.mono ?_
    rintro e W2 ⟨rfl, hT, ho⟩
    have S1 := HS.out.call ho hT
    clear hT ho HS Hc
    have kc : W2.cell? ⟨g, 15, none⟩ = some (.int .u8 0) := cell_of_row W2 g 15 _ _ _ S1.c
    have zc := frozen_of_row W2 g 15 _ _ S1.c
    have HS : Hid (TSt 26 (operC Og.Oper.zero) w _ g t2 (operC ⟨n, 0, Og.Tk.zero, 0, 0, 0, 0, 0, v2⟩)) := Lib.hid (S1.put 15 (.int .u8 (v2 : Int)))
    clear S1
    go_wp2_with fail
    go_meet
    exact ⟨t2, ⟨n, 0, Og.Tk.zero, 0, 0, 0, 0, 0, v2⟩, HS.out, by omega, by rw [Og.body5 H.out]; exact (Cm.G.B HV2.out).bind (Cm.G.pure _ _)⟩
  case rest =>
    obtain ⟨t, c, S, hlt4, hG⟩ := hcut
    have hG2 : Cm.G ⟨s.data.toList, true⟩ (Og.parse s.data.toList) c t := by
      have := Og.gparse HB.out hG
      rw [Ht0.out] at this
      exact this
    have hrd := Og.gread hG2
    rename_i hK
    refine hK _ _ ?_
    exact orrest s w _ g c t hrd S
end Go.Proofs.Ytlcgjlganmblpaa
