/-
  Layer 11's values: a log in memory.
-/
import Derived.Test.YtlnohjboldenpaaLLgPut
import Derived.Test.YtlnohjboldenpaaLEnRow
import Derived.Test.YtlnohjboldenpaaLSlO
import Derived.Test.YtlnohjboldenpaaLRw
import Derived.Test.YtlnohjboldenpaaLWords
import Derived.Deep.RegionLaw
set_option linter.unusedSimpArgs false
set_option linter.unusedVariables false
namespace Go.Proofs.Ytlnohjboldenpaa
open Go.RowKit
theorem ecL_one (es : List En.E) : ∀ v ∈ ec es, v.oneCell' = true := by
  intro v hv
  unfold ec at hv
  obtain ⟨l, hl, hv⟩ := List.mem_flatten.1 hv
  obtain ⟨e, _, rfl⟩ := List.mem_map.1 hl
  have := (entF e).one
  rw [Array.all_eq_true_iff_forall_mem] at this
  exact this v (by rw [← Array.mem_toList_iff, ec1_toList]; exact hv)
theorem ecL_app (es fs : List En.E) : ec (es ++ fs) = ec es ++ ec fs := by simp [ec]
theorem ecL_1 (e : En.E) : ec [e] = ec1 e := by simp [ec]
theorem ecL_len (es : List En.E) : (ec es).length = es.length * 13 := by rw [ec_length, Nat.mul_comm]
theorem ecL_take (es : List En.E) (k : Nat) : (ec es).take (k * 13) = ec (es.take k) := by
  by_cases h : k ≤ es.length
  · have e1 : es = es.take k ++ es.drop k := (List.take_append_drop k es).symm
    conv => lhs; rw [e1, ecL_app]
    rw [List.take_append_of_le_length (by rw [ecL_len, List.length_take]; omega), List.take_of_length_le (by rw [ecL_len, List.length_take]; omega)]
  · rw [List.take_of_length_le (by rw [ecL_len]; omega), List.take_of_length_le (by omega)]
theorem ecL_drop (es : List En.E) (k : Nat) (h : k ≤ es.length) : (ec es).drop (k * 13) = ec (es.drop k) := by
  have e1 : es = es.take k ++ es.drop k := (List.take_append_drop k es).symm
  conv => lhs; rw [e1, ecL_app]
  rw [List.drop_append_of_le_length (by rw [ecL_len, List.length_take]; omega), List.drop_eq_nil_of_le (by rw [ecL_len, List.length_take]; omega), List.nil_append]
theorem wpList_load_rgL {P : Program} {ops : Array Oper} {Q : Exit → Act → World → Prop} {a : Act} {w : World} {rest : List Oper} {o : Oper} (hw : Region.wanted o (yielded ops a.tmps) = true) (ty : TypeId) (x : Operand) (ho : o.op = .load ty x)
    (g k : Nat) (hx : a.eval x = .pointer (some ⟨g, k, none⟩)) (Y : Array Value) (d : TypeDesc) (hr : w.rangeAt g k Y.toList)
    (hu : P.underlying ty = some d) (hd : d.isRow = true) (hi : (P.info? ty).map (·.size) = some Y.size)
    (h : wpList P ops Q rest (a.put o.dst (.agg Y)) w) : wpList P ops Q (o :: rest) a w :=
  wpList_want hw fun K hK => wp_load_mid ty x ho g k hx Y.toList d hr hu hd (by simpa using hi) (by simpa using hK _ _ h)
theorem EntL.rng {W : World} {b o : Nat} {e : En.E} (h : EntL W b o e) : W.rangeAt b o (entC e).toList := fun j v hv => by
  have hj : j < 13 := (List.getElem?_eq_some_iff.1 hv).1
  have : j = 0 ∨ j = 1 ∨ j = 2 ∨ j = 3 ∨ j = 4 ∨ j = 5 ∨ j = 6 ∨ j = 7 ∨ j = 8 ∨ j = 9 ∨ j = 10 ∨ j = 11 ∨ j = 12 := by omega
  rcases this with rfl | rfl | rfl | rfl | rfl | rfl | rfl | rfl | rfl | rfl | rfl | rfl | rfl
  · injection hv with hv; subst hv; exact h.c0
  · injection hv with hv; subst hv; exact h.c1
  · injection hv with hv; subst hv; exact h.c2
  · injection hv with hv; subst hv; exact h.c3
  · injection hv with hv; subst hv; exact h.c4
  · injection hv with hv; subst hv; exact h.c5
  · injection hv with hv; subst hv; exact h.c6
  · injection hv with hv; subst hv; exact h.c7
  · injection hv with hv; subst hv; exact h.c8
  · injection hv with hv; subst hv; exact h.c9
  · injection hv with hv; subst hv; exact h.c10
  · injection hv with hv; subst hv; exact h.c11
  · injection hv with hv; subst hv; exact h.c12
theorem sizeEntL (e : En.E) : (Try.prog.info? 49).map (·.size) = some (entC e).size := sizeEnt
theorem infoEntL : (Try.prog.info? 49).map (fun i => (i.zero, i.size, i.bytes)) = some (some (.agg (entC En.zero)), 13, 48) := by kernel_rfl
/-- A log's cells. -/
def lgC (l : Lg.L) (v : Value) : Array Value := #[.bool true, .int .u64 (l.idx : Int), .int .u64 (l.trm : Int), .int .u8 (l.mem : Int), v]
theorem sizeLog : (Try.prog.info? 109).map (·.size) = some 5 := by kernel_rfl
/-- Numbers and texts that a log may have. -/
structure LgFit (l : Lg.L) : Prop where
  idx : l.idx < Nm.top
  trm : l.trm < Nm.top
  mem : l.mem < 256
  es : ∀ e ∈ l.es, En.Fits e ∧ e.body.size ≤ 1000
  few : l.es.length ≤ 100000
/-- In the world W the log at block p stands for l, by the blocks S alone. -/
structure LgAt (W : World) (p : Nat) (S : Nat → Prop) (l : Lg.L) : Prop where
  own : ∃ A c, Rw W p (lgC l (.slice A l.es.length c)) 109 ∧ Sl W 13 A l.es.length c (ec l.es) ∧ blk A ≠ some p ∧ ∀ b, blk A = some b → S b
  sp : S p
  lt : ∀ k, S k → k < W.heap.size
  fit : LgFit l
theorem LgAt.stays {W W' : World} {p : Nat} {S : Nat → Prop} {l : Lg.L} (h : LgAt W p S l) (hs : W.heap.size ≤ W'.heap.size) (hk : ∀ k, S k → W'.heap[k]? = W.heap[k]?) : LgAt W' p S l := by
  obtain ⟨A, c, h1, h2, h3, h4⟩ := h.own
  exact ⟨⟨A, c, (hk p h.sp).trans h1, h2.keep fun b hb => hk b (h4 b hb), h3, h4⟩, h.sp, fun k hk => Nat.lt_of_lt_of_le (h.lt k hk) hs, h.fit⟩
theorem LgAt.bel {W W' : World} {p : Nat} {S : Nat → Prop} {l : Lg.L} (h : LgAt W p S l) (hb : Below W.heap.size W W') : LgAt W' p S l := h.stays hb.size fun k hk => hb.block k (h.lt k hk)
theorem lg_cells {W : World} {p : Nat} {l : Lg.L} {v : Value} (h : Rw W p (lgC l v) 109) :
    W.cell? ⟨p, 0, none⟩ = some (.bool true) ∧ W.cell? ⟨p, 1, none⟩ = some (.int .u64 (l.idx : Int)) ∧ W.cell? ⟨p, 2, none⟩ = some (.int .u64 (l.trm : Int)) ∧ W.cell? ⟨p, 3, none⟩ = some (.int .u8 (l.mem : Int)) ∧ W.cell? ⟨p, 4, none⟩ = some v :=
  ⟨h.cell 0 rfl, h.cell 1 rfl, h.cell 2 rfl, h.cell 3 rfl, h.cell 4 rfl⟩
theorem lg_put (l : Lg.L) (v v' : Value) (es : List En.E) : (lgC l v).setIfInBounds 4 v' = lgC { l with es := es } v' := rfl
/-- Only blocks of S may have turned. -/
structure Ks (S : Nat → Prop) (w w' : World) : Prop where
  os : w'.os = w.os
  tape : w'.tape = w.tape
  output : w'.output = w.output
  size : w.heap.size ≤ w'.heap.size
  block : ∀ k, k < w.heap.size → ¬ S k → w'.heap[k]? = w.heap[k]?
section
variable {S T : Nat → Prop} {a b c : World}
theorem Ks.refl (S : Nat → Prop) (w : World) : Ks S w w := ⟨rfl, rfl, rfl, Nat.le_refl _, fun _ _ _ => rfl⟩
theorem Ks.bel (k : Below a.heap.size a b) : Ks S a b := ⟨k.os, k.tape, k.output, k.size, fun i hi _ => k.block i hi⟩
theorem Ks.trans (h : Ks S a b) (k : Ks T b c) (hs : ∀ k, T k → S k ∨ a.heap.size ≤ k) : Ks S a c :=
  ⟨k.os.trans h.os, k.tape.trans h.tape, k.output.trans h.output, Nat.le_trans h.size k.size, fun i hi hn =>
    (k.block i (Nat.lt_of_lt_of_le hi h.size) fun ht => (hs i ht).elim hn (fun hle => absurd hi (Nat.not_lt.2 hle))).trans (h.block i hi hn)⟩
theorem Ks.next (h : Ks S a b) (k : Below b.heap.size b c) : Ks S a c := h.trans (Ks.bel (S := fun _ => False) k) fun _ hk => hk.elim
theorem Ks.below (h : Ks S a b) {w : World} (hw : Below w.heap.size w a) (hs : ∀ k, S k → w.heap.size ≤ k) : Below w.heap.size w b :=
  ⟨h.os.trans hw.os, h.tape.trans hw.tape, h.output.trans hw.output, Nat.le_trans hw.size h.size, fun k hk => (h.block k (Nat.lt_of_lt_of_le hk hw.size) fun hn => absurd hk (Nat.not_lt.2 (hs k hn))).trans (hw.block k hk)⟩
theorem LgAt.ks {p : Nat} {l : Lg.L} (h : LgAt a p S l) (hb : Ks T a b) (hs : ∀ k, S k → ¬ T k) : LgAt b p S l := h.stays hb.size fun k hk => hb.block k (h.lt k hk) (hs k hk)
theorem Ks.lies (hb : Ks T a b) {A : Option Addr} {vs : List Value} (h : Lies a A vs) (hs : ∀ k, blk A = some k → ¬ T k) : Lies b A vs := by
  rcases h with h | ⟨g, off, rfl, hlt, hc⟩
  · exact .inl h
  · exact .inr ⟨g, off, rfl, Nat.lt_of_lt_of_le hlt hb.size, fun i u hu => (World.cell?_of_block (a := ⟨g, off + i, none⟩) (hb.block g hlt (hs g rfl))).trans (hc i u hu)⟩
end
/-- A log has become l, by the blocks that it had, and new ones. -/
structure LNow (w W : World) (p : Nat) (S : Nat → Prop) (l : Lg.L) : Prop where
  at_ : ∃ S', LgAt W p S' l ∧ ∀ k, S' k → S k ∨ w.heap.size ≤ k
  ks : Ks S w W
end Go.Proofs.Ytlnohjboldenpaa
