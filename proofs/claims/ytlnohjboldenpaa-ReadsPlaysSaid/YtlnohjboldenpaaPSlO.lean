/-
  Slices of one's own that may begin in the midst of a block, and may have room: appended to, cut, laid from a row.
-/
import Derived.Test.YtlnohjboldenpaaPWords
import Derived.Test.YtlnohjboldenpaaPDkB
import Derived.Deep.AppendSrc
import Derived.Deep.Upon
set_option linter.unusedSimpArgs false
set_option linter.unusedVariables false
namespace Go.Proofs.Ytlnohjboldenpaa
open Go.RowKit
/-- n elements, their cells xs, and room for c in all: nil, or from some place of a block on. -/
structure Sl (W : World) (size : Nat) (A : Option Addr) (n c : Nat) (xs : List Value) : Prop where
  len : xs.length = n * size
  le : n ≤ c
  max : c ≤ maxLen
  lies : (A = none ∧ c = 0) ∨ ∃ b off, A = some ⟨b, off, none⟩ ∧ b < W.heap.size ∧ (∀ j u, xs[j]? = some u → W.cell? ⟨b, off + j, none⟩ = some u) ∧ ∀ j, j < c * size → (W.cell? ⟨b, off + j, none⟩).isSome = true ∧ W.frozen? ⟨b, off + j, none⟩ = false
/-- The block in which a slice lies. -/
def blk (A : Option Addr) : Option Nat := A.map (·.block)
theorem blk_some (b off : Nat) : blk (some ⟨b, off, none⟩) = some b := rfl
section
variable {W W' : World} {size : Nat} {A : Option Addr} {n c : Nat} {xs : List Value}
theorem Sl.nil (W : World) (size : Nat) : Sl W size none 0 0 [] := ⟨by simp, Nat.le_refl _, Nat.zero_le _, .inl ⟨rfl, rfl⟩⟩
theorem Sl.lt (h : Sl W size A n c xs) {b : Nat} (hb : blk A = some b) : b < W.heap.size := by
  rcases h.lies with ⟨rfl, _⟩ | ⟨b', off, rfl, hlt, _⟩
  · cases hb
  · cases hb; exact hlt
theorem Sl.keep (h : Sl W size A n c xs) (hs : ∀ b, blk A = some b → W'.heap[b]? = W.heap[b]?) : Sl W' size A n c xs := by
  refine ⟨h.len, h.le, h.max, ?_⟩
  rcases h.lies with h0 | ⟨b, off, rfl, hlt, hc, hf⟩
  · exact .inl h0
  · have hb := hs b rfl
    have hlt' : b < W'.heap.size := by
      have e : W.heap[b]? = some W.heap[b] := Array.getElem?_eq_getElem hlt
      rw [e] at hb
      exact (Array.getElem?_eq_some_iff.1 hb).1
    exact .inr ⟨b, off, rfl, hlt', fun j u hu => (World.cell?_of_block (a := ⟨b, off + j, none⟩) hb).trans (hc j u hu), fun j hj => ⟨by rw [World.cell?_of_block (a := ⟨b, off + j, none⟩) hb]; exact (hf j hj).1, (World.frozen?_of_block (a := ⟨b, off + j, none⟩) hb).trans (hf j hj).2⟩⟩
theorem Sl.below (h : Sl W size A n c xs) (hb : Below W.heap.size W W') : Sl W' size A n c xs := h.keep fun b hk => hb.block b (h.lt hk)
theorem Sl.liesV (h : Sl W size A n c xs) : Lies W A xs := by
  rcases h.lies with ⟨rfl, rfl⟩ | ⟨b, off, rfl, hlt, hc, _⟩
  · have := h.len; have := h.le
    exact .inl (List.eq_nil_of_length_eq_zero (by have h1 : n = 0 := by omega
                                                  rw [h.len, h1, Nat.zero_mul]))
  · exact .inr ⟨b, off, rfl, hlt, hc⟩
theorem Sl.ofOwn {B : Nat} {e : TypeId} {v : Value} (h : W.ownsRow B e size v n xs) : ∃ A c, v = .slice A n c ∧ Sl W size A n c xs ∧ (∀ b, blk A = some b → B ≤ b) := by
  rcases h.2 with ⟨h1, h2⟩ | ⟨g, cap, cur, h1, hb, hg, hnc, hcm, hcs, htk⟩
  · refine ⟨none, 0, by rw [h1, h2], ?_, fun b hb => by cases hb⟩
    have h0 : xs = [] := List.eq_nil_of_length_eq_zero (by have := h.1; rw [h2] at this; simpa using this)
    subst h0; subst h2
    exact Sl.nil W size
  · refine ⟨_, cap, h1, ⟨h.1, hnc, hcm, .inr ⟨g, 0, rfl, (Array.getElem?_eq_some_iff.1 hg).1, fun j u hu => ?_, fun j hj => ?_⟩⟩, fun b hb' => by cases hb'; exact hb⟩
    · rw [Nat.zero_add, cell_of_row W g j cur _ _ hg, ← Array.getElem?_toList]
      rw [← htk] at hu
      rw [List.getElem?_take] at hu
      split at hu
      · exact hu
      · cases hu
    · rw [Nat.zero_add]
      exact ⟨by rw [cell_of_row W g j cur _ _ hg, Array.getElem?_eq_getElem (by omega)]; rfl, frozen_of_row W g j cur _ hg⟩
/-- The first ones alone. -/
theorem Sl.take (h : Sl W size A n c xs) (k : Nat) (hk : k ≤ n) : Sl W size A k c (xs.take (k * size)) := by
  have hm : k * size ≤ n * size := Nat.mul_le_mul_right _ hk
  refine ⟨by rw [List.length_take, h.len]; omega, Nat.le_trans hk h.le, h.max, h.lies.imp id ?_⟩
  rintro ⟨b, off, rfl, hlt, hc, hf⟩
  refine ⟨b, off, rfl, hlt, fun j u hu => hc j u ?_, hf⟩
  rw [List.getElem?_take] at hu
  split at hu
  · exact hu
  · cases hu
theorem grownBy_block {w w' : World} {row : Option Nat} (h : w.grownBy w' row) {k : Nat} (hk : k < w.heap.size) (hn : row ≠ some k) : w'.heap[k]? = w.heap[k]? := h.block k hk (fun e => hn e.symm)
theorem grownBy_setCells (w : World) (b o : Nat) (vs : List Value) : w.grownBy (w.setCells b o vs) (some b) := by
  induction vs generalizing o w with
  | nil => exact ⟨rfl, rfl, rfl, Nat.le_refl _, fun _ _ _ => rfl⟩
  | cons v r ih =>
    have h := ih (w.setCell ⟨b, o, none⟩ v) (o + 1)
    rw [World.setCells]
    refine ⟨h.os, h.tape, h.output, Nat.le_trans (by simp) h.size, fun k hk hn => (h.block k (by simpa using hk) hn).trans (heap_setCell_other w ⟨b, o, none⟩ k v (fun e => hn (by rw [e])))⟩
end
section
variable {P : Program}
/-- append. -/
theorem run_app_sl (w : World) (t tx ty e : TypeId) (i : TypeInfo) (z : Value) (size bytes : Nat) (ht : P.underlying t = some (.slice e)) (hi : P.info? e = some i) (hz : i.zero = some z)
    (hsize : i.size = size) (hby : i.bytes = bytes) (hzs : z.cells.size = size) (hsz : 0 < size)
    {A : Option Addr} {n c : Nat} {xs : List Value} (h : Sl w size A n c xs) (x : Value) (m : Nat) (news : List Value) (hs : Src P size tx x m news w)
    (h63 : n + m ≤ maxLen) (hbytes : (n + m) * bytes ≤ 140737488355328) :
    ∃ A' c' w', (Builtin.append_ #[t, tx] ty #[.slice A n c, x]).run P w = .ok (.slice A' (n + m) c') w' ∧ Sl w' size A' (n + m) c' (xs ++ news) ∧ w.grownBy w' (blk A) ∧ (∀ b, blk A' = some b → blk A = some b ∨ w.heap.size ≤ b) := by
  subst hsize
  subst hby
  have hnl := hs.newsLen
  have hxl := h.len
  have hL : (xs ++ news).length = (n + m) * i.size := by rw [List.length_append, hxl, hnl, Nat.add_mul]
  by_cases hroom : n + m ≤ c
  · rcases h.lies with ⟨rfl, rfl⟩ | ⟨b, off, rfl, hlt, hc, hf⟩
    · obtain rfl : n = 0 := by omega
      obtain rfl : m = 0 := by omega
      obtain rfl : news = [] := List.eq_nil_of_length_eq_zero (by simpa using hnl)
      exact ⟨none, 0, w, run_append_nothing (P := P) w t tx ty e i ht hi none 0 0 (Nat.le_refl _) x hs, by simpa using h, ⟨rfl, rfl, rfl, Nat.le_refl _, fun _ _ _ => rfl⟩, fun b hb => .inl hb⟩
    · have hrc : (n + m) * i.size ≤ c * i.size := Nat.mul_le_mul_right _ hroom
      rw [Nat.add_mul] at hrc
      have hsome : ∀ j, j < news.length → (w.cell? ⟨b, off + n * i.size + j, none⟩).isSome = true := fun j hj => by
        rw [Nat.add_assoc]; exact (hf (n * i.size + j) (by omega)).1
      have hrun := run_append_room_src (P := P) w t tx ty e i ht hi b off n c x m news hs hroom hsome (fun j hj => by rw [Nat.add_assoc]; exact (hf (n * i.size + j) (by omega)).2)
      have hg := grownBy_setCells w b (off + n * i.size) news
      refine ⟨_, _, _, hrun, ⟨hL, hroom, h.max, .inr ⟨b, off, rfl, Nat.lt_of_lt_of_le hlt hg.size, fun j u hu => ?_, fun j hj => ⟨?_, (World.frozen?_setCells b _ _ _ _).trans (hf j hj).2⟩⟩⟩, hg, fun b' hb' => .inl hb'⟩
      · by_cases hj : j < xs.length
        · rw [World.cell?_setCells_out b _ _ _ _ (fun _ _ => Or.inl (by show off + j < off + n * i.size; omega))]
          rw [List.getElem?_append_left hj] at hu
          exact hc j u hu
        · rw [List.getElem?_append_right (by omega)] at hu
          have ht' : j - xs.length < news.length := (List.getElem?_eq_some_iff.1 hu).1
          have := World.cell?_setCells_in b news (off + n * i.size) w hsome (j - xs.length) ht'
          rw [show off + n * i.size + (j - xs.length) = off + j by omega] at this
          rw [this, ← List.getElem?_eq_getElem ht']; exact hu
      · by_cases hin : n * i.size ≤ j ∧ j < n * i.size + news.length
        · have := World.cell?_setCells_in b news (off + n * i.size) w hsome (j - n * i.size) (by omega)
          rw [show off + n * i.size + (j - n * i.size) = off + j by omega] at this
          rw [this]; rfl
        · rw [World.cell?_setCells_out b _ _ _ _ (fun _ _ => by show off + j < off + n * i.size ∨ off + n * i.size + news.length ≤ off + j; omega)]
          exact (hf j hj).1
  · have h64 : n + m ≤ 9223372036854775807 := by simp only [maxLen] at h63; omega
    have hold : (Builtin.firstCells i.size n (.slice A n c)).run P w.drew = .ok xs.toArray w.drew := by
      rcases h.lies with ⟨rfl, rfl⟩ | ⟨b, off, rfl, hlt, hc, hf⟩
      · obtain rfl : n = 0 := by have := h.le; omega
        obtain rfl : xs = [] := List.eq_nil_of_length_eq_zero (by simpa using hxl)
        exact run_firstCells_none w.drew i.size 0 0 0
      · exact run_firstCells_some w.drew i.size n ⟨b, off, none⟩ n c xs hxl (fun j u hu => by rw [Addr.add_lit]; exact hc j u hu)
    have hrun := run_append_grow_src (P := P) w t tx ty e i z ht hi hz A n c xs hold x m news hs (by omega) (by omega) (growslice_fits (by omega) hbytes)
    have hge := grownCap_ge w (n + m) c e
    have hcm := grownCap_le_maxLen w (n + m) c e h63
    obtain ⟨cur, hcur⟩ : ∃ cur, cur = (xs ++ news).toArray ++ Builtin.zeroCells z.cells (grownCap w (n + m) c e - (n + m)) := ⟨_, rfl⟩
    rw [← hcur] at hrun
    have hcz : cur.size = grownCap w (n + m) c e * i.size := by
      rw [hcur, Array.size_append, List.size_toArray, hL, size_zeroCells, hzs, ← Nat.add_mul]
      congr 1; omega
    refine ⟨_, _, _, hrun, ⟨hL, hge, hcm, .inr ⟨w.heap.size, 0, rfl, ?_, fun j u hu => ?_, fun j hj => ⟨?_, ?_⟩⟩⟩, ⟨rfl, rfl, rfl, ?_, fun k hk _ => Below.heap_alloc w.drew _ k hk⟩, fun b hb => .inr (by cases hb; exact Nat.le_refl _)⟩
    · show w.heap.size < (w.drew.alloc _).heap.size
      rw [World.size_alloc]; exact Nat.lt_succ_self _
    · have e1 : (w.drew.alloc (.cells cur e)).cell? ⟨w.heap.size, j, none⟩ = _ := World.cell?_alloc_new w.drew _ _ j
      rw [Nat.zero_add, e1, hcur, Array.getElem?_append_left (by rw [List.size_toArray]; exact (List.getElem?_eq_some_iff.1 hu).1), List.getElem?_toArray]
      exact hu
    · have e1 : (w.drew.alloc (.cells cur e)).cell? ⟨w.heap.size, j, none⟩ = _ := World.cell?_alloc_new w.drew _ _ j
      rw [Nat.zero_add, e1, Array.getElem?_eq_getElem (by omega)]; rfl
    · rw [Nat.zero_add]; exact World.frozen?_alloc_new w.drew _ _ j
    · rw [World.size_alloc]; exact Nat.le_succ _
theorem wpList_app_sl {w : World} {ops : Array Oper} {rest : List Oper} {o : Oper} {a : Act} {Q : Exit → Act → World → Prop} (hgd : o.guard = none) (s x : Operand) (t tx : TypeId)
    (ho : o.op = .call { callee := .builtin .append, args := #[s, x], argTypes := #[t, tx] })
    (e : TypeId) (i : TypeInfo) (z : Value) (size bytes : Nat) (ht : P.underlying t = some (.slice e)) (hi : P.info? e = some i) (hz : i.zero = some z)
    (hsize : i.size = size) (hby : i.bytes = bytes) (hzs : z.cells.size = size) (hsz : 0 < size)
    {A : Option Addr} {n c : Nat} {xs : List Value} (hv : a.eval s = .slice A n c) (h : Sl w size A n c xs) (xv : Value) (m : Nat) (news : List Value) (hx : a.eval x = xv) (hs : Src P size tx xv m news w)
    (h63 : n + m ≤ maxLen) (hbytes : (n + m) * bytes ≤ 140737488355328)
    (hK : ∀ A' c' w', Sl w' size A' (n + m) c' (xs ++ news) → w.grownBy w' (blk A) → (∀ b, blk A' = some b → blk A = some b ∨ w.heap.size ≤ b) → wpList P ops Q rest (a.put o.dst (.slice A' (n + m) c')) w') : wpList P ops Q (o :: rest) a w := by
  refine wpList_plain hgd fun K hK' => ?_
  obtain ⟨A', c', w', hr, h2, h3, h4⟩ := run_app_sl (P := P) w t tx o.type e i z size bytes ht hi hz hsize hby hzs hsz h xv m news hs h63 hbytes
  unfold Oper.wp execOp
  simp only [ho, resolve, invoke, builtin, Sem.run_bind, Sem.run_pure, Result.andThen_ok, List.map_toArray, List.map_cons, List.map_nil, hv, hx, hr]
  exact hK' _ _ (hK A' c' w' h2 h3 h4)
/-- A slice as a source. -/
theorem src_sl {w : World} {size : Nat} {tx e' : TypeId} (hk : P.underlying tx = some (.slice e')) {A : Option Addr} {m c : Nat} {news : List Value} (hl : news.length = m * size) (hA : Lies w A news) (hn : A = none → m = 0) (h1 : ∀ u ∈ news, u.oneCell' = true) :
    Src P size tx (.slice A m c) m news w := by
  cases A with
  | none =>
    obtain rfl := hn rfl
    obtain rfl : news = [] := List.eq_nil_of_length_eq_zero (by simpa using hl)
    exact Src.ofNil w hk c
  | some ad =>
    refine Src.ofSlice w hk ad m c news hl (fun j u hu => ?_) h1
    rcases hA with h | ⟨b, off, he, _, hc⟩
    · rw [h] at hu; cases hu
    · injection he with he
      subst he
      rw [Addr.add_lit]
      exact hc j u hu
/-- clear of a slice. -/
theorem run_clear_sl (w : World) (t e ty : TypeId) (z : Value) (ht : P.underlying t = some (.slice e)) (hv : ∀ w, (zeroValue e).run P w = .ok z w) (b o n c : Nat) (h1 : ∀ u ∈ z.cells, u.oneCell' = true)
    (hc : ∀ j, j < n * z.cells.size → (w.cell? ⟨b, o + j, none⟩).isSome = true ∧ w.frozen? ⟨b, o + j, none⟩ = false) :
    ∃ vs, vs.length = n * z.cells.size ∧ (Builtin.clear_ #[t] ty #[.slice (some ⟨b, o, none⟩) n c]).run P w = .ok (.tuple #[]) (w.setCells b o vs) := by
  cases n with
  | zero => exact ⟨[], by simp, by simp [Builtin.clear_, run_underlying ht, World.setCells]⟩
  | succ m =>
    have hl : (Builtin.zeroCells z.cells (m + 1)).toList.length = (m + 1) * z.cells.size := by rw [Array.length_toList, size_zeroCells]
    refine ⟨(Builtin.zeroCells z.cells (m + 1)).toList, hl, ?_⟩
    have hst := run_storeCells_cells (P := P) b o (Builtin.zeroCells z.cells (m + 1)).toList 0 w (fun j hj => by rw [Nat.add_zero]; exact (hc j (by omega)).1) (fun j hj => by rw [Nat.add_zero]; exact (hc j (by omega)).2) (fun u hu => by
      unfold Builtin.zeroCells at hu
      rw [Array.mem_toList_iff] at hu
      obtain ⟨k, hk, rfl⟩ := Array.mem_map.1 hu
      have hk2 : k < (m + 1) * z.cells.size := by simpa using hk
      have hp : 0 < z.cells.size := by
        rcases Nat.eq_zero_or_pos z.cells.size with h0 | h0
        · rw [h0] at hk2; simp at hk2
        · exact h0
      have hlt := Nat.mod_lt k hp
      rw [getElem!_pos z.cells (k % z.cells.size) hlt]
      exact h1 _ (Array.getElem_mem hlt))
    simp only [Nat.add_zero] at hst
    simp [Builtin.clear_, run_underlying ht, hv, hst]
end
end Go.Proofs.Ytlnohjboldenpaa
