/-
  append to a row of one's own, and where the new row lies: where the old one lay, or in a new block.
  strings.Builder as the first field of cmd.writer: copyCheck, WriteByte, WriteString, String walked; what a writer's memory is.
  strings.Builder's WriteByte, WriteString and String, at a writer's.
-/
import Derived.Test.YtlcgjlganmblpaaRWords
import Derived.Test.YtlcgjlganmblpaaRWk
import Derived.Test.YtlcgjlganmblpaaRNum
import Derived.Lib.AppendStr
import Derived.Lib.Builder
import Derived.Lib.UnsafeStr
set_option linter.unusedSimpArgs false
set_option linter.unusedVariables false
namespace Go.Proofs.Ytlcgjlganmblpaa
open Go.RowKit
theorem run_app_str {P : Program} (w : World) (base : Nat) (t u ty e : TypeId) (i : TypeInfo) (ht : P.underlying t = some (.slice e)) (hu : P.underlying u = some .string) (hi : P.info? e = some i) (hz : i.zero = some (.int .u8 0))
    (hsize : i.size = 1) (hby : i.bytes = 1) (v : Value) (n : Nat) (xs : List Value) (hown : w.ownsRow base e 1 v n xs) (s : ByteArray)
    (h63 : n + s.size ≤ maxLen) (hbytes : n + s.size ≤ 140737488355328) (hbase : base ≤ w.heap.size) :
    ∃ v' w', (Builtin.append_ #[t, u] ty #[v, .string s]).run P w = .ok v' w' ∧ w'.ownsRow base e 1 v' (n + s.size) (xs ++ Lib.strCells s) ∧ w.grownBy w' v.ownBlock ∧
      (∀ k, v'.ownBlock = some k → v.ownBlock = some k ∨ w.heap.size ≤ k) := by
  obtain ⟨v', w', hr, ho, hg, _⟩ := Lib.run_append_own_string (P := P) w base t u ty e i ht hu hi hz hsize hby v n xs hown s h63 hbytes hbase
  refine ⟨v', w', hr, ho, hg, fun k hk => ?_⟩
  have hxl : xs.length = n := by simpa using hown.1
  rcases hown.2 with ⟨rfl, rfl⟩ | ⟨g, cap, cur, rfl, hbg, hgr, hnc, hcm, hcs, htake⟩
  · have hx : xs = [] := List.eq_nil_of_length_eq_zero hxl
    subst hx
    obtain ⟨v2, w2, hr2, ho2, _⟩ := Lib.run_append_own_string (P := P) w w.heap.size t u ty e i ht hu hi hz hsize hby (.slice none 0 0) 0 [] (World.ownsRow_nil _ _ _ _) s h63 hbytes (Nat.le_refl _)
    rw [hr] at hr2
    injection hr2 with e1 e2
    subst e1
    rcases ho2.2 with ⟨hv, _⟩ | ⟨g, cap, cur, hv, hb, _⟩
    · rw [hv] at hk; cases hk
    · rw [hv] at hk; cases hk; exact .inr hb
  · by_cases hroom : n + s.size ≤ cap
    · have hcs' : cur.size = cap := by simpa using hcs
      have hr2 := Lib.run_append_room_string (P := P) w t u ty e i ht hu hi hsize g n cap cur hgr s hroom (by omega)
      rw [hr] at hr2
      injection hr2 with e1 e2
      subst e1
      exact .inl hk
    · have holds : ∀ j u, xs[j]? = some u → w.cell? ((⟨g, 0, none⟩ : Addr).add j) = some u := hown.cells (g := g) rfl
      have hr2 := Lib.run_append_grow_string (P := P) w t u ty e i (.int .u8 0) ht hu hi hz ⟨g, 0, none⟩ n cap xs (by rw [hsize]; simpa using hxl) holds s (by omega) (by omega) (by rw [hby]; exact growslice_fits (by omega) (by omega))
      rw [hr] at hr2
      injection hr2 with e1 e2
      subst e1
      cases hk
      exact .inr (Nat.le_refl _)
theorem wpList_app_str {P : Program} {w : World} {ops : Array Oper} {rest : List Oper} {o : Oper} {a : Act} {Q : Exit → Act → World → Prop} (hgd : o.guard = none) (sl x : Operand) (t u : TypeId)
    (ho : o.op = .call { callee := .builtin .append, args := #[sl, x], argTypes := #[t, u] })
    (base : Nat) (e : TypeId) (i : TypeInfo) (ht : P.underlying t = some (.slice e)) (hu : P.underlying u = some .string) (hi : P.info? e = some i) (hz : i.zero = some (.int .u8 0))
    (hsize : i.size = 1) (hby : i.bytes = 1)
    (v : Value) (n : Nat) (xs : List Value) (hs : a.eval sl = v) (hown : w.ownsRow base e 1 v n xs) (s : ByteArray) (hx : a.eval x = .string s)
    (h63 : n + s.size ≤ maxLen) (hbytes : n + s.size ≤ 140737488355328) (hbase : base ≤ w.heap.size)
    (h : ∀ v' w', w'.ownsRow base e 1 v' (n + s.size) (xs ++ Lib.strCells s) → w.grownBy w' v.ownBlock → (∀ k, v'.ownBlock = some k → v.ownBlock = some k ∨ w.heap.size ≤ k) → wpList P ops Q rest (a.put o.dst v') w') : wpList P ops Q (o :: rest) a w := by
  refine wpList_plain hgd fun K hK => ?_
  obtain ⟨v', w', hr, h2, h3, h4⟩ := run_app_str (P := P) w base t u o.type e i ht hu hi hz hsize hby v n xs hown s h63 hbytes hbase
  unfold Oper.wp execOp
  simp only [ho, resolve, invoke, builtin, Sem.run_bind, Sem.run_pure, Result.andThen_ok, List.map_toArray, List.map_cons, List.map_nil, hs, hx, hr]
  exact hK _ _ (h v' w' h2 h3 h4)
theorem run_app_own {P : Program} (w : World) (base : Nat) (t ty e : TypeId) (i : TypeInfo) (z : Value) (size bytes : Nat) (ht : P.underlying t = some (.slice e)) (hi : P.info? e = some i) (hz : i.zero = some z)
    (hsize : i.size = size) (hby : i.bytes = bytes) (hzs : z.cells.size = size) (hsz : 0 < size)
    (v : Value) (n : Nat) (xs : List Value) (hown : w.ownsRow base e size v n xs)
    (a : Addr) (m c : Nat) (news : List Value) (hl : news.length = m * size) (hnews : ∀ j u, news[j]? = some u → w.cell? (a.add j) = some u) (h1 : ∀ u ∈ news, u.oneCell' = true)
    (h63 : n + m ≤ maxLen) (hbytes : (n + m) * bytes ≤ 140737488355328) (hbase : base ≤ w.heap.size) :
    ∃ v' w', (Builtin.append_ #[t, t] ty #[v, .slice (some a) m c]).run P w = .ok v' w' ∧ w'.ownsRow base e size v' (n + m) (xs ++ news) ∧ w.grownBy w' v.ownBlock ∧
      (∀ k, v'.ownBlock = some k → v.ownBlock = some k ∨ w.heap.size ≤ k) := by
  obtain ⟨v', w', hr, ho, hg, _⟩ := run_append_own (P := P) w base t ty e i z size bytes ht hi hz hsize hby hzs hsz v n xs hown a m c news hl hnews h1 h63 hbytes hbase
  refine ⟨v', w', hr, ho, hg, fun k hk => ?_⟩
  rcases hown.2 with ⟨rfl, rfl⟩ | ⟨g, cap, cur, rfl, hbg, hgr, hnc, hcm, hcs, htake⟩
  · have hx : xs = [] := List.eq_nil_of_length_eq_zero (by simpa using hown.1)
    subst hx
    obtain ⟨v2, w2, hr2, ho2, _⟩ := run_append_own (P := P) w w.heap.size t ty e i z size bytes ht hi hz hsize hby hzs hsz (.slice none 0 0) 0 [] (World.ownsRow_nil _ _ _ _) a m c news hl hnews h1 h63 hbytes (Nat.le_refl _)
    rw [hr] at hr2
    injection hr2 with e1 e2
    subst e1
    rcases ho2.2 with ⟨hv, _⟩ | ⟨g, cap, cur, hv, hb, _⟩
    · rw [hv] at hk; cases hk
    · rw [hv] at hk; cases hk; exact .inr hb
  · subst hsize
    subst hby
    by_cases hroom : n + m ≤ cap
    · have hfit : n * i.size + news.length ≤ cur.size := by rw [hl, hcs, ← Nat.add_mul]; exact Nat.mul_le_mul_right _ hroom
      have hr2 := run_append_room (P := P) w t ty e i ht hi g n cap cur hgr a m c news hl hnews h1 hroom hfit
      rw [hr] at hr2
      injection hr2 with e1 e2
      subst e1
      exact .inl hk
    · have holds : ∀ j u, xs[j]? = some u → w.cell? ((⟨g, 0, none⟩ : Addr).add j) = some u := hown.cells (g := g) rfl
      have h64 : n + m ≤ 9223372036854775807 := by simp only [maxLen] at h63; omega
      have hr2 := run_append_grow (P := P) w t ty e i z ht hi hz ⟨g, 0, none⟩ n cap xs hown.1 holds a m c news hl hnews (by omega) (by omega) (growslice_fits (by omega) hbytes)
      rw [hr] at hr2
      injection hr2 with e1 e2
      subst e1
      cases hk
      exact .inr (Nat.le_refl _)
theorem wpList_app_own {P : Program} {w : World} {ops : Array Oper} {rest : List Oper} {o : Oper} {a : Act} {Q : Exit → Act → World → Prop} (hgd : o.guard = none) (s x : Operand) (t : TypeId)
    (ho : o.op = .call { callee := .builtin .append, args := #[s, x], argTypes := #[t, t] })
    (base : Nat) (e : TypeId) (i : TypeInfo) (z : Value) (size bytes : Nat) (ht : P.underlying t = some (.slice e)) (hi : P.info? e = some i) (hz : i.zero = some z)
    (hsize : i.size = size) (hby : i.bytes = bytes) (hzs : z.cells.size = size) (hsz : 0 < size)
    (v : Value) (n : Nat) (xs : List Value) (hs : a.eval s = v) (hown : w.ownsRow base e size v n xs)
    (ad : Addr) (m c : Nat) (news : List Value) (hx : a.eval x = .slice (some ad) m c) (hl : news.length = m * size) (hnews : ∀ j u, news[j]? = some u → w.cell? (ad.add j) = some u) (h1 : ∀ u ∈ news, u.oneCell' = true)
    (h63 : n + m ≤ maxLen) (hbytes : (n + m) * bytes ≤ 140737488355328) (hbase : base ≤ w.heap.size)
    (h : ∀ v' w', w'.ownsRow base e size v' (n + m) (xs ++ news) → w.grownBy w' v.ownBlock → (∀ k, v'.ownBlock = some k → v.ownBlock = some k ∨ w.heap.size ≤ k) → wpList P ops Q rest (a.put o.dst v') w') : wpList P ops Q (o :: rest) a w := by
  refine wpList_plain hgd fun K hK => ?_
  obtain ⟨v', w', hr, h2, h3, h4⟩ := run_app_own (P := P) w base t o.type e i z size bytes ht hi hz hsize hby hzs hsz v n xs hown ad m c news hl hnews h1 h63 hbytes hbase
  unfold Oper.wp execOp
  simp only [ho, resolve, invoke, builtin, Sem.run_bind, Sem.run_pure, Result.andThen_ok, List.map_toArray, List.map_cons, List.map_nil, hs, hx, hr]
  exact hK _ _ (h v' w' h2 h3 h4)
end Go.Proofs.Ytlcgjlganmblpaa
namespace Go.Proofs.Ytlcgjlganmblpaa
open Go.RowKit

/-- A writer in block g: its builder's buffer is a row of its own, from block B on. -/
structure WrP (B : Nat) (W : World) (g : Nat) (p v : Value) (s : Wk.St) : Prop where
  hp : p = .pointer none ∨ p = .pointer (some ⟨g, 0, none⟩)
  row : W.heap[g]? = some (.cells #[p, v, .bool s.bad] 100 (0, 0))
  own : W.ownsRow B 5 1 v s.l.length (bc s.l)
  lo : B ≤ g
def WrAt (B : Nat) (W : World) (g : Nat) (o : Option Nat) (s : Wk.St) : Prop := ∃ p v, WrP B W g p v s ∧ o = v.ownBlock
theorem WrP.ne {B : Nat} {W : World} {g : Nat} {p v : Value} {s : Wk.St} (h : WrP B W g p v s) {k : Nat} {cs : Array Value} {t : TypeId} {fr : Nat × Nat} (hk : W.heap[k]? = some (.cells cs t fr)) (ht : t ≠ 5) : v.ownBlock ≠ some k := by
  rcases h.own.2 with ⟨hv, _⟩ | ⟨q, cap, cur, hv, _, hq, _⟩
  · rw [hv]; simp [Value.ownBlock]
  · rw [hv]; intro e; cases e; rw [hk] at hq; injection hq with hq; injection hq with _ hq _; exact ht hq
theorem WrP.lt {B : Nat} {W : World} {g : Nat} {p v : Value} {s : Wk.St} (h : WrP B W g p v s) : g < W.heap.size := (Array.getElem?_eq_some_iff.1 h.row).1
theorem WrP.sep {B : Nat} {W : World} {g : Nat} {p v : Value} {s : Wk.St} (h : WrP B W g p v s) : v.ownBlock ≠ some g := h.ne h.row (by decide)
theorem WrP.bel {B : Nat} {W W' : World} {g : Nat} {p v : Value} {s : Wk.St} (h : WrP B W g p v s) (hb : Below W.heap.size W W') : WrP B W' g p v s :=
  ⟨h.hp, (hb.block g h.lt).trans h.row, own_by h.own fun k e => hb.block k (h.own.lt k e).2, h.lo⟩
theorem sizeBld : (Try.prog.info? 98).map (·.size) = some 2 := by kernel_rfl
theorem liesBld : liesAt Try.prog Try.prog.depth 100 (3 / Try.prog.cellsOf 100) 0 98 1 = true := by kernel_rfl
theorem cellsByte : Try.prog.cellsOf 5 = 1 := by kernel_rfl
theorem WrP.c0 {B : Nat} {W : World} {g : Nat} {p v : Value} {s : Wk.St} (h : WrP B W g p v s) : W.cell? ⟨g, 0, none⟩ = some p := cell_of_row W g 0 _ _ _ h.row
theorem WrP.c1 {B : Nat} {W : World} {g : Nat} {p v : Value} {s : Wk.St} (h : WrP B W g p v s) : W.cell? ⟨g, 1, none⟩ = some v := cell_of_row W g 1 _ _ _ h.row
theorem WrP.c2 {B : Nat} {W : World} {g : Nat} {p v : Value} {s : Wk.St} (h : WrP B W g p v s) : W.cell? ⟨g, 2, none⟩ = some (.bool s.bad) := cell_of_row W g 2 _ _ _ h.row
theorem WrP.fz {B : Nat} {W : World} {g : Nat} {p v : Value} {s : Wk.St} (h : WrP B W g p v s) (i : Nat) : W.frozen? ⟨g, i, none⟩ = false := frozen_of_row W g i _ _ h.row
set_option maxHeartbeats 1000000 in
set_option maxRecDepth 100000 in
theorem bcheck_any (B : Nat) (W : World) (g : Nat) (p v : Value) (s : Wk.St) (h : WrP B W g p v s) :
    Calls Try.prog 112 #[.pointer (some ⟨g, 0, none⟩)] W fun e w' => e = .returned (.tuple #[]) ∧ WrP B w' g (.pointer (some ⟨g, 0, none⟩)) v s ∧ ∀ o, Kept g o o W w' := by
  obtain ⟨j, hj, hjs⟩ := Option.map_eq_some_iff.1 sizeBld
  have h0 := h.c0
  have hsh : W.shape? g = some (100, 3) := by simp [World.shape?, h.row]
  have hfz := h.fz 0
  have H := Lib.hid h
  rcases h.hp with rfl | rfl
  · clear h
    go_enter Try.func112, Try.ntmps112
    go_wp2
    rw [Lib.run_to_unsafe W ⟨g, 0, none⟩ Try.underlying96 Try.underlying156 hj (by rw [hjs]; decide) hsh (Nat.zero_lt_succ 2)]
    simp only [Result.andThen]
    rw [Oper.upon_value]
    go_wp2
    rw [run_callFunc_extern Try.func113 (by kernel_rfl) (by kernel_rfl) (by kernel_rfl) (e := Extern.AbiNoEscape.same) (by kernel_rfl)]
    rw [Lib.run_noEscape]
    simp only [Result.andThen]
    rw [Oper.upon_value]
    go_wp2
    rw [Lib.run_from_unsafe W ⟨g, 0, none⟩ Try.underlying156 Try.underlying96 hj hsh liesBld]
    simp only [Result.andThen]
    rw [Oper.upon_value]
    go_wp2
    go_end0
    have h := H.out
    refine ⟨rfl, ⟨.inr rfl, heap_setCell_same W g 0 _ _ _ h.row, own_by h.own fun k e => Below.heap_setCell _ _ _ _ (by simp; intro h2; exact h.sep (by rw [e, h2])), h.lo⟩, fun o => (Kept.refl _ _ _).setg 0 _⟩
  · clear h
    go_enter Try.func112, Try.ntmps112
    go_wp2
    rw [Lib.run_neq_ptr_same W _ Try.underlying96 hj]
    go_wp2
    go_end0
    exact ⟨rfl, H.out, fun _ => Kept.refl _ _ _⟩
theorem Kept.grownO {g : Nat} {o o' : Option Nat} {a b c : World} {row : Option Nat} (h : Kept g o o' a b) (k : b.grownBy c row) (hr : ∀ k, row = some k → o = some k ∨ a.heap.size ≤ k) : Kept g o o' a c :=
  ⟨k.os.trans h.os, k.tape.trans h.tape, k.output.trans h.output, Nat.le_trans h.size k.size,
   fun i hi hg ho => (k.block i (Nat.lt_of_lt_of_le hi h.size) (fun e => by rcases hr i e.symm with e2 | e2; (exact ho e2); omega)).trans (h.block i hi hg ho), h.new⟩
/-- Behind an append to its buffer, and the store of that. -/
theorem WrP.grow {B : Nat} {W1 W2 : World} {g : Nat} {v v' : Value} {s : Wk.St} {l : List UInt8} (h : WrP B W1 g (.pointer (some ⟨g, 0, none⟩)) v s) (hg : W1.grownBy W2 v.ownBlock) (ho : W2.ownsRow B 5 1 v' (s.l ++ l).length (bc (s.l ++ l))) (hn : ∀ k, v'.ownBlock = some k → v.ownBlock = some k ∨ W1.heap.size ≤ k) :
    WrP B (W2.setCell ⟨g, 1, none⟩ v') g (.pointer (some ⟨g, 0, none⟩)) v' ⟨s.l ++ l, s.bad⟩ ∧ Kept g v.ownBlock v'.ownBlock W1 (W2.setCell ⟨g, 1, none⟩ v') := by
  have hr : W2.heap[g]? = _ := (hg.block g h.lt (fun e => h.sep e.symm)).trans h.row
  have hs : v'.ownBlock ≠ some g := fun e => by rcases hn g e with e2 | e2; (exact h.sep e2); have := h.lt; omega
  refine ⟨⟨.inr rfl, heap_setCell_same W2 g 1 _ _ _ hr, own_by ho fun k e => Below.heap_setCell _ _ _ _ (by simp; intro h2; exact hs (by rw [e, h2])), h.lo⟩, ?_⟩
  have k0 : Kept g v.ownBlock v'.ownBlock W1 W1 := ⟨rfl, rfl, rfl, Nat.le_refl _, fun _ _ _ _ => rfl, hn⟩
  exact (k0.grownO hg (fun k e => .inl e)).setg 1 _
end Go.Proofs.Ytlcgjlganmblpaa
namespace Go.Proofs.Ytlcgjlganmblpaa
open Go.RowKit
theorem grown_p {W1 W2 : World} {g : Nat} {v : Value} {cs : Array Value} {t : TypeId} (hr : W1.heap[g]? = some (.cells cs t (0, 0))) (hg : W1.grownBy W2 v.ownBlock) (hs : v.ownBlock ≠ some g) : W2.heap[g]? = some (.cells cs t (0, 0)) :=
  (hg.block g (Array.getElem?_eq_some_iff.1 hr).1 (fun e => hs e.symm)).trans hr
theorem WrP.alloc {B : Nat} {W : World} {g : Nat} {p v : Value} {s : Wk.St} (h : WrP B W g p v s) (x : Obj) : WrP B (W.alloc x) g p v s := h.bel (bnew (Below.refl _ _) _)
set_option maxHeartbeats 2000000 in
set_option maxRecDepth 100000 in
theorem bbyte_any (B : Nat) (W : World) (g : Nat) (o : Option Nat) (s : Wk.St) (c : Nat) (h : WrAt B W g o s) (hl : s.l.length ≤ 1000000000) (hc : c < 256) :
    Calls Try.prog 109 #[.pointer (some ⟨g, 0, none⟩), .int .u8 (c : Int)] W fun e w' => e = .returned .nilIface ∧ ∃ o', WrAt B w' g o' ⟨s.l ++ [Nm.b8 c], s.bad⟩ ∧ Kept g o o' W w' := by
  obtain ⟨p, v, hP, rfl⟩ := h
  obtain ⟨i0, hi, hz0, hz1, hz2⟩ := info_parts Try.infoByte
  have Hc := Lib.hid (bcheck_any B W g p v s hP)
  clear hP
  go_enter Try.func109, Try.ntmps109
  go_wp2_with fail
  refine Hc.out.mono ?_
  rintro e w1 ⟨rfl, h1, hk1⟩
  have c0 := h1.c0
  have c1 := h1.c1
  have hown := h1.own
  have hlo := h1.lo
  have hlt := h1.lt
  have H1 := Lib.hid h1
  have HK1 := Lib.hid hk1
  clear h1 hk1 Hc
  go_wp2_with (at_builtin; refine wpList_app_own rfl (.tmp 11) (.tmp 13) 60 rfl B 5 i0 (.int .u8 0) 1 1 Try.underlying60 hi hz0 hz1 hz2 rfl (by decide) v _ _ rfl (World.ownsRow.alloc hown _) ⟨w1.heap.size, 0, none⟩ 1 1 [.int .u8 (c : Int)] rfl rfl (news_at w1 _ _) (fun u hu => by simp at hu; subst hu; rfl) (by simp only [maxLen]; omega) (by omega) (by simp; omega) ?_)
  intro v' w2 ho2 hg2 hn2
  have H1a := H1.out.alloc (.cells #[.int .u8 (c : Int)] 5)
  have hr2 := grown_p H1a.row hg2 H1a.sep
  have d0 : w2.cell? ⟨g, 0, none⟩ = some (.pointer (some ⟨g, 0, none⟩)) := cell_of_row w2 g 0 _ _ _ hr2
  have d1 : w2.cell? ⟨g, 1, none⟩ = some v := cell_of_row w2 g 1 _ _ _ hr2
  have f1 := frozen_of_row w2 g 1 _ _ hr2
  have G := H1a.grow (l := [Nm.b8 c]) hg2 (by rw [bc_append, List.length_append]; simpa [bc, Nm.b8_toNat c hc] using ho2) (fun k e => (hn2 k e).imp_right (fun e => by simpa using e))
  have HG := Lib.hid G
  obtain ⟨q, n', cap, rfl⟩ : ∃ ao n' cap, v' = .slice ao n' cap := by
    rcases ho2.2 with ⟨hv, _⟩ | ⟨g, cap, cur, hv, _⟩
    · exact ⟨_, _, _, hv⟩
    · exact ⟨_, _, _, hv⟩
  clear G ho2 hg2 hn2 hr2 H1a
  go_wp2_with fail
  go_ret
  exact ⟨rfl, _, ⟨_, _, HG.out.1, rfl⟩, (((HK1.out _).alloc _)).trans HG.out.2⟩
set_option maxHeartbeats 2000000 in
set_option maxRecDepth 100000 in
theorem bstr_any (B : Nat) (W : World) (g : Nat) (o : Option Nat) (s : Wk.St) (x : ByteArray) (h : WrAt B W g o s) (hl : s.l.length ≤ 1000000000) (hx : x.size ≤ 1000000000) :
    Calls Try.prog 108 #[.pointer (some ⟨g, 0, none⟩), .string x] W fun e w' => e = .returned (.tuple #[.int .i64 (x.size : Int), .nilIface]) ∧ ∃ o', WrAt B w' g o' ⟨s.l ++ x.data.toList, s.bad⟩ ∧ Kept g o o' W w' := by
  obtain ⟨p, v, hP, rfl⟩ := h
  obtain ⟨i0, hi, hz0, hz1, hz2⟩ := info_parts Try.infoByte
  have Hc := Lib.hid (bcheck_any B W g p v s hP)
  clear hP
  go_enter Try.func108, Try.ntmps108
  go_wp2_with fail
  refine Hc.out.mono ?_
  rintro e w1 ⟨rfl, h1, hk1⟩
  have c0 := h1.c0
  have c1 := h1.c1
  have hown := h1.own
  have hlo := h1.lo
  have hlt := h1.lt
  have H1 := Lib.hid h1
  have HK1 := Lib.hid hk1
  clear h1 hk1 Hc
  go_wp2_with (at_builtin; refine wpList_app_str rfl (.tmp 12) (.tmp 13) 60 9 rfl B 5 i0 Try.underlying60 Try.underlying9 hi hz0 hz1 hz2 v _ _ rfl hown x rfl (by simp only [maxLen]; omega) (by omega) (by omega) ?_)
  intro v' w2 ho2 hg2 hn2
  have H1a := H1.out
  have hr2 := grown_p H1a.row hg2 H1a.sep
  have d0 : w2.cell? ⟨g, 0, none⟩ = some (.pointer (some ⟨g, 0, none⟩)) := cell_of_row w2 g 0 _ _ _ hr2
  have d1 : w2.cell? ⟨g, 1, none⟩ = some v := cell_of_row w2 g 1 _ _ _ hr2
  have f1 := frozen_of_row w2 g 1 _ _ hr2
  have G := H1a.grow (l := x.data.toList) hg2 (by
    rw [bc_append, List.length_append]
    have e : x.data.toList.length = x.size := (Lib.size_eq x).symm
    rw [e]; exact ho2) hn2
  have HG := Lib.hid G
  obtain ⟨q, n', cap, rfl⟩ : ∃ ao n' cap, v' = .slice ao n' cap := by
    rcases ho2.2 with ⟨hv, _⟩ | ⟨g, cap, cur, hv, _⟩
    · exact ⟨_, _, _, hv⟩
    · exact ⟨_, _, _, hv⟩
  clear G ho2 hg2 hn2 hr2 H1a
  go_wp2_with fail
  go_ret2
  exact ⟨rfl, _, ⟨_, _, HG.out.1, rfl⟩, (HK1.out _).trans HG.out.2⟩
theorem bcells (l : List UInt8) : bc l = Lib.byteCells l := by simp [bc, Lib.byteCells]
set_option maxHeartbeats 1000000 in
set_option maxRecDepth 100000 in
theorem bstring_any (B : Nat) (W : World) (g : Nat) (o : Option Nat) (s : Wk.St) (h : WrAt B W g o s) (h0 : s.l ≠ []) :
    Calls Try.prog 79 #[.pointer (some ⟨g, 0, none⟩)] W fun e w' => e = .returned (.string ⟨s.l.toArray⟩) ∧ Below B W w' := by
  obtain ⟨p, v, hP, rfl⟩ := h
  have hown := hP.own
  obtain ⟨l, bad⟩ := s
  simp only at hown h0 ⊢
  have hl0 : l.length ≠ 0 := by simpa using h0
  rw [bcells] at hown
  obtain ⟨q, cap, cur, rfl, hbg, hg, hnc, hcm, hcs, htake⟩ : ∃ q cap cur, v = .slice (some ⟨q, 0, none⟩) l.length cap ∧ B ≤ q ∧ W.heap[q]? = some (.cells cur 5 (0, 0)) ∧ l.length ≤ cap ∧ cap ≤ maxLen ∧ cur.size = cap * 1 ∧ cur.toList.take (l.length * 1) = Lib.byteCells l := by
    rcases hown.2 with ⟨_, hz⟩ | ⟨g, cap, cur, hv, r⟩
    · exact absurd hz hl0
    · exact ⟨g, cap, cur, hv, r⟩
  have c1 : W.drew.cell? ⟨g, 1, none⟩ = some (.slice (some ⟨q, 0, none⟩) l.length cap) := hP.c1
  have hSD : (Builtin.unsafeSliceData_ #[60] 133 #[.slice (some ⟨q, 0, none⟩) l.length cap]).run Try.prog W.drew = .ok (.pointer (some ⟨q, 0, none⟩)) W.drew :=
    Lib.run_unsafeSliceData_row _ _ _ _ _ _ (by omega)
  have hUS : (Builtin.unsafeString_ #[133, 3] 9 #[.pointer (some ⟨q, 0, none⟩), .int .i64 l.length]).run Try.prog W.drew = .ok (.string ⟨l.toArray⟩) (W.drew.freeze ⟨q, 0, none⟩ l.length) := by
    refine Lib.run_unsafeString_row W.drew 133 3 9 5 Try.underlying133 cellsByte q cur.size (by have hg' : W.drew.heap[q]? = some (.cells cur 5 (0, 0)) := hg; simp [World.shape?, hg']) l h0 (by omega) (by unfold maxLen at hcm; omega) ?_
    intro j x hx
    have := hown.cells (g := q) rfl j (.int .u8 x.toNat) (by simp [Lib.byteCells, hx])
    exact this
  clear hown hg hnc hcm hcs htake hP h0
  go_enter Try.func79, Try.ntmps79
  go_wp2
  go_region
  all_goals (go_wp2; go_ret; exact ⟨rfl, Lib.below_freeze (Below.drew (Below.refl B W)) (p := ⟨q, 0, none⟩) hbg _⟩)
end Go.Proofs.Ytlcgjlganmblpaa
