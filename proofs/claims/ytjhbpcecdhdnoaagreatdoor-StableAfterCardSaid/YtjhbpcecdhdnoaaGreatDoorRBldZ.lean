/-
  append to a row of one's own, and where the new row lies: where the old one lay, or in a new block.
  Small words on rows of one's own.
  Ints that lie in memory; remainders.
  Maps with strings as keys and any values at all: as a row of pairs by rising keys. No program is named here.
  Maps with strings as keys, gone through: what has come is a part of the row, at the end all of it, in some order. No program is named here.
-/
import Derived.Test.YtjhbpcecdhdnoaaGreatDoorRWords
import Derived.Test.YtjhbpcecdhdnoaaGreatDoorRWlBaseZ
import Derived.Lib.AppendStr
import Derived.Maps.Own
import Derived.Maps.Range
import Derived.Maps.RangeWalk
import Derived.Maps.Views
import Derived.Sort.MapsRangeIn
import Derived.Below
set_option linter.unusedSimpArgs false
set_option linter.unusedVariables false
namespace Go.Proofs.YtjhbpcecdhdnoaaGreatDoor
open Go.RowKit
theorem run_app_str {P : Program} (w : World) (base : Nat) (t u ty e : TypeId) (i : TypeInfo) (ht : P.underlying t = some (.slice e)) (hu : P.underlying u = some .string) (hi : P.info? e = some i) (hz : i.zero = some (.int .u8 0))
    (hsize : i.size = 1) (hby : i.bytes = 1) (v : Value) (n : Nat) (xs : List Value) (hown : w.ownsRow base e 1 v n xs) (s : ByteArray)
    (h63 : n + s.size ≤ maxLen) (hbytes : n + s.size ≤ 140737488355328) (hbase : base ≤ w.heap.size) :
    ∃ v' w', (Builtin.append_ #[t, u] ty #[v, .string s]).run P w = .ok v' w' ∧ w'.ownsRow base e 1 v' (n + s.size) (xs ++ Lib.strCells s) ∧ w.grownBy w' v.ownBlock ∧
      (∀ k, v'.ownBlock = some k → v.ownBlock = some k ∨ w.heap.size ≤ k) := by
  obtain ⟨v', w', hr, ho, hg, _⟩ := Lib.run_append_own_string (P := P) w base t u ty e i ht hu hi hz hsize hby v n xs hown s h63 hbytes hbase
  refine ⟨v', w', hr, ho, hg, fun k hk => ?_⟩
  have hxl : xs.length = n := by simpa using hown.1
  rcases hown.2 with ⟨rfl, rfl⟩ | ⟨g, cap, cur, rfl, hbg, hgr, hnc, hcm, hcs, htake⟩
  · have hx : xs = [] := List.eq_nil_of_length_eq_zero hxl
    subst hx
    obtain ⟨v2, w2, hr2, ho2, _⟩ := Lib.run_append_own_string (P := P) w w.heap.size t u ty e i ht hu hi hz hsize hby (.slice none 0 0) 0 [] (World.ownsRow_nil _ _ _ _) s h63 hbytes (Nat.le_refl _)
    rw [hr] at hr2
    injection hr2 with e1 e2
    subst e1
    rcases ho2.2 with ⟨hv, _⟩ | ⟨g, cap, cur, hv, hb, _⟩
    · rw [hv] at hk; cases hk
    · rw [hv] at hk; cases hk; exact .inr hb
  · by_cases hroom : n + s.size ≤ cap
    · have hcs' : cur.size = cap := by simpa using hcs
      have hr2 := Lib.run_append_room_string (P := P) w t u ty e i ht hu hi hsize g n cap cur hgr s hroom (by omega)
      rw [hr] at hr2
      injection hr2 with e1 e2
      subst e1
      exact .inl hk
    · have holds : ∀ j u, xs[j]? = some u → w.cell? ((⟨g, 0, none⟩ : Addr).add j) = some u := hown.cells (g := g) rfl
      have hr2 := Lib.run_append_grow_string (P := P) w t u ty e i (.int .u8 0) ht hu hi hz ⟨g, 0, none⟩ n cap xs (by rw [hsize]; simpa using hxl) holds s (by omega) (by omega) (by rw [hby]; exact growslice_fits (by omega) (by omega))
      rw [hr] at hr2
      injection hr2 with e1 e2
      subst e1
      cases hk
      exact .inr (Nat.le_refl _)
theorem wpList_app_str {P : Program} {w : World} {ops : Array Oper} {rest : List Oper} {o : Oper} {a : Act} {Q : Exit → Act → World → Prop} (hgd : o.guard = none) (sl x : Operand) (t u : TypeId)
    (ho : o.op = .call { callee := .builtin .append, args := #[sl, x], argTypes := #[t, u] })
    (base : Nat) (e : TypeId) (i : TypeInfo) (ht : P.underlying t = some (.slice e)) (hu : P.underlying u = some .string) (hi : P.info? e = some i) (hz : i.zero = some (.int .u8 0))
    (hsize : i.size = 1) (hby : i.bytes = 1)
    (v : Value) (n : Nat) (xs : List Value) (hs : a.eval sl = v) (hown : w.ownsRow base e 1 v n xs) (s : ByteArray) (hx : a.eval x = .string s)
    (h63 : n + s.size ≤ maxLen) (hbytes : n + s.size ≤ 140737488355328) (hbase : base ≤ w.heap.size)
    (h : ∀ v' w', w'.ownsRow base e 1 v' (n + s.size) (xs ++ Lib.strCells s) → w.grownBy w' v.ownBlock → (∀ k, v'.ownBlock = some k → v.ownBlock = some k ∨ w.heap.size ≤ k) → wpList P ops Q rest (a.put o.dst v') w') : wpList P ops Q (o :: rest) a w := by
  refine wpList_plain hgd fun K hK => ?_
  obtain ⟨v', w', hr, h2, h3, h4⟩ := run_app_str (P := P) w base t u o.type e i ht hu hi hz hsize hby v n xs hown s h63 hbytes hbase
  unfold Oper.wp execOp
  simp only [ho, resolve, invoke, builtin, Sem.run_bind, Sem.run_pure, Result.andThen_ok, List.map_toArray, List.map_cons, List.map_nil, hs, hx, hr]
  exact hK _ _ (h v' w' h2 h3 h4)
theorem run_app_own {P : Program} (w : World) (base : Nat) (t ty e : TypeId) (i : TypeInfo) (z : Value) (size bytes : Nat) (ht : P.underlying t = some (.slice e)) (hi : P.info? e = some i) (hz : i.zero = some z)
    (hsize : i.size = size) (hby : i.bytes = bytes) (hzs : z.cells.size = size) (hsz : 0 < size)
    (v : Value) (n : Nat) (xs : List Value) (hown : w.ownsRow base e size v n xs)
    (a : Addr) (m c : Nat) (news : List Value) (hl : news.length = m * size) (hnews : ∀ j u, news[j]? = some u → w.cell? (a.add j) = some u) (h1 : ∀ u ∈ news, u.oneCell' = true)
    (h63 : n + m ≤ maxLen) (hbytes : (n + m) * bytes ≤ 140737488355328) (hbase : base ≤ w.heap.size) :
    ∃ v' w', (Builtin.append_ #[t, t] ty #[v, .slice (some a) m c]).run P w = .ok v' w' ∧ w'.ownsRow base e size v' (n + m) (xs ++ news) ∧ w.grownBy w' v.ownBlock ∧
      (∀ k, v'.ownBlock = some k → v.ownBlock = some k ∨ w.heap.size ≤ k) := by
  obtain ⟨v', w', hr, ho, hg, _⟩ := run_append_own (P := P) w base t ty e i z size bytes ht hi hz hsize hby hzs hsz v n xs hown a m c news hl hnews h1 h63 hbytes hbase
  refine ⟨v', w', hr, ho, hg, fun k hk => ?_⟩
  rcases hown.2 with ⟨rfl, rfl⟩ | ⟨g, cap, cur, rfl, hbg, hgr, hnc, hcm, hcs, htake⟩
  · have hx : xs = [] := List.eq_nil_of_length_eq_zero (by simpa using hown.1)
    subst hx
    obtain ⟨v2, w2, hr2, ho2, _⟩ := run_append_own (P := P) w w.heap.size t ty e i z size bytes ht hi hz hsize hby hzs hsz (.slice none 0 0) 0 [] (World.ownsRow_nil _ _ _ _) a m c news hl hnews h1 h63 hbytes (Nat.le_refl _)
    rw [hr] at hr2
    injection hr2 with e1 e2
    subst e1
    rcases ho2.2 with ⟨hv, _⟩ | ⟨g, cap, cur, hv, hb, _⟩
    · rw [hv] at hk; cases hk
    · rw [hv] at hk; cases hk; exact .inr hb
  · subst hsize
    subst hby
    by_cases hroom : n + m ≤ cap
    · have hfit : n * i.size + news.length ≤ cur.size := by rw [hl, hcs, ← Nat.add_mul]; exact Nat.mul_le_mul_right _ hroom
      have hr2 := run_append_room (P := P) w t ty e i ht hi g n cap cur hgr a m c news hl hnews h1 hroom hfit
      rw [hr] at hr2
      injection hr2 with e1 e2
      subst e1
      exact .inl hk
    · have holds : ∀ j u, xs[j]? = some u → w.cell? ((⟨g, 0, none⟩ : Addr).add j) = some u := hown.cells (g := g) rfl
      have h64 : n + m ≤ 9223372036854775807 := by simp only [maxLen] at h63; omega
      have hr2 := run_append_grow (P := P) w t ty e i z ht hi hz ⟨g, 0, none⟩ n cap xs hown.1 holds a m c news hl hnews (by omega) (by omega) (growslice_fits (by omega) hbytes)
      rw [hr] at hr2
      injection hr2 with e1 e2
      subst e1
      cases hk
      exact .inr (Nat.le_refl _)
theorem wpList_app_own {P : Program} {w : World} {ops : Array Oper} {rest : List Oper} {o : Oper} {a : Act} {Q : Exit → Act → World → Prop} (hgd : o.guard = none) (s x : Operand) (t : TypeId)
    (ho : o.op = .call { callee := .builtin .append, args := #[s, x], argTypes := #[t, t] })
    (base : Nat) (e : TypeId) (i : TypeInfo) (z : Value) (size bytes : Nat) (ht : P.underlying t = some (.slice e)) (hi : P.info? e = some i) (hz : i.zero = some z)
    (hsize : i.size = size) (hby : i.bytes = bytes) (hzs : z.cells.size = size) (hsz : 0 < size)
    (v : Value) (n : Nat) (xs : List Value) (hs : a.eval s = v) (hown : w.ownsRow base e size v n xs)
    (ad : Addr) (m c : Nat) (news : List Value) (hx : a.eval x = .slice (some ad) m c) (hl : news.length = m * size) (hnews : ∀ j u, news[j]? = some u → w.cell? (ad.add j) = some u) (h1 : ∀ u ∈ news, u.oneCell' = true)
    (h63 : n + m ≤ maxLen) (hbytes : (n + m) * bytes ≤ 140737488355328) (hbase : base ≤ w.heap.size)
    (h : ∀ v' w', w'.ownsRow base e size v' (n + m) (xs ++ news) → w.grownBy w' v.ownBlock → (∀ k, v'.ownBlock = some k → v.ownBlock = some k ∨ w.heap.size ≤ k) → wpList P ops Q rest (a.put o.dst v') w') : wpList P ops Q (o :: rest) a w := by
  refine wpList_plain hgd fun K hK => ?_
  obtain ⟨v', w', hr, h2, h3, h4⟩ := run_app_own (P := P) w base t o.type e i z size bytes ht hi hz hsize hby hzs hsz v n xs hown ad m c news hl hnews h1 h63 hbytes hbase
  unfold Oper.wp execOp
  simp only [ho, resolve, invoke, builtin, Sem.run_bind, Sem.run_pure, Result.andThen_ok, List.map_toArray, List.map_cons, List.map_nil, hs, hx, hr]
  exact hK _ _ (h v' w' h2 h3 h4)
end Go.Proofs.YtjhbpcecdhdnoaaGreatDoor
namespace Go.Proofs.YtjhbpcecdhdnoaaGreatDoor
open Go.RowKit
theorem news_fl (W : World) (l : List Value) (t : TypeId) : ∀ j u, l[j]? = some u → (W.alloc (.cells l.toArray t)).cell? ((⟨W.heap.size, 0, none⟩ : Addr).add j) = some u := fun j u hu => by
  have e : (⟨W.heap.size, 0, none⟩ : Addr).add j = ⟨W.heap.size, 0 + j, none⟩ := by unfold Addr.add; split <;> simp_all
  rw [e, Nat.zero_add, cell_of_row _ W.heap.size j l.toArray t (0, 0) (heap_alloc_new W _)]
  simpa using hu
theorem own_zero {w : World} {base : Nat} {e : TypeId} {size : Nat} {v : Value} {n : Nat} {l : List Value} (h : w.ownsRow base e size v n l) : w.ownsRow 0 e size v n l := by
  refine ⟨h.1, ?_⟩
  rcases h.2 with h2 | ⟨g, cap, cur, h1, _, rest⟩
  · exact .inl h2
  · exact .inr ⟨g, cap, cur, h1, Nat.zero_le _, rest⟩
theorem own_slice {w : World} {base : Nat} {e : TypeId} {size : Nat} {v : Value} {n : Nat} {l : List Value} (h : w.ownsRow base e size v n l) : ∃ A cap, v = .slice A n cap ∧ ∀ b off, A = some ⟨b, off, none⟩ → base ≤ b ∧ v.ownBlock = some b := by
  rcases h.2 with ⟨h1, h2⟩ | ⟨g, cap, cur, h1, hb, _⟩
  · exact ⟨none, 0, by rw [h1, h2], fun b off he => by cases he⟩
  · refine ⟨_, cap, h1, fun b off he => ?_⟩
    cases he
    exact ⟨hb, by rw [h1]; rfl⟩
theorem own_lt {w : World} {base : Nat} {e : TypeId} {size : Nat} {v : Value} {n : Nat} {l : List Value} (h : w.ownsRow base e size v n l) {b : Nat} (hb : v.ownBlock = some b) : b < w.heap.size ∧ base ≤ b := by
  rcases h.2 with ⟨rfl, _⟩ | ⟨g, cap, cur, rfl, hg, hr, _⟩
  · cases hb
  · cases hb; exact ⟨(Array.getElem?_eq_some_iff.1 hr).1, hg⟩
theorem own_empty (W : World) (e : TypeId) : (W.alloc (.cells #[] e)).ownsRow W.heap.size e 1 (.slice (some ⟨W.heap.size, 0, none⟩) 0 0) 0 [] :=
  ⟨rfl, .inr ⟨W.heap.size, 0, #[], rfl, Nat.le_refl _, heap_alloc_new W _, Nat.le_refl _, Nat.zero_le _, rfl, rfl⟩⟩
theorem lies_own {w : World} {base : Nat} {e : TypeId} {A : Option Addr} {n c : Nat} {l : List Value} (h : w.ownsRow base e 1 (.slice A n c) n l) : Lies w A l := by
  rcases h.2 with ⟨hv, hn⟩ | ⟨g, cap, cur, hv, _, hg, _⟩
  · exact .inl (List.eq_nil_of_length_eq_zero (by have := h.1; omega))
  · injection hv with a b c2
    subst a
    refine .inr ⟨g, 0, rfl, (Array.getElem?_eq_some_iff.1 hg).1, fun i u hu => ?_⟩
    have := h.cells (g := g) rfl i u hu
    have e : (⟨g, 0, none⟩ : Addr).add i = ⟨g, 0 + i, none⟩ := by unfold Addr.add; split <;> simp_all
    rw [e] at this; exact this
theorem own_room {w : World} {base : Nat} {e : TypeId} {size : Nat} {A : Option Addr} {n m c : Nat} {l : List Value} (h : w.ownsRow base e size (.slice A n c) m l) : m ≤ c := by
  rcases h.2 with ⟨hv, hn⟩ | ⟨g, cap, cur, hv, _, hg, h1, _⟩
  · omega
  · injection hv with a b c2
    subst c2; exact h1
end Go.Proofs.YtjhbpcecdhdnoaaGreatDoor
namespace Go.Proofs.YtjhbpcecdhdnoaaGreatDoor
open Go.RowKit
theorem infoStr : (Tryz.prog.info? 9).map (fun i => (i.zero, i.size, i.bytes)) = some (some (.string ⟨#[]⟩), 1, 16) := by kernel_rfl
theorem ic_cell {w : World} {A : Option Addr} {ns : List Int} (h : Lies w A (ic ns)) (i : Nat) (hi : i < ns.length) :
    ∃ b off, A = some ⟨b, off, none⟩ ∧ b < w.heap.size ∧ w.cell? ⟨b, off + i, none⟩ = some (.int .i64 (ns.getD i 0)) := by
  rcases h with h | ⟨b, off, rfl, hb, hc⟩
  · exfalso
    have := ic_length ns
    rw [h] at this
    simp at this; omega
  · exact ⟨b, off, rfl, hb, hc i _ (ic_at ns i hi)⟩
theorem tmod_bounds (z : Int) (n : Nat) (hn : n ≠ 0) : -(n : Int) < z.tmod n ∧ z.tmod n < n := by
  have h1 := Int.tmod_lt_of_pos z (show (0 : Int) < n by omega)
  have h2 := Int.lt_tmod_of_pos z (show (0 : Int) < n by omega)
  exact ⟨h2, h1⟩
theorem emod_tmod (z : Int) (n : Nat) (hn : n ≠ 0) : z % (n : Int) = if z.tmod n < 0 then z.tmod n + n else z.tmod n := by
  have hb := tmod_bounds z n hn
  have h1 : z = n * (z.tdiv n) + z.tmod n := (Int.mul_tdiv_add_tmod z n).symm
  split
  · have h2 : z = (z.tmod n + n) + n * (z.tdiv n - 1) := by rw [Int.mul_sub, Int.mul_one]; omega
    rw [h2, Int.add_mul_emod_self_left]
    have e1 : (z.tmod n + n + n * (z.tdiv n - 1)).tmod n = z.tmod n := by rw [← h2]
    rw [Int.emod_eq_of_lt (by omega) (by omega)]
    rw [← h2]
  · have h2 : z = z.tmod n + n * (z.tdiv n) := by omega
    have h3 : (z.tmod n + n * (z.tdiv n)) % n = z.tmod n % n := Int.add_mul_emod_self_left ..
    rw [← h2] at h3
    rw [h3, Int.emod_eq_of_lt (by omega) (by omega)]
end Go.Proofs.YtjhbpcecdhdnoaaGreatDoor
namespace Go.Proofs.YtjhbpcecdhdnoaaGreatDoor
open Go.Maps (Keyed)
open Go.ChangeMaps (notKey putKey delKey)
namespace Sm
abbrev Row := List (ByteArray × Value)
def lt (a b : ByteArray) : Prop := a.data.toList < b.data.toList
instance (a b : ByteArray) : Decidable (lt a b) := inferInstanceAs (Decidable (a.data.toList < b.data.toList))
def hv (v : Value) : Option (DataW Value × List MemPlace) := some (.held v, [])
def enc (p : ByteArray × Value) : Lit × DataW Value := (.string p.1.data.toList, .held p.2)
def lk (l : Row) (s : ByteArray) : Option Value := (l.find? fun p => decide (p.1 = s)).map (·.2)
def put : Row → ByteArray → Value → Row
  | [], s, v => [(s, v)]
  | p :: l, s, v => if p.1 = s then (s, v) :: l else if lt s p.1 then (s, v) :: p :: l else p :: put l s v
def del (l : Row) (s : ByteArray) : Row := l.filter fun p => decide (p.1 ≠ s)
def Rises : Row → Prop
  | [] => True
  | p :: l => (∀ q ∈ l, lt p.1 q.1) ∧ Rises l
theorem name_ext {a b : ByteArray} (h : a.data.toList = b.data.toList) : a = b := ByteArray.ext (Array.toList_inj.1 h)
theorem lt_irrefl (a : ByteArray) : ¬ lt a a := List.lt_irrefl _
theorem lt_trans {a b c : ByteArray} (h1 : lt a b) (h2 : lt b c) : lt a c := List.lt_trans h1 h2
theorem before_lt : ∀ a b : List UInt8, bytesBefore a b = true ↔ a < b
  | [], [] => by simp [bytesBefore]
  | [], y :: b => by simp [bytesBefore]
  | x :: a, [] => by simp [bytesBefore]
  | x :: a, y :: b => by
    rw [List.cons_lt_cons_iff, ← before_lt a b]
    simp [bytesBefore]
theorem enc_before (p q : ByteArray × Value) : (enc p).1.before (enc q).1 = true ↔ lt p.1 q.1 := before_lt _ _
theorem enc_key (p q : ByteArray × Value) : (enc p).1.sameKey (enc q).1 = true ↔ p.1 = q.1 := by
  show (p.1.data.toList == q.1.data.toList) = true ↔ _
  rw [beq_iff_eq]
  exact ⟨name_ext, fun h => by rw [h]⟩
theorem same_key (p : ByteArray × Value) (s : ByteArray) : (enc p).1.sameKey (.string s.data.toList) = decide (p.1 = s) := by
  have := enc_key p (s, .bool false)
  by_cases h : p.1 = s
  · rw [decide_eq_true h]; exact this.2 h
  · rw [decide_eq_false h]
    cases hs : (enc p).1.sameKey (.string s.data.toList)
    · rfl
    · exact absurd (this.1 hs) h
theorem rises_of : ∀ l : Row, (l.map enc).Pairwise (fun p q => p.1.before q.1 = true) → Rises l
  | [], _ => trivial
  | p :: l, h => by
    rw [List.map_cons, List.pairwise_cons] at h
    exact ⟨fun q hq => (enc_before p q).1 (h.1 _ (List.mem_map.2 ⟨q, hq, rfl⟩)), rises_of l h.2⟩
theorem insert_lt (s : ByteArray) (v : Value) : ∀ l : Row, (∀ q ∈ l, lt s q.1) → DataW.insert (enc (s, v)) (l.map enc) = ((s, v) :: l).map enc
  | [], _ => rfl
  | p :: l, h => by
    rw [List.map_cons, DataW.insert, if_pos ((enc_before (s, v) p).2 (h p (by simp)))]; rfl
theorem filter_lt (s : ByteArray) : ∀ l : Row, (∀ q ∈ l, lt s q.1) → (l.map enc).filter (notKey (.string s.data.toList)) = l.map enc := fun l h => by
  rw [List.filter_eq_self]
  intro x hx
  obtain ⟨q, hq, rfl⟩ := List.mem_map.1 hx
  unfold notKey
  rw [same_key, decide_eq_false (fun he => lt_irrefl s (by have := h q hq; rwa [he] at this))]; rfl
theorem put_enc (s : ByteArray) (v : Value) : ∀ l : Row, Rises l → putKey (.string s.data.toList) (.held v) (l.map enc) = (put l s v).map enc
  | [], _ => rfl
  | p :: l, ⟨h1, h2⟩ => by
    have ih := put_enc s v l h2
    unfold putKey at ih ⊢
    rw [List.map_cons, List.filter_cons]
    unfold put
    have hk : notKey (Lit.string s.data.toList) (enc p) = !decide (p.1 = s) := by unfold notKey; rw [same_key]
    rw [hk]
    by_cases he : p.1 = s
    · rw [if_pos he, decide_eq_true he]
      have hl : ∀ q ∈ l, lt s q.1 := by rw [← he]; exact h1
      rw [if_neg (by simp), filter_lt s l hl]
      exact insert_lt s v l hl
    · rw [if_neg he, decide_eq_false he, if_pos (by rfl)]
      by_cases hl : lt s p.1
      · rw [if_pos hl, filter_lt s l (fun q hq => lt_trans hl (h1 q hq)), ← List.map_cons]
        refine insert_lt s v (p :: l) fun q hq => ?_
        rcases List.mem_cons.1 hq with rfl | hq
        · exact hl
        · exact lt_trans hl (h1 q hq)
      · rw [if_neg hl, List.map_cons, ← ih]
        show DataW.insert (enc (s, v)) (enc p :: _) = _
        rw [DataW.insert, if_neg (fun h => hl ((enc_before (s, v) p).1 h))]; rfl
theorem del_enc (s : ByteArray) (l : Row) : delKey (.string s.data.toList) (l.map enc) = (del l s).map enc := by
  unfold delKey del
  rw [List.filter_map]
  congr 1
  apply List.filter_congr
  intro p _
  show notKey _ (enc p) = _
  unfold notKey
  rw [same_key]; simp
theorem find_enc (s : ByteArray) : ∀ l : Row, (l.map enc).find? (fun p => p.1.sameKey (.string s.data.toList)) = (l.find? fun p => decide (p.1 = s)).map enc
  | [] => rfl
  | p :: l => by
    rw [List.map_cons, List.find?_cons, List.find?_cons, same_key]
    by_cases h : p.1 = s
    · rw [decide_eq_true h]; rfl
    · rw [decide_eq_false h]; exact find_enc s l
theorem atKey_enc (s : ByteArray) (zd : DataW Value) (l : Row) : (DataW.map (l.map enc)).atKey (.string s.data.toList) zd = match lk l s with | some v => .held v | none => zd := by
  unfold DataW.atKey
  simp only [find_enc]
  unfold lk
  cases l.find? fun p => decide (p.1 = s) <;> rfl
end Sm
section
variable {P : Program} {k t e : TypeId} {W : World} {b : Nat} {l : Sm.Row}
def SMap (P : Program) (k : TypeId) (W : World) (b : Nat) (l : Sm.Row) : Prop := W.ownsMap P k Sm.hv b l.length (.map (l.map Sm.enc))
theorem SMap.lt (h : SMap P k W b l) : b < W.heap.size := World.ownsMap.lt h
theorem SMap.made (P : Program) (k : TypeId) (W : World) : SMap P k (W.alloc (.map #[] 0)) W.heap.size [] := World.ownsMap_made W P k Sm.hv
theorem SMap.kept {W' : World} (h : SMap P k W b l) (hb : W'.heap[b]? = W.heap[b]?) : SMap P k W' b l := by
  obtain ⟨es, clock, h1, rest⟩ := h
  exact ⟨es, clock, hb.trans h1, rest⟩
theorem SMap.rises (hk : P.underlying k = some .string) (h : SMap P k W b l) : Sm.Rises l := by
  obtain ⟨es, clock, h1, F, hs, hD⟩ := h
  have K := Go.Maps.string_keyed hk
  simp only [DataW.map.injEq] at hD
  have := Go.Maps.sorted_sorted K.one _ (Go.Maps.fit_keys F) (Go.Maps.fit_apart K F)
  rw [← hD] at this
  exact Sm.rises_of l this
theorem SMap.keys (hk : P.underlying k = some .string) (h : SMap P k W b l) : ∀ p ∈ l, p.1.size ≤ maxLen := by
  obtain ⟨es, clock, h1, F, hs, hD⟩ := h
  intro p hp
  simp only [DataW.map.injEq] at hD
  have hm : Sm.enc p ∈ (es.toList.map (Go.WideElems.rg P k Sm.hv)).foldr DataW.insert [] := by rw [← hD]; exact List.mem_map.2 ⟨p, hp, rfl⟩
  obtain ⟨x, hx, he⟩ := List.mem_map.1 (mem_sorted.1 hm)
  obtain ⟨y, hy⟩ := F.reads x hx
  have hkey := Go.WideElems.rd_key hy
  rw [Go.WideElems.rg_of hy] at he
  rw [he] at hkey
  have : keyOf P k x.key = some (.string p.1.data.toList) := hkey
  have hms : ∀ v, keyOf P k v = some (.string p.1.data.toList) → p.1.size ≤ maxLen := fun v hv => by
    rw [keyOf_string hk] at hv
    have hp1 : p.1.size = (p.1.data.toList).length := by rw [Array.length_toList]; rfl
    obtain ⟨m, hm⟩ : ∃ m, m = maxLen := ⟨_, rfl⟩
    cases v <;> simp only [mapKey, hk] at hv <;> try cases hv
    rename_i x
    rw [← hm] at hv ⊢
    split at hv
    · rename_i hle
      injection hv with hv
      injection hv with hv
      rw [hp1, ← hv, Array.length_toList]; exact hle
    · cases hv
  exact hms _ this
theorem SMap.look (c : Bool) (hk : P.underlying k = some .string) (ht : P.underlying t = some (.map k e)) (h : SMap P k W b l) {z : Value} (hz : (zeroValue e).run P W = .ok z W) (s : ByteArray) (hs : s.size ≤ maxLen) :
    (Instr.lookup t (.map (some b)) (.string s) c).run P W = .ok (if c then .tuple #[(Sm.lk l s).getD z, .bool (Sm.lk l s).isSome] else (Sm.lk l s).getD z) W := by
  obtain ⟨es, clock, h1, F, _, hD⟩ := h
  have K := Go.Maps.string_keyed hk
  have hkey : keyOf P k (.string s) = some (.string s.data.toList) := Go.WideMaps.keyOf_string_mk hk hs
  rcases Go.Maps.fit_look c K ht hz h1 F hkey with ⟨hrun, _, hat⟩ | ⟨e0, y, _, _, hrun, hy, hat, _⟩
  · have h2 := hat (.nil)
    rw [← hD, Sm.atKey_enc] at h2
    cases hl : Sm.lk l s with
    | none => exact hrun
    | some v => rw [hl] at h2; cases h2
  · have h2 := hat (.nil)
    rw [← hD, Sm.atKey_enc] at h2
    cases hy
    cases hl : Sm.lk l s with
    | none => rw [hl] at h2; cases h2
    | some v =>
      rw [hl] at h2
      injection h2 with h2
      subst h2
      exact hrun
theorem SMap.store (hk : P.underlying k = some .string) (ht : P.underlying t = some (.map k e)) (h : SMap P k W b l) (hn : l.length < maxLen) (s : ByteArray) (hs : s.size ≤ maxLen) (v : Value) :
    ∃ W', (Instr.mapUpdate t (.map (some b)) (.string s) v).run P W = .ok () W' ∧ SMap P k W' b (Sm.put l s v) ∧ W.grownBy W' (some b) ∧ W'.heap.size = W.heap.size := by
  have hr := SMap.rises hk h
  obtain ⟨es, clock, h1, F, hsz, hD⟩ := h
  have K := Go.Maps.string_keyed hk
  have hkey : keyOf P k (.string s) = some (.string s.data.toList) := Go.WideMaps.keyOf_string_mk hk hs
  obtain ⟨es', clock', hrun, F', hput, _⟩ := Go.Maps.fit_store (R' := Sm.hv) K ht h1 F (Nat.lt_of_le_of_lt hsz hn) (fun _ _ _ _ hz => hz) hkey (val := v) (yv := (.held v, [])) rfl
  simp only [DataW.map.injEq] at hD
  have e2 : (es'.toList.map (Go.WideElems.rg P k Sm.hv)).foldr DataW.insert [] = (Sm.put l s v).map Sm.enc := by rw [hput, ← hD]; exact Sm.put_enc s v l hr
  have e3 : es'.size = (Sm.put l s v).length := by
    have := congrArg List.length e2
    rw [length_sorted] at this
    simpa using this
  refine ⟨_, hrun, ⟨es', clock', Go.ChangeMaps.heap_setBlock_same h1 _, F', Nat.le_of_eq e3, by rw [e2]⟩, ⟨rfl, rfl, rfl, by simp [Go.ChangeMaps.setBlock], fun i _ hi => Go.ChangeMaps.heap_setBlock_other h1 _ (fun e => hi (by rw [e]))⟩, by simp [Go.ChangeMaps.setBlock]⟩
theorem SMap.drop {ty : TypeId} (hk : P.underlying k = some .string) (ht : P.underlying t = some (.map k e)) (h : SMap P k W b l) (s : ByteArray) (hs : s.size ≤ maxLen) :
    ∃ W', (Builtin.delete_ #[t, k] ty #[.map (some b), .string s]).run P W = .ok (.tuple #[]) W' ∧ SMap P k W' b (Sm.del l s) ∧ W.grownBy W' (some b) ∧ W'.heap.size = W.heap.size := by
  obtain ⟨es, clock, h1, F, hsz, hD⟩ := h
  have K := Go.Maps.string_keyed hk
  have hkey : keyOf P k (.string s) = some (.string s.data.toList) := Go.WideMaps.keyOf_string_mk hk hs
  obtain ⟨es', hrun, F', _, hput, _⟩ := Go.Maps.fit_drop (R := Sm.hv) (ty := ty) K ht h1 F hkey
  simp only [DataW.map.injEq] at hD
  have e2 : (es'.toList.map (Go.WideElems.rg P k Sm.hv)).foldr DataW.insert [] = (Sm.del l s).map Sm.enc := by rw [hput, ← hD]; exact Sm.del_enc s l
  have e3 : es'.size = (Sm.del l s).length := by
    have := congrArg List.length e2
    rw [length_sorted] at this
    simpa using this
  refine ⟨_, hrun, ⟨es', clock, Go.ChangeMaps.heap_setBlock_same h1 _, F', Nat.le_of_eq e3, by rw [e2]⟩, ⟨rfl, rfl, rfl, by simp [Go.ChangeMaps.setBlock], fun i _ hi => Go.ChangeMaps.heap_setBlock_other h1 _ (fun e => hi (by rw [e]))⟩, by simp [Go.ChangeMaps.setBlock]⟩
end
end Go.Proofs.YtjhbpcecdhdnoaaGreatDoor
namespace Go.Proofs.YtjhbpcecdhdnoaaGreatDoor
open Go.Maps (Keyed)
open Go.RowKit (Below)
section
variable {P : Program} {k t e : TypeId} {W : World} {b r cnt : Nat} {l done : Sm.Row}
def SRg (P : Program) (k : TypeId) (W : World) (b r : Nat) (l done : Sm.Row) (cnt : Nat) : Prop :=
  ∃ lf : Lit → Bool, W.ranges P k Sm.hv b r l.length (.map (l.map Sm.enc)) lf cnt ∧ (∀ s : ByteArray, lf (.string s.data.toList) = ((Sm.lk l s).isSome && !done.any fun p => decide (p.1 = s))) ∧
    (∀ kl, lf kl = true → ∃ p ∈ l, (Sm.enc p).1 = kl) ∧ (∀ p ∈ done, p ∈ l) ∧ (done.map (·.1)).Nodup
theorem SRg.map (h : SRg P k W b r l done cnt) : SMap P k W b l := by
  obtain ⟨lf, h1, _⟩ := h
  exact h1.owns
theorem SRg.lt (h : SRg P k W b r l done cnt) : r < W.heap.size := by obtain ⟨lf, h1, _⟩ := h; exact h1.lt
theorem SRg.ne (h : SRg P k W b r l done cnt) : r ≠ b := by obtain ⟨lf, h1, _⟩ := h; exact h1.ne
theorem SRg.left_eq (h : SRg P k W b r l done cnt) : W.rangeLeft b r = cnt := by obtain ⟨lf, h1, _⟩ := h; exact h1.left_eq
theorem SRg.kept {W' : World} (h : SRg P k W b r l done cnt) (hb : W'.heap[b]? = W.heap[b]?) (hr : W'.heap[r]? = W.heap[r]?) : SRg P k W' b r l done cnt := by
  obtain ⟨lf, ⟨es, clock, since, seen, c0, g1, F, hs, hD, g2, rest⟩, h2⟩ := h
  exact ⟨lf, ⟨es, clock, since, seen, c0, hb.trans g1, F, hs, hD, hr.trans g2, rest⟩, h2⟩
theorem Sm.lk_of_mem {l : Sm.Row} (h : Sm.Rises l) {p : ByteArray × Value} (hp : p ∈ l) : Sm.lk l p.1 = some p.2 := by
  unfold Sm.lk
  induction l with
  | nil => cases hp
  | cons x xs ih =>
    rw [List.find?_cons]
    rcases List.mem_cons.1 hp with rfl | hp
    · rw [decide_eq_true rfl]; rfl
    · rw [decide_eq_false (fun he => Sm.lt_irrefl x.1 (by have := h.1 p hp; rwa [← he] at this))]
      exact ih h.2 hp
theorem Sm.nodup {l : Sm.Row} (h : Sm.Rises l) : l.Nodup := by
  induction l with
  | nil => exact List.nodup_nil
  | cons x xs ih =>
    rw [List.nodup_cons]
    exact ⟨fun hx => Sm.lt_irrefl x.1 (h.1 x hx), ih h.2⟩
theorem SRg.all (hk : P.underlying k = some .string) (h : SRg P k W b r l done cnt) (h0 : cnt = 0) : done.Perm l := by
  have hr := SMap.rises hk h.map
  obtain ⟨lf, h1, h2, _, h4, h5⟩ := h
  have hd : done.Nodup := List.Pairwise.of_map (fun x => x.1) (fun a b hne he => hne (by rw [he])) h5
  rw [List.perm_ext_iff_of_nodup hd (Sm.nodup hr)]
  intro p
  refine ⟨h4 p, fun hp => ?_⟩
  obtain ⟨es, clock, since, seen, c0, _, F, _, hD, _, _, hc, hl1, _, _⟩ := h1
  have hlf : lf (.string p.1.data.toList) = false := by
    simp only [DataW.map.injEq] at hD
    have hm : Sm.enc p ∈ (es.toList.map (Go.WideElems.rg P k Sm.hv)).foldr DataW.insert [] := by rw [← hD]; exact List.mem_map.2 ⟨p, hp, rfl⟩
    obtain ⟨x, hx, he⟩ := List.mem_map.1 (mem_sorted.1 hm)
    have := hl1 x hx
    rw [he, all_seen es seen (hc.trans h0) x hx] at this
    exact this
  rw [h2, Sm.lk_of_mem hr hp] at hlf
  simp at hlf
  obtain ⟨v, hv⟩ := hlf
  have e1 := Sm.lk_of_mem hr hp
  have e2 := Sm.lk_of_mem hr (h4 _ hv)
  rw [e1] at e2
  injection e2 with e2
  have : p = (p.1, v) := by
    have e3 : p.2 = v := e2
    rw [← e3]
  rw [this]; exact hv
theorem SMap.range (hk : P.underlying k = some .string) (ht : P.underlying t = some (.map k e)) (h : SMap P k W b l) :
    ∃ W', (Instr.range t (.map (some b))).run P W = .ok (.pointer (some ⟨W.heap.size, 0, none⟩)) W' ∧ SRg P k W' b W.heap.size l [] l.length ∧ Below W.heap.size W W' ∧ W'.heap.size = W.heap.size + 1 := by
  have K := Go.Maps.string_keyed hk
  have hr := SMap.rises hk h
  obtain ⟨W', hrun, h1, h2, h3⟩ := World.ownsMap.range h K ht
  have hz : Go.Maps.size (.map (l.map Sm.enc)) = l.length := by rw [Go.Maps.size_eq, List.length_map]
  rw [hz] at h1
  have hh : ∀ kl, Go.Maps.has (.map (l.map Sm.enc)) kl = true → ∃ p ∈ l, (Sm.enc p).1 = kl := fun kl hkl => by
    rw [Go.Maps.has_eq, List.any_eq_true] at hkl
    obtain ⟨x, hx, he⟩ := hkl
    obtain ⟨p, hp, rfl⟩ := List.mem_map.1 hx
    exact ⟨p, hp, WideAt.sameKey_eq he⟩
  refine ⟨W', hrun, ⟨_, h1, fun s => ?_, hh, fun p hp => (by cases hp), List.nodup_nil⟩, ⟨h2.os, h2.tape, h2.output, h2.size, fun i hi => h2.block i hi (by simp)⟩, h3⟩
  show Go.Maps.has (.map (l.map Sm.enc)) (.string s.data.toList) = _
  rw [Go.Maps.has_eq, List.any_map]
  simp only [List.any_nil, Bool.not_false, Bool.and_true]
  unfold Sm.lk
  have : (fun p => decide (p.1 = s)) = ((fun p => p.1.sameKey (Lit.string s.data.toList)) ∘ Sm.enc) := by funext p; exact (Sm.same_key p s).symm
  rw [← this]
  cases hf : l.find? fun p => decide (p.1 = s) with
  | none =>
    rw [List.find?_eq_none] at hf
    simpa using hf
  | some p =>
    have h1 := List.find?_some hf
    have h2 := List.mem_of_find?_eq_some hf
    simp only [Option.map_some, Option.isSome_some, List.any_eq_true]
    exact ⟨p, h2, h1⟩
theorem SRg.next (hk : P.underlying k = some .string) (h : SRg P k W b r l done cnt) (ty : TypeId) :
    (cnt = 0 ∧ done.Perm l ∧ (Instr.next (.pointer (some ⟨r, 0, none⟩)) false ty).run P W = .ok (.tuple #[.bool false]) W) ∨
    ∃ p W' cnt', p ∈ l ∧ p ∉ done ∧ (Instr.next (.pointer (some ⟨r, 0, none⟩)) false ty).run P W = .ok (.tuple #[.bool true, .string p.1, p.2]) W' ∧ SRg P k W' b r l (done ++ [p]) cnt' ∧ cnt' < cnt ∧
      W.grownBy W' (some r) ∧ W'.heap.size = W.heap.size ∧ (Instr.entry (.pointer (some ⟨r, 0, none⟩))).run P W' = .ok (.tuple #[.string p.1, p.2]) W' := by
  have K := Go.Maps.string_keyed hk
  have hr := SMap.rises hk h.map
  have hall := fun h0 => SRg.all hk h h0
  obtain ⟨lf, h1, h2, h3, h4, h5⟩ := h
  rcases h1.next K ty with ⟨h0, _, hrun⟩ | ⟨key, v, kl, y, W', cnt', hkey, hlk, hv, hat, hrun, hrg, hlt, hgr, hsz, hen⟩
  · exact .inl ⟨h0, hall h0, hrun⟩
  · right
    obtain ⟨p, hp, rfl⟩ := h3 kl hlk
    have hkp : key = .string p.1 := by
      obtain ⟨s, rfl⟩ := Maps.keyOf_string_inv hk hkey
      have hkey2 : keyOf P k (.string s) = some (.string p.1.data.toList) := hkey
      rw [keyOf_string hk] at hkey2
      obtain ⟨m, hm⟩ : ∃ m, m = maxLen := ⟨_, rfl⟩
      simp only [mapKey, hk, ← hm] at hkey2
      split at hkey2
      · injection hkey2 with hkey2
        injection hkey2 with hkey2
        rw [Sm.name_ext hkey2]
      · cases hkey2
    have hvp : v = p.2 := by
      have h6 := hat .nil
      have h7 : (DataW.map (l.map Sm.enc)).atKey (.string p.1.data.toList) .nil = y.1 := h6
      rw [Sm.atKey_enc, Sm.lk_of_mem hr hp] at h7
      cases hv
      injection h7 with h7
      exact h7.symm
    subst hkp hvp
    have hlk2 : lf (.string p.1.data.toList) = true := hlk
    rw [h2] at hlk2
    have hnd : ∀ q ∈ done, q.1 ≠ p.1 := fun q hq he => by
      have : done.any (fun x => decide (x.1 = p.1)) = true := List.any_eq_true.2 ⟨q, hq, by simpa using he⟩
      rw [this] at hlk2; simp at hlk2
    refine ⟨p, W', cnt', hp, fun hd => hnd p hd rfl, hrun, ⟨_, hrg, fun s => ?_, fun kl hkl => h3 kl (by simp at hkl; exact hkl.1), fun q hq => ?_, ?_⟩, hlt, hgr, hsz, hen⟩
    · show (lf (.string s.data.toList) && !(Lit.string s.data.toList).sameKey (Sm.enc p).1) = _
      rw [h2, List.any_append]
      have : (Lit.string s.data.toList).sameKey (Sm.enc p).1 = decide (p.1 = s) := by
        have h8 := Sm.same_key (s, p.2) p.1
        have h9 : (Lit.string s.data.toList).sameKey (Lit.string p.1.data.toList) = decide (s = p.1) := h8
        show (Lit.string s.data.toList).sameKey (Lit.string p.1.data.toList) = _
        rw [h9]
        by_cases hh : s = p.1
        · rw [decide_eq_true hh, decide_eq_true hh.symm]
        · rw [decide_eq_false hh, decide_eq_false (fun h => hh h.symm)]
      rw [this]
      simp only [List.any_cons, List.any_nil, Bool.or_false]
      cases (Sm.lk l s).isSome <;> cases done.any (fun p => decide (p.1 = s)) <;> cases decide (p.1 = s) <;> rfl
    · rcases List.mem_append.1 hq with hq | hq
      · exact h4 q hq
      · rw [List.mem_singleton.1 hq]; exact hp
    · rw [List.map_append, List.nodup_append]
      refine ⟨h5, by simp, fun x hx y hy he => ?_⟩
      obtain ⟨q, hq, rfl⟩ := List.mem_map.1 hx
      simp at hy
      exact hnd q hq (he.trans hy)
end
end Go.Proofs.YtjhbpcecdhdnoaaGreatDoor
