/-
  Records as values, and how many of them lie in memory.
  Loads and stores of structs that lie within a row, whole: the cells may be unknown.
  Layer 7's values: numbers of errors, acts and choices as cells; worlds of which only a few blocks may have turned.
  Loads of whole structs in a region that draws its order and makes memory by calls alone.
-/
import Derived.Test.YtjhbpcecdhdnoaaGreatDoorRWlM
import Derived.Test.YtjhbpcecdhdnoaaGreatDoorREnA
import Derived.Test.YtjhbpcecdhdnoaaGreatDoorRWords
import Derived.Test.YtjhbpcecdhdnoaaGreatDoorRDkM
import Derived.Deep.MidRow
import Derived.Deep.WholeRow
import Derived.Lib.QuietBelow
import Derived.BigQuiet
set_option linter.unusedSimpArgs false
set_option linter.unusedVariables false
namespace Go.Proofs.YtjhbpcecdhdnoaaGreatDoor
open Go.RowKit
instance : DecidableEq Wl.R := fun a b => decidable_of_iff (a.kind = b.kind ∧ a.trm = b.trm ∧ a.vote = b.vote ∧ a.ent = b.ent)
  ⟨fun h => by cases a; cases b; simp at h; obtain ⟨rfl, rfl, rfl, rfl⟩ := h; rfl, fun h => by subst h; exact ⟨rfl, rfl, rfl, rfl⟩⟩
def recC (r : Wl.R) : Array Value := #[.int .u8 (r.kind : Int), .int .u64 (r.trm : Int), .int .u8 (r.vote : Int), .int .u64 (r.ent.idx : Int), .int .u64 (r.ent.trm : Int), .int .u8 (r.ent.kind : Int), .int .u8 (r.ent.slot : Int), .int .u8 (r.ent.tok.a0.toNat : Int), .int .u8 (r.ent.tok.a1.toNat : Int), .int .u8 (r.ent.tok.a2.toNat : Int), .int .u8 (r.ent.tok.a3.toNat : Int), .int .u8 (r.ent.tok.a4.toNat : Int), .int .u8 (r.ent.tok.a5.toNat : Int), .int .u8 (r.ent.tok.a6.toNat : Int), .int .u8 (r.ent.tok.a7.toNat : Int), .string r.ent.body]
def wr1 (r : Wl.R) : List Value := [.int .u8 (r.kind : Int), .int .u64 (r.trm : Int), .int .u8 (r.vote : Int), .int .u64 (r.ent.idx : Int), .int .u64 (r.ent.trm : Int), .int .u8 (r.ent.kind : Int), .int .u8 (r.ent.slot : Int), .int .u8 (r.ent.tok.a0.toNat : Int), .int .u8 (r.ent.tok.a1.toNat : Int), .int .u8 (r.ent.tok.a2.toNat : Int), .int .u8 (r.ent.tok.a3.toNat : Int), .int .u8 (r.ent.tok.a4.toNat : Int), .int .u8 (r.ent.tok.a5.toNat : Int), .int .u8 (r.ent.tok.a6.toNat : Int), .int .u8 (r.ent.tok.a7.toNat : Int), .string r.ent.body]
def wrs (l : List Wl.R) : List Value := (l.map wr1).flatten
theorem wr1_toList (r : Wl.R) : (recC r).toList = wr1 r := rfl
theorem wr1_length (r : Wl.R) : (wr1 r).length = 16 := rfl
theorem wrs_length (l : List Wl.R) : (wrs l).length = 16 * l.length := by
  induction l with
  | nil => rfl
  | cons r l ih =>
    have h : wrs (r :: l) = wr1 r ++ wrs l := rfl
    rw [h, List.length_append, ih, List.length_cons, wr1_length]; omega
theorem wrs_at : ∀ (l : List Wl.R) (i : Nat) (h : i < l.length) (j : Nat), j < 16 → (wrs l)[16 * i + j]? = (wr1 l[i])[j]?
  | r :: l, 0, _, j, hj => by
    show (wr1 r ++ wrs l)[16 * 0 + j]? = _
    rw [List.getElem?_append_left (by rw [wr1_length]; omega)]
    congr 1; omega
  | r :: l, i + 1, h, j, hj => by
    have k := wrs_at l i (by simpa using h) j hj
    show (wr1 r ++ wrs l)[16 * (i + 1) + j]? = _
    rw [List.getElem?_append_right (by rw [wr1_length]; omega), wr1_length]
    have e2 : 16 * (i + 1) + j - 16 = 16 * i + j := by omega
    rw [e2, k]; rfl
structure RecL (W : World) (b o : Nat) (r : Wl.R) : Prop where
  lt : b < W.heap.size
  c0 : W.cell? ⟨b, o, none⟩ = some (.int .u8 (r.kind : Int))
  c1 : W.cell? ⟨b, o + 1, none⟩ = some (.int .u64 (r.trm : Int))
  c2 : W.cell? ⟨b, o + 2, none⟩ = some (.int .u8 (r.vote : Int))
  c3 : W.cell? ⟨b, o + 3, none⟩ = some (.int .u64 (r.ent.idx : Int))
  c4 : W.cell? ⟨b, o + 4, none⟩ = some (.int .u64 (r.ent.trm : Int))
  c5 : W.cell? ⟨b, o + 5, none⟩ = some (.int .u8 (r.ent.kind : Int))
  c6 : W.cell? ⟨b, o + 6, none⟩ = some (.int .u8 (r.ent.slot : Int))
  c7 : W.cell? ⟨b, o + 7, none⟩ = some (.int .u8 (r.ent.tok.a0.toNat : Int))
  c8 : W.cell? ⟨b, o + 8, none⟩ = some (.int .u8 (r.ent.tok.a1.toNat : Int))
  c9 : W.cell? ⟨b, o + 9, none⟩ = some (.int .u8 (r.ent.tok.a2.toNat : Int))
  c10 : W.cell? ⟨b, o + 10, none⟩ = some (.int .u8 (r.ent.tok.a3.toNat : Int))
  c11 : W.cell? ⟨b, o + 11, none⟩ = some (.int .u8 (r.ent.tok.a4.toNat : Int))
  c12 : W.cell? ⟨b, o + 12, none⟩ = some (.int .u8 (r.ent.tok.a5.toNat : Int))
  c13 : W.cell? ⟨b, o + 13, none⟩ = some (.int .u8 (r.ent.tok.a6.toNat : Int))
  c14 : W.cell? ⟨b, o + 14, none⟩ = some (.int .u8 (r.ent.tok.a7.toNat : Int))
  c15 : W.cell? ⟨b, o + 15, none⟩ = some (.string r.ent.body)
theorem RecL.bel {W W' : World} {b o : Nat} {r : Wl.R} (h : RecL W b o r) (hb : Below W.heap.size W W') : RecL W' b o r :=
  ⟨Nat.lt_of_lt_of_le h.lt hb.size, later hb h.c0, later hb h.c1, later hb h.c2, later hb h.c3, later hb h.c4, later hb h.c5, later hb h.c6, later hb h.c7, later hb h.c8, later hb h.c9, later hb h.c10, later hb h.c11, later hb h.c12, later hb h.c13, later hb h.c14, later hb h.c15⟩
theorem RecL.of {W : World} {b o : Nat} {r : Wl.R} (hlt : b < W.heap.size) (h : ∀ j, j < 16 → W.cell? ⟨b, o + j, none⟩ = (wr1 r)[j]?) : RecL W b o r :=
  ⟨hlt, h 0 (by decide), h 1 (by decide), h 2 (by decide), h 3 (by decide), h 4 (by decide), h 5 (by decide), h 6 (by decide), h 7 (by decide), h 8 (by decide), h 9 (by decide), h 10 (by decide), h 11 (by decide), h 12 (by decide), h 13 (by decide), h 14 (by decide), h 15 (by decide)⟩
theorem Lies.recd {w : World} {A : Option Addr} {l : List Wl.R} (h : Lies w A (wrs l)) (i : Nat) (hi : i < l.length) :
    ∃ b off, A = some ⟨b, off, none⟩ ∧ RecL w b (off + i * 16) l[i] := by
  rcases h with h | ⟨b, off, rfl, hb, hc⟩
  · exfalso
    have := wrs_length l
    rw [h] at this
    simp at this; omega
  · refine ⟨b, off, rfl, RecL.of hb fun j hj => ?_⟩
    have hk := wrs_at l i hi j hj
    have hl : j < (wr1 l[i]).length := by rw [wr1_length]; exact hj
    rw [List.getElem?_eq_getElem hl] at hk ⊢
    have := hc _ _ hk
    rw [Nat.add_assoc, Nat.mul_comm i 16]
    exact this
theorem sizeRec : (Tryz.prog.info? 90).map (·.size) = some 16 := by kernel_rfl
end Go.Proofs.YtjhbpcecdhdnoaaGreatDoor
namespace Go.Proofs.YtjhbpcecdhdnoaaGreatDoor
open Go.RowKit
section
variable {P : Program}
def lay (X : Array Value) : Nat → List Value → Array Value
  | _, [] => X
  | k, v :: r => lay (X.setIfInBounds k v) (k + 1) r
theorem lay_size : ∀ (vs : List Value) (k : Nat) (X : Array Value), (lay X k vs).size = X.size
  | [], _, _ => rfl
  | v :: r, k, X => by rw [lay, lay_size r]; simp
theorem row_setCells {g : Nat} {T : TypeId} : ∀ (vs : List Value) (k : Nat) (W : World) (X : Array Value), W.heap[g]? = some (.cells X T (0, 0)) → (W.setCells g k vs).heap[g]? = some (.cells (lay X k vs) T (0, 0))
  | [], _, _, _, h => h
  | v :: r, k, W, X, h => by
    rw [World.setCells, lay]
    exact row_setCells r (k + 1) _ _ (heap_setCell_same W g k X T v h)
theorem setCells_other {g j : Nat} (hj : j ≠ g) : ∀ (vs : List Value) (k : Nat) (W : World), (W.setCells g k vs).heap[j]? = W.heap[j]?
  | [], _, _ => rfl
  | v :: r, k, W => by
    rw [World.setCells, setCells_other hj r (k + 1)]
    exact heap_setCell_other W ⟨g, k, none⟩ j v hj
theorem setCells_below {B g : Nat} {w : World} (hg : B ≤ g) : ∀ (vs : List Value) (k : Nat) (W : World), Below B w W → Below B w (W.setCells g k vs)
  | [], _, _, h => h
  | v :: r, k, W, h => by
    rw [World.setCells]
    exact setCells_below hg r (k + 1) _ (h.setCell (p := ⟨g, k, none⟩) hg v)
theorem there_row {W : World} {g : Nat} {X : Array Value} {T : TypeId} (h : W.heap[g]? = some (.cells X T (0, 0))) (k n : Nat) (hn : k + n ≤ X.size) : W.there g k n := fun j hj =>
  ⟨by rw [cell_of_row W g (k + j) X T _ h, Array.getElem?_eq_getElem (by omega)]; rfl, frozen_of_row W g (k + j) X T h⟩
theorem range_row {W : World} {g : Nat} {X : Array Value} {T : TypeId} {fr : Nat × Nat} (h : W.heap[g]? = some (.cells X T fr)) (k : Nat) (Y : Array Value) (hY : ∀ j, j < Y.size → X[k + j]? = Y[j]?) : W.rangeAt g k Y.toList := fun j v hv => by
  have hj : j < Y.size := by simpa using (List.getElem?_eq_some_iff.1 hv).1
  rw [cell_of_row W g (k + j) X T fr h, hY j hj]
  simpa using hv
section
variable {ops : Array Oper} {Q : Exit → Act → World → Prop} {a : Act} {w : World} {rest : List Oper} {o : Oper}
theorem wpList_want (hw : Region.wanted o (yielded ops a.tmps) = true)
    (h : ∀ K : Act → World → Prop, (∀ a w, wpList P ops Q rest a w → K a w) → o.wp P a w K Q) : wpList P ops Q (o :: rest) a w :=
  wpList_step fun K hK => by rw [if_pos hw]; exact h K hK
theorem wpList_load_sub (hw : Region.wanted o (yielded ops a.tmps) = true) (ty : TypeId) (x : Operand) (ho : o.op = .load ty x)
    (g k : Nat) (hx : a.eval x = .pointer (some ⟨g, k, none⟩)) (T : TypeId) (X Y : Array Value) (fr : Nat × Nat) (d : TypeDesc) (hg : w.heap[g]? = some (.cells X T fr)) (hY : ∀ j, j < Y.size → X[k + j]? = Y[j]?)
    (hu : P.underlying ty = some d) (hd : d.isRow = true) (hi : (P.info? ty).map (·.size) = some Y.size)
    (h : wpList P ops Q rest (a.put o.dst (.agg Y)) w) : wpList P ops Q (o :: rest) a w :=
  wpList_want hw fun K hK => wp_load_mid ty x ho g k hx Y.toList d (range_row hg k Y hY) hu hd (by simpa using hi) (by simpa using hK _ _ h)
theorem wpList_store_sub (hw : Region.wanted o (yielded ops a.tmps) = true) (ty : TypeId) (x y : Operand) (ho : o.op = .store ty x y)
    (g k : Nat) (hx : a.eval x = .pointer (some ⟨g, k, none⟩)) (T : TypeId) (X Y : Array Value) (hy : a.eval y = .agg Y) (hg : w.heap[g]? = some (.cells X T (0, 0))) (hk : k + Y.size ≤ X.size)
    (hi : (P.info? ty).map (·.size) = some Y.size) (h1 : Y.all (·.oneCell') = true)
    (h : wpList P ops Q rest (a.put o.dst undef) (w.setCells g k Y.toList)) : wpList P ops Q (o :: rest) a w :=
  wpList_want hw fun K hK => wp_store_mid ty x y ho g k Y hx hy (there_row hg k Y.size hk) hi h1 (hK _ _ h)
end
end
end Go.Proofs.YtjhbpcecdhdnoaaGreatDoor
namespace Go.Proofs.YtjhbpcecdhdnoaaGreatDoor
open Go.RowKit
def eno : Dk.E → Int
  | .ok => 0
  | .arg => 1
  | .nil => 2
  | .none => 4
  | .down => 7
  | .state => 9
theorem eno_inj {a b : Dk.E} : eno a = eno b ↔ a = b := by cases a <;> cases b <;> simp [eno]
def ic (ns : List Int) : List Value := ns.map fun n => Value.int .i64 n
theorem ic_length (ns : List Int) : (ic ns).length = ns.length := by simp [ic]
theorem ic_at (ns : List Int) (i : Nat) (h : i < ns.length) : (ic ns)[i]? = some (.int .i64 (ns.getD i 0)) := by
  simp [ic, List.getElem?_map, List.getElem?_eq_getElem h, List.getD_eq_getElem?_getD]
structure Ga where
  x : Dk.Act
  ka : Option Addr
  kc : Nat
  ta : Option Addr
  tc : Nat
def Ga.none : Ga := ⟨⟨0, Dk.e0, Dk.e0, 0, [], []⟩, Option.none, 0, Option.none, 0⟩
def actC (g : Ga) : Array Value := #[.int .u8 (g.x.op : Int), .string g.x.a, .string g.x.b, .int .i64 g.x.n, .slice g.ka g.x.keep.length g.kc, .slice g.ta g.x.torn.length g.tc]
def ac1 (g : Ga) : List Value := (actC g).toList
def ac (gs : List Ga) : List Value := (gs.map ac1).flatten
theorem ac1_length (g : Ga) : (ac1 g).length = 6 := rfl
theorem ac_length (es : List Ga) : (ac es).length = 6 * es.length := by
  induction es with
  | nil => rfl
  | cons e es ih =>
    have h : ac (e :: es) = ac1 e ++ ac es := rfl
    rw [h, List.length_append, ih, List.length_cons, ac1_length]; omega
theorem ac_at : ∀ (es : List Ga) (i : Nat) (h : i < es.length) (j : Nat), j < 6 → (ac es)[6 * i + j]? = (ac1 es[i])[j]?
  | e :: es, 0, _, j, hj => by
    show (ac1 e ++ ac es)[6 * 0 + j]? = _
    rw [List.getElem?_append_left (by rw [ac1_length]; omega)]
    congr 1; omega
  | e :: es, i + 1, h, j, hj => by
    have k := ac_at es i (by simpa using h) j hj
    show (ac1 e ++ ac es)[6 * (i + 1) + j]? = _
    rw [List.getElem?_append_right (by rw [ac1_length]; omega), ac1_length]
    have e2 : 6 * (i + 1) + j - 6 = 6 * i + j := by omega
    rw [e2, k]; rfl
structure ActL (W : World) (b o : Nat) (g : Ga) : Prop where
  lt : b < W.heap.size
  c0 : W.cell? ⟨b, o, none⟩ = some (.int .u8 (g.x.op : Int))
  c1 : W.cell? ⟨b, o + 1, none⟩ = some (.string g.x.a)
  c2 : W.cell? ⟨b, o + 2, none⟩ = some (.string g.x.b)
  c3 : W.cell? ⟨b, o + 3, none⟩ = some (.int .i64 g.x.n)
  c4 : W.cell? ⟨b, o + 4, none⟩ = some (.slice g.ka g.x.keep.length g.kc)
  c5 : W.cell? ⟨b, o + 5, none⟩ = some (.slice g.ta g.x.torn.length g.tc)
theorem ActL.of {W : World} {b o : Nat} {g : Ga} (hb : b < W.heap.size) (h : ∀ j, j < 6 → W.cell? ⟨b, o + j, none⟩ = (ac1 g)[j]?) : ActL W b o g :=
  ⟨hb, h 0 (by omega), h 1 (by omega), h 2 (by omega), h 3 (by omega), h 4 (by omega), h 5 (by omega)⟩
theorem ActL.rng {W : World} {b o : Nat} {g : Ga} (h : ActL W b o g) : W.rangeAt b o (actC g).toList := fun j v hv => by
  have hj : j < 6 := (List.getElem?_eq_some_iff.1 hv).1
  have : j = 0 ∨ j = 1 ∨ j = 2 ∨ j = 3 ∨ j = 4 ∨ j = 5 := by omega
  rcases this with rfl | rfl | rfl | rfl | rfl | rfl
  · injection hv with hv; subst hv; exact h.c0
  · injection hv with hv; subst hv; exact h.c1
  · injection hv with hv; subst hv; exact h.c2
  · injection hv with hv; subst hv; exact h.c3
  · injection hv with hv; subst hv; exact h.c4
  · injection hv with hv; subst hv; exact h.c5
theorem Lies.act {w : World} {A : Option Addr} {gs : List Ga} (h : Lies w A (ac gs)) (i : Nat) (hi : i < gs.length) :
    ∃ b off, A = some ⟨b, off, none⟩ ∧ ActL w b (off + i * 6) gs[i] := by
  rcases h with h | ⟨b, off, rfl, hb, hc⟩
  · exfalso
    have := ac_length gs
    rw [h] at this
    simp at this; omega
  · refine ⟨b, off, rfl, ActL.of hb fun j hj => ?_⟩
    have hk := ac_at gs i hi j hj
    have hl : j < (ac1 gs[i]).length := by rw [ac1_length]; exact hj
    rw [List.getElem?_eq_getElem hl] at hk ⊢
    have := hc _ _ hk
    rw [Nat.add_assoc, Nat.mul_comm i 6]
    exact this
structure GivenA (W : World) (g : Ga) : Prop where
  op : g.x.op < 256
  a : g.x.a.size ≤ maxLen
  b : g.x.b.size ≤ maxLen
  n : -9223372036854775808 ≤ g.x.n ∧ g.x.n ≤ 9223372036854775807
  kl : Lies W g.ka (ic g.x.keep)
  tl : Lies W g.ta (ic g.x.torn)
  kn : ∀ n ∈ g.x.keep, -9223372036854775808 ≤ n ∧ n ≤ 9223372036854775807
  tn : ∀ n ∈ g.x.torn, -9223372036854775808 ≤ n ∧ n ≤ 9223372036854775807
  km : g.x.keep.length ≤ maxLen
  tm : g.x.torn.length ≤ maxLen
theorem GivenA.below {w w' : World} {g : Ga} (h : GivenA w g) (hb : Below w.heap.size w w') : GivenA w' g :=
  ⟨h.op, h.a, h.b, h.n, h.kl.below hb, h.tl.below hb, h.kn, h.tn, h.km, h.tm⟩
structure GivenC (W : World) (ks ts : List Int) (K T : Option Addr) : Prop where
  kl : Lies W K (ic ks)
  tl : Lies W T (ic ts)
  kn : ∀ n ∈ ks, -9223372036854775808 ≤ n ∧ n ≤ 9223372036854775807
  tn : ∀ n ∈ ts, -9223372036854775808 ≤ n ∧ n ≤ 9223372036854775807
  km : ks.length ≤ maxLen
  tm : ts.length ≤ maxLen
theorem GivenC.below {w w' : World} {ks ts : List Int} {K T : Option Addr} (h : GivenC w ks ts K T) (hb : Below w.heap.size w w') : GivenC w' ks ts K T :=
  ⟨h.kl.below hb, h.tl.below hb, h.kn, h.tn, h.km, h.tm⟩
theorem GivenA.c {W : World} {g : Ga} (h : GivenA W g) : GivenC W g.x.keep g.x.torn g.ka g.ta := ⟨h.kl, h.tl, h.kn, h.tn, h.km, h.tm⟩

/-! ### Worlds of which only a few blocks may have turned -/
structure Ko (S : Nat → Prop) (w w' : World) : Prop where
  os : w'.os = w.os
  tape : w'.tape = w.tape
  output : w'.output = w.output
  size : w.heap.size ≤ w'.heap.size
  block : ∀ k, k < w.heap.size → ¬ S k → w'.heap[k]? = w.heap[k]?
theorem Ko.refl (S : Nat → Prop) (w : World) : Ko S w w := ⟨rfl, rfl, rfl, Nat.le_refl _, fun _ _ _ => rfl⟩
theorem Ko.bel {S : Nat → Prop} {a b : World} (k : Below a.heap.size a b) : Ko S a b := ⟨k.os, k.tape, k.output, k.size, fun i hi _ => k.block i hi⟩
theorem Ko.trans {S T : Nat → Prop} {a b c : World} (h : Ko S a b) (k : Ko T b c) (hs : ∀ k, T k → S k ∨ a.heap.size ≤ k) : Ko S a c :=
  ⟨k.os.trans h.os, k.tape.trans h.tape, k.output.trans h.output, Nat.le_trans h.size k.size, fun i hi hn =>
    (k.block i (Nat.lt_of_lt_of_le hi h.size) fun ht => (hs i ht).elim hn (fun hle => absurd hi (Nat.not_lt.2 hle))).trans (h.block i hi hn)⟩
theorem Ko.drew {S : Nat → Prop} {a b : World} (h : Ko S a b) : Ko S a b.drew := ⟨h.os, h.tape, h.output, h.size, h.block⟩
theorem Ko.mono {S T : Nat → Prop} {a b : World} (h : Ko S a b) (hs : ∀ k, k < a.heap.size → S k → T k) : Ko T a b :=
  ⟨h.os, h.tape, h.output, h.size, fun i hi hn => h.block i hi fun hh => hn (hs i hi hh)⟩
theorem Ko.below {S : Nat → Prop} {B : Nat} {w a b : World} (hb : Below B w a) (h : Ko S a b) (hB : B ≤ a.heap.size) (hS : ∀ k, S k → B ≤ k) : Below B w b :=
  ⟨h.os.trans hb.os, h.tape.trans hb.tape, h.output.trans hb.output, Nat.le_trans hb.size h.size, fun k hk => (h.block k (by omega) fun hh => by have := hS k hh; omega).trans (hb.block k hk)⟩
theorem Ko.row {S : Nat → Prop} {k : Nat} {a b : World} {o : Obj} (h : Ko S a b) (hk : ¬ S k) (hr : a.heap[k]? = some o) : b.heap[k]? = some o := (h.block k (Array.getElem?_eq_some_iff.1 hr).1 hk).trans hr
def Away (S : Nat → Prop) (A : Option Addr) (vs : List Value) : Prop := ∀ b off, vs ≠ [] → A = some ⟨b, off, none⟩ → ¬ S b
theorem Lies.ko {S : Nat → Prop} {w w' : World} {A : Option Addr} {vs : List Value} (h : Lies w A vs) (ha : Away S A vs) (hb : Ko S w w') : Lies w' A vs := by
  rcases h with h | ⟨b, off, rfl, hlt, hc⟩
  · exact .inl h
  · by_cases hv : vs = []
    · exact .inl hv
    · exact .inr ⟨b, off, rfl, Nat.lt_of_lt_of_le hlt hb.size, fun i u hu => (World.cell?_of_block (w := w) (a := ⟨b, off + i, none⟩) (hb.block b hlt (ha b off hv rfl))).trans (hc i u hu)⟩
theorem Away.of_lt {S : Nat → Prop} {B : Nat} {w : World} {A : Option Addr} {vs : List Value} (h : Lies w A vs) (hB : w.heap.size ≤ B) (hS : ∀ k, S k → B ≤ k) : Away S A vs := by
  rintro b off hv rfl hs
  rcases h with h | ⟨b', off', he, hlt, _⟩
  · exact hv h
  · simp only [Option.some.injEq, Addr.mk.injEq, and_true] at he
    obtain ⟨rfl, rfl⟩ := he
    have := hS b hs; omega
theorem Away.sub {S T : Nat → Prop} {n : Nat} {w : World} {A : Option Addr} {vs : List Value} (h : Away S A vs) (hl : Lies w A vs) (hn : w.heap.size ≤ n) (hT : ∀ k, T k → S k ∨ n ≤ k) : Away T A vs := by
  rintro b off hv rfl ht
  rcases hT b ht with hs | hle
  · exact h b off hv rfl hs
  · rcases hl with h | ⟨b', off', he, hlt, _⟩
    · exact hv h
    · simp only [Option.some.injEq, Addr.mk.injEq, and_true] at he
      obtain ⟨rfl, rfl⟩ := he
      omega
structure Now (At : World → Nat → (Nat → Prop) → Dk.D → Prop) (w W : World) (p : Nat) (S : Nat → Prop) (d : Dk.D) : Prop where
  ex : ∃ S', At W p S' d ∧ ∀ k, S' k → S k ∨ w.heap.size ≤ k
  ko : Ko S w W
theorem Now.trans {At : World → Nat → (Nat → Prop) → Dk.D → Prop} {a b c : World} {p : Nat} {S S' : Nat → Prop} {e : Dk.D} (hk : Ko S a b) (hs : ∀ k, S' k → S k ∨ a.heap.size ≤ k) (h : Now At b c p S' e) : Now At a c p S e := by
  obtain ⟨⟨S2, h1, h2⟩, h3⟩ := h
  exact ⟨⟨S2, h1, fun k hk2 => (h2 k hk2).elim (fun h => hs k h) (fun h => .inr (Nat.le_trans hk.size h))⟩, hk.trans h3 hs⟩
end Go.Proofs.YtjhbpcecdhdnoaaGreatDoor
namespace Go.Proofs.YtjhbpcecdhdnoaaGreatDoor
open Go.RowKit Go.Sort
section
variable {P : Program} {ops : Array Oper} {Q : Act → Prop} {a : Act} {o : Oper} {rest : List Oper}
theorem row_regrown {w : World} {g : Nat} {X : Array Value} {T : TypeId} {fr : Nat × Nat} (h : w.heap[g]? = some (.cells X T fr)) (d : Nat) (os : Array Obj) : (grow (redrawn w d) os).heap[g]? = some (.cells X T fr) :=
  ((below_regrown w d os).block g (Array.getElem?_eq_some_iff.1 h).1).trans h
theorem wpQuiet_load_sub {w : World} (hw : Region.wanted o (yielded ops a.tmps) = true) (ty : TypeId) (x : Operand) (ho : o.op = .load ty x)
    (g k : Nat) (hx : a.eval x = .pointer (some ⟨g, k, none⟩)) (T : TypeId) (X Y : Array Value) (fr : Nat × Nat) (d : TypeDesc) (hg : w.heap[g]? = some (.cells X T fr)) (hY : ∀ j, j < Y.size → X[k + j]? = Y[j]?)
    (hu : P.underlying ty = some d) (hd : d.isRow = true) (hi : (P.info? ty).map (·.size) = some Y.size)
    (h : wpQuiet P ops (fun w' => ∃ p : Regrown, w' = grow (redrawn w p.d) p.os) Q rest (a.put o.dst (.agg Y))) : wpQuiet P ops (fun w' => ∃ p : Regrown, w' = grow (redrawn w p.d) p.os) Q (o :: rest) a :=
  BigFrame.wpQuiet_want hw fun K hK => ⟨.agg Y, fun w' hw' => by
    obtain ⟨p, rfl⟩ := hw'
    unfold Oper.quietAt execOp
    have hr := run_loadVar_mid (P := P) (grow (redrawn w p.d) p.os) g k ty Y.toList d (range_row (row_regrown hg p.d p.os) k Y hY) hu hd (by simpa using hi)
    simp only [ho, hx, Instr.loadAt, Instr.sureAddr, Sem.run_bind, Sem.run_pure, Result.andThen_ok, hr]
    exact ⟨rfl, rfl⟩, hK _ h⟩
end
end Go.Proofs.YtjhbpcecdhdnoaaGreatDoor
