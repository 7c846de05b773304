/-
  What the steps of the document's reader of messages come to (mathematics, and the message while it is read).
-/
import Derived.Test.YtpdahbfjbgcmgaaRMgRd
import Derived.Test.YtpdahbfjbgcmgaaREnRefRd
import Derived.Laws.OwnMore
set_option linter.unusedSimpArgs false
set_option linter.unusedVariables false
namespace Go.Proofs.Ytpdahbfjbgcmgaa
open Go.RowKit
namespace Mg
open Cm (rdB rdV rdS rdB_iff rdV_iff rdS_iff one)
/-- n numbers as groups. -/
def rdVs : Nat → List UInt8 → Option (List Nat × List UInt8)
  | 0, l => some ([], l)
  | n + 1, l => (rdV l).bind fun (v, l) => (rdVs n l).bind fun (vs, l) => some (v :: vs, l)
theorem rdVs_none {n : Nat} {l : List UInt8} (h : rdV l = none) : rdVs (n + 1) l = none := by rw [rdVs, h]; rfl
theorem rdVs_some {n v : Nat} {l r : List UInt8} (h : rdV l = some (v, r)) : rdVs (n + 1) l = (rdVs n r).bind fun x => some (v :: x.1, x.2) := by rw [rdVs, h]; rfl
theorem rd5_eq (l : List UInt8) : rd5 l = (rdVs 5 l).bind fun x => match x.1 with
    | [a, b, c, d, e] => some ((a, b, c, d, e), x.2)
    | _ => none := by
  unfold rd5
  rcases h1 : rdV l with _ | ⟨a, l1⟩
  · rw [rdVs_none h1]; rfl
  rw [rdVs_some h1, Option.bind_some]
  simp only []
  rcases h2 : rdV l1 with _ | ⟨b, l2⟩
  · rw [rdVs_none h2]; rfl
  rw [rdVs_some h2, Option.bind_some]
  simp only []
  rcases h3 : rdV l2 with _ | ⟨c, l3⟩
  · rw [rdVs_none h3]; rfl
  rw [rdVs_some h3, Option.bind_some]
  simp only []
  rcases h4 : rdV l3 with _ | ⟨d, l4⟩
  · rw [rdVs_none h4]; rfl
  rw [rdVs_some h4, Option.bind_some]
  simp only []
  rcases h5 : rdV l4 with _ | ⟨e, l5⟩
  · rw [rdVs_none h5]; rfl
  rw [rdVs_some h5, Option.bind_some]
  rfl
/-- k numbers of five are read. -/
structure VI (q : List UInt8) (k : Nat) (ns : List Nat) (l : List UInt8) : Prop where
  len : ns.length = k
  le : k ≤ 5
  fit : ∀ n ∈ ns, n < Nm.top
  eq : rdVs 5 q = (rdVs (5 - k) l).bind fun x => some (ns ++ x.1, x.2)
theorem VI.start (q : List UInt8) : VI q 0 [] q := by
  refine ⟨rfl, by omega, fun n hn => (by cases hn), ?_⟩
  rw [Nat.sub_zero]
  rcases rdVs 5 q with _ | ⟨a, b⟩ <;> rfl
theorem VI.step {q l r : List UInt8} {k v : Nat} {ns : List Nat} (h : VI q k ns l) (hk : k < 5) (hv : rdV l = some (v, r)) : VI q (k + 1) (ns ++ [v]) r := by
  refine ⟨by rw [List.length_append, h.len]; rfl, hk, fun n hn => ?_, ?_⟩
  · rcases List.mem_append.1 hn with hn | hn
    · exact h.fit n hn
    · rw [List.mem_singleton.1 hn]; exact ((rdV_iff _ _ _).1 hv).1
  · rw [h.eq, show 5 - k = (5 - (k + 1)) + 1 by omega, rdVs_some hv]
    rcases rdVs (5 - (k + 1)) r with _ | ⟨a, b⟩
    · rfl
    · simp
theorem VI.no {q l : List UInt8} {k : Nat} {ns : List Nat} (h : VI q k ns l) (hk : k < 5) (hv : rdV l = none) : rd5 q = none := by
  rw [rd5_eq, h.eq, show 5 - k = (5 - (k + 1)) + 1 by omega, rdVs_none hv]; rfl
theorem VI.fin {q l : List UInt8} {ns : List Nat} (h : VI q 5 ns l) : ∃ a b c d e, ns = [a, b, c, d, e] ∧ rd5 q = some ((a, b, c, d, e), l) := by
  rcases ns with _ | ⟨a, _ | ⟨b, _ | ⟨c, _ | ⟨d, _ | ⟨e, _ | ⟨f, x⟩⟩⟩⟩⟩⟩
  any_goals (have := h.len; simp at this)
  refine ⟨a, b, c, d, e, rfl, ?_⟩
  rw [rd5_eq, h.eq]; rfl
/-- k entries of many are read. -/
structure EI (many : Nat) (q : List UInt8) (k : Nat) (es : List En.E) (l : List UInt8) : Prop where
  len : es.length = k
  fit : ∀ e ∈ es, En.Fits e
  eq : rdE many q = (rdE (many - k) l).bind fun x => some (es ++ x.1, x.2)
theorem EI.start (many : Nat) (q : List UInt8) : EI many q 0 [] q := by
  refine ⟨rfl, fun n hn => (by cases hn), ?_⟩
  rw [Nat.sub_zero]
  rcases rdE many q with _ | ⟨a, b⟩ <;> rfl
theorem rd1E_some {l r : List UInt8} {y : ByteArray} {e : En.E} (h1 : rdS l = some (y, r)) (h2 : En.read y.data.toList = some e) : rd1E l = some (e, r) := by
  unfold rd1E
  rw [h1, Option.bind_some]
  simp only []
  rw [h2]; rfl
theorem rd1E_no1 {l : List UInt8} (h1 : rdS l = none) : rd1E l = none := by unfold rd1E; rw [h1]; rfl
theorem rd1E_no2 {l r : List UInt8} {y : ByteArray} (h1 : rdS l = some (y, r)) (h2 : En.read y.data.toList = none) : rd1E l = none := by
  unfold rd1E
  rw [h1, Option.bind_some]
  simp only []
  rw [h2]; rfl
theorem EI.step {many : Nat} {q l r : List UInt8} {k : Nat} {e : En.E} {es : List En.E} (h : EI many q k es l) (hk : k < many) (hv : rd1E l = some (e, r)) : EI many q (k + 1) (es ++ [e]) r := by
  refine ⟨by rw [List.length_append, h.len]; rfl, fun n hn => ?_, ?_⟩
  · rcases List.mem_append.1 hn with hn | hn
    · exact h.fit n hn
    · rw [List.mem_singleton.1 hn]; exact ((rd1E_iff _ _ _).1 hv).1.fits
  · rw [h.eq, show many - k = (many - (k + 1)) + 1 by omega, rdE, hv, Option.bind_some]
    simp only []
    rcases rdE (many - (k + 1)) r with _ | ⟨a, b⟩
    · rfl
    · simp
theorem EI.no {many : Nat} {q l : List UInt8} {k : Nat} {es : List En.E} (h : EI many q k es l) (hk : k < many) (hv : rd1E l = none) : rdE many q = none := by
  rw [h.eq, show many - k = (many - (k + 1)) + 1 by omega, rdE, hv]; rfl
theorem EI.fin {many : Nat} {q l : List UInt8} {es : List En.E} (h : EI many q many es l) : rdE many q = some (es, l) := by
  rw [h.eq, Nat.sub_self, rdE, Option.bind_some]
  simp
/-- What stands behind the five numbers. -/
def rd4 (l : List UInt8) : Option ((Bool × Nat × Nat × Nat) × List UInt8) :=
  (rdT l).bind fun (o, l) => (rdB l).bind fun (m, l) => (rdB l).bind fun (s, l) => (rdB l).bind fun (n, l) => some ((o, m, s, n), l)
theorem parse4 (l : List UInt8) : parse l = (rd3 l).bind fun ((k, f, t), l) => (rd5 l).bind fun ((a, b, c, d, e), l) => (rd4 l).bind fun ((o, m, s, n), l) => (rdE n l).bind fun (es, l) => (rdS l).bind fun (y, l) => some (⟨k, f, t, a, b, c, d, e, o, m, s, es, y⟩, l) := by
  unfold parse rd4 rdEs
  rcases rd3 l with _ | ⟨⟨k, f, t⟩, l1⟩
  · rfl
  simp only [Option.bind_some]
  rcases rd5 l1 with _ | ⟨⟨a, b, c, d, e⟩, l2⟩
  · rfl
  simp only [Option.bind_some]
  rcases rdT l2 with _ | ⟨o, l3⟩
  · rfl
  simp only [Option.bind_some]
  rcases rdB l3 with _ | ⟨m, l4⟩
  · rfl
  simp only [Option.bind_some]
  rcases rdB l4 with _ | ⟨s, l5⟩
  · rfl
  simp only [Option.bind_some]
  rcases rdB l5 with _ | ⟨n, l6⟩
  · rfl
  rfl
theorem rd4_few (l : List UInt8) (h : l.length < 4) : rd4 l = none := by
  unfold rd4 rdT
  rcases l with _ | ⟨a, _ | ⟨b, _ | ⟨c, _ | ⟨d, r⟩⟩⟩⟩
  · rfl
  · simp only [rdB, Option.bind_some]; split <;> rfl
  · simp only [rdB, Option.bind_some]; split <;> rfl
  · simp only [rdB, Option.bind_some]; split <;> rfl
  · simp at h; omega
theorem rd4_at (s : ByteArray) (a : Nat) (h : a + 4 ≤ s.size) : rd4 (s.data.toList.drop a) = if (s[a]'(by omega)).toNat ≤ 1 then some (((s[a]'(by omega)).toNat == 1, (s[a + 1]'(by omega)).toNat, (s[a + 2]'(by omega)).toNat, (s[a + 3]'(by omega)).toNat), s.data.toList.drop (a + 4)) else none := by
  rw [drop_cons s a (by omega), drop_cons s (a + 1) (by omega), drop_cons s (a + 2) (by omega), drop_cons s (a + 3) (by omega)]
  unfold rd4 rdT
  simp only [rdB, Option.bind_some]
  split <;> rfl
theorem rd3_at (s : ByteArray) (h : 3 ≤ s.size) : rd3 s.data.toList = some (((s[0]'(by omega)).toNat, (s[1]'(by omega)).toNat, (s[2]'(by omega)).toNat), s.data.toList.drop 3) := by
  show rd3 (s.data.toList.drop 0) = _
  rw [drop_cons s 0 (by omega), drop_cons s (0 + 1) (by omega), drop_cons s (0 + 1 + 1) (by omega)]
  rfl
theorem read_few (s : ByteArray) (h : s.size < 3) : read s.data.toList = none := by
  rcases hr : read s.data.toList with _ | e
  · rfl
  · exfalso
    obtain ⟨_, _, hl⟩ := (read_iff _ _).1 hr
    have := congrArg List.length hl
    rw [← Lib.size_eq] at this
    unfold enc one at this
    simp only [List.length_append, List.length_singleton] at this
    omega
end Mg
theorem rdS_eq2 (l : List UInt8) : Cm.rdS l = match Nm.readS l with | some (y, k) => some (⟨y.toArray⟩, l.drop k) | none => none := rfl
/-- The message under way: the result, zero, lies in the call's first block, the message's row in q. -/
structure RdM (w W : World) (q : Nat) (X : Array Value) : Prop where
  b : Below w.heap.size w W
  lo : w.heap.size < q
  z : W.heap[w.heap.size]? = some (.cells (msgC Mg.zero none 0) 63 (0, 0))
  r : W.heap[q]? = some (.cells X 63 (0, 0))
theorem RdM.lt {w W : World} {q : Nat} {X : Array Value} (h : RdM w W q X) : q < W.heap.size := (Array.getElem?_eq_some_iff.1 h.r).1
theorem RdM.grow {w W W' : World} {q : Nat} {X : Array Value} (h : RdM w W q X) (k : Below W.heap.size W W') : RdM w W' q X :=
  ⟨bnext h.b k, h.lo, (k.block _ (Array.getElem?_eq_some_iff.1 h.z).1).trans h.z, (k.block _ h.lt).trans h.r⟩
theorem RdM.put {w W : World} {q : Nat} {X : Array Value} (h : RdM w W q X) (i : Nat) (v : Value) : RdM w (W.setCell ⟨q, i, none⟩ v) q (X.setIfInBounds i v) :=
  ⟨h.b.setCell (p := ⟨q, i, none⟩) (by have := h.lo; simp; omega) v, h.lo, (Below.heap_setCell _ _ _ _ (by have := h.lo; simp; omega)).trans h.z, heap_setCell_same W q i X _ v h.r⟩
theorem RdM.drew {w W : World} {q : Nat} {X : Array Value} (h : RdM w W q X) : RdM w W.drew q X := ⟨below_drew h.b, h.lo, row_drew h.z, row_drew h.r⟩
/-- The memory that an append has left. -/
theorem RdM.grown {w W W' : World} {q : Nat} {X : Array Value} {row : Option Nat} (h : RdM w W q X) (hg : W.grownBy W' row) (hr : ∀ k, row = some k → q + 1 ≤ k) : RdM w W' q X := by
  have hlo := h.lo
  have hlt := h.lt
  have key : ∀ k, k ≤ q → W'.heap[k]? = W.heap[k]? := fun k hk => hg.block k (by omega) (fun e => by have := hr k e.symm; omega)
  exact ⟨h.b.grown hg h.b.size (fun k e => by have := hr k e; omega), h.lo, (key _ (by omega)).trans h.z, (key _ (by omega)).trans h.r⟩
theorem own_liesE {W : World} {base : Nat} {A : Option Addr} {cap : Nat} {es : List En.E} (h : W.ownsRow base 65 13 (.slice A es.length cap) es.length (ec es)) : Lies W A (ec es) ∧ ∀ b off, A = some ⟨b, off, none⟩ → base ≤ b := by
  rcases h.2 with ⟨e, hn⟩ | ⟨g, cap', cur, e, hb, hg, _, _, hcs, htake⟩
  · have : es = [] := List.eq_nil_of_length_eq_zero hn
    subst this
    injection e with e1
    subst e1
    exact ⟨.inl rfl, fun b off h => by cases h⟩
  · injection e with e1 e2 e3
    subst e1
    refine ⟨.inr ⟨g, 0, rfl, (Array.getElem?_eq_some_iff.1 hg).1, fun i u hu => ?_⟩, fun b off h => by injection h with h; injection h with h; omega⟩
    have := h.cells (g := g) rfl i u hu
    have e : (⟨g, 0, none⟩ : Addr).add i = ⟨g, 0 + i, none⟩ := by unfold Addr.add; split <;> simp_all
    rwa [e] at this
theorem own_liesN {W : World} {base : Nat} {v : Value} {ns : List Nat} (h : W.ownsRow base 25 1 v ns.length (uc ns)) (hn : ns ≠ []) : ∃ g cap, v = .slice (some ⟨g, 0, none⟩) ns.length cap ∧ base ≤ g ∧ ∀ i (hi : i < ns.length), W.cell? ⟨g, i, none⟩ = some (.int .u64 (ns[i] : Int)) := by
  rcases h.2 with ⟨e, hn0⟩ | ⟨g, cap', cur, e, hb, hg, _, _, hcs, htake⟩
  · exact absurd (List.eq_nil_of_length_eq_zero hn0) hn
  · refine ⟨g, cap', e, hb, fun i hi => ?_⟩
    have := h.cells (g := g) (by rw [e]; rfl) i (.int .u64 (ns[i] : Int)) (by unfold uc; rw [List.getElem?_map, List.getElem?_eq_getElem hi]; rfl)
    have e : (⟨g, 0, none⟩ : Addr).add i = ⟨g, 0 + i, none⟩ := by unfold Addr.add; split <;> simp_all
    rw [e, Nat.zero_add] at this
    exact this
theorem msgLies {W : World} {g : Nat} {m : Mg.M} {A B : Option Addr} {cap : Nat} {vs : List Value} (h : Lies W B vs) (hb : ∀ b off, B = some ⟨b, off, none⟩ → b ≠ g) :
    Lies ((((((((((((((W.setCell ⟨g, 0, none⟩ (.int .u8 (m.kind : Int))).setCell ⟨g, 1, none⟩ (.int .u8 (m.frm : Int))).setCell ⟨g, 2, none⟩ (.int .u8 (m.tto : Int))).setCell ⟨g, 3, none⟩ (.int .u64 (m.trm : Int))).setCell ⟨g, 4, none⟩ (.int .u64 (m.idx : Int))).setCell ⟨g, 5, none⟩ (.int .u64 (m.ltm : Int))).setCell ⟨g, 6, none⟩ (.int .u64 (m.com : Int))).setCell ⟨g, 7, none⟩ (.int .u64 (m.rnd : Int))).setCell ⟨g, 8, none⟩ (.bool m.ok)).setCell ⟨g, 9, none⟩ (.int .u8 (m.mem : Int))).setCell ⟨g, 10, none⟩ (.int .u8 (m.sec : Int))).setCell ⟨g, 11, none⟩ (.slice A m.ents.length cap)).setCell ⟨g, 12, none⟩ (.string m.body))) B vs := by
  rcases h with h | ⟨b, off, rfl, hlt, hc⟩
  · exact .inl h
  · exact .inr ⟨b, off, rfl, by simpa using hlt, fun i u hu => (World.cell?_of_block (msgOther (m := m) (A := A) (cap := cap) (hb b off rfl))).trans (hc i u hu)⟩
end Go.Proofs.Ytpdahbfjbgcmgaa
