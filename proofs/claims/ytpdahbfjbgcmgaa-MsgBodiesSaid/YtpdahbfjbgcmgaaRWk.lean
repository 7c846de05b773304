/-
  cmd's walker, as an interface: what a walker's steps come to, and which memory they may turn. No step is walked here.
-/
import Derived.Test.YtpdahbfjbgcmgaaRCmd
import Derived.Laws.OwnMore
set_option linter.unusedSimpArgs false
set_option linter.unusedVariables false
namespace Go.Proofs.Ytpdahbfjbgcmgaa
open Go.RowKit

namespace Wk
/-- A walker's state: the bytes written so far, or still to be read. -/
structure St where
  l : List UInt8
  bad : Bool
/-- What a walker's steps come to. -/
structure Alg where
  oct : St → Nat → Nat → Nat → Nat × St
  grp : St → Nat → Nat → Nat × St
  txt : St → ByteArray → ByteArray × St
  tok : St → List UInt8 → List UInt8 × St
  lenO : ∀ s n a b, (oct s n a b).2.l.length ≤ s.l.length + 10
  lenG : ∀ s n m, n < Nm.top → (grp s n m).2.l.length ≤ s.l.length + 10
  lenT : ∀ s x, x.size < Nm.top → (txt s x).2.l.length ≤ s.l.length + x.size + 10
  lenK : ∀ s t, t.length = 8 → (tok s t).2.l.length ≤ s.l.length + 10
  ltO : ∀ s n a b, n < 256 → (oct s n a b).1 < 256
  ltG : ∀ s n m, n < Nm.top → (grp s n m).1 < Nm.top
  leG : ∀ s n m, (grp s n m).1 ≤ m
  szT : ∀ s x, (txt s x).1.size ≤ s.l.length + x.size
  szK : ∀ s t, t.length = 8 → (tok s t).1.length = 8
end Wk

/-- Of the blocks that were there only g, and o's, may have turned; o's is then o' 's, which is o's, or new. -/
structure Kept (g : Nat) (o o' : Option Nat) (w w' : World) : Prop where
  os : w'.os = w.os
  tape : w'.tape = w.tape
  output : w'.output = w.output
  size : w.heap.size ≤ w'.heap.size
  block : ∀ k, k < w.heap.size → k ≠ g → o ≠ some k → w'.heap[k]? = w.heap[k]?
  new : ∀ k, o' = some k → o = some k ∨ w.heap.size ≤ k
theorem Kept.refl (g : Nat) (o : Option Nat) (w : World) : Kept g o o w w := ⟨rfl, rfl, rfl, Nat.le_refl _, fun _ _ _ _ => rfl, fun _ h => .inl h⟩
theorem Kept.trans {g : Nat} {o o' o'' : Option Nat} {a b c : World} (h : Kept g o o' a b) (k : Kept g o' o'' b c) : Kept g o o'' a c :=
  ⟨k.os.trans h.os, k.tape.trans h.tape, k.output.trans h.output, Nat.le_trans h.size k.size,
   fun i hi hg ho => (k.block i (Nat.lt_of_lt_of_le hi h.size) hg (fun e => by rcases h.new i e with e | e; (exact ho e); omega)).trans (h.block i hi hg ho),
   fun i e => by rcases k.new i e with e | e; (exact h.new i e); exact .inr (Nat.le_trans h.size e)⟩
theorem Kept.alloc {g : Nat} {o o' : Option Nat} {a b : World} (h : Kept g o o' a b) (x : Obj) : Kept g o o' a (b.alloc x) :=
  ⟨h.os, h.tape, h.output, by rw [World.size_alloc]; have := h.size; omega, fun k hk hg ho => (Below.heap_alloc _ _ _ (Nat.lt_of_lt_of_le hk h.size)).trans (h.block k hk hg ho), h.new⟩
theorem Kept.set {g : Nat} {o o' : Option Nat} {a b : World} (h : Kept g o o' a b) (k : Nat) (hk : a.heap.size ≤ k) (i : Nat) (v : Value) : Kept g o o' a (b.setCell ⟨k, i, none⟩ v) :=
  ⟨h.os, h.tape, h.output, by simpa using h.size, fun j hj hg ho => (Below.heap_setCell _ _ _ _ (by simp; omega)).trans (h.block j hj hg ho), h.new⟩
theorem Kept.setg {g : Nat} {o o' : Option Nat} {a b : World} (h : Kept g o o' a b) (i : Nat) (v : Value) : Kept g o o' a (b.setCell ⟨g, i, none⟩ v) :=
  ⟨h.os, h.tape, h.output, by simpa using h.size, fun j hj hg ho => (Below.heap_setCell _ _ _ _ (by simpa using hg)).trans (h.block j hj hg ho), h.new⟩
theorem Kept.bel {g : Nat} {o o' : Option Nat} {a b c : World} (h : Kept g o o' a b) (k : Below b.heap.size b c) : Kept g o o' a c :=
  ⟨k.os.trans h.os, k.tape.trans h.tape, k.output.trans h.output, Nat.le_trans h.size k.size, fun j hj hg ho => (k.block j (Nat.lt_of_lt_of_le hj h.size)).trans (h.block j hj hg ho), h.new⟩
theorem Kept.below {g B : Nat} {o o' : Option Nat} {w a b : World} (hb : Below B w a) (h : Kept g o o' a b) (hB : B ≤ a.heap.size) (hg : B ≤ g) (ho : ∀ k, o = some k → B ≤ k) : Below B w b :=
  ⟨h.os.trans hb.os, h.tape.trans hb.tape, h.output.trans hb.output, Nat.le_trans hb.size h.size, fun k hk => (h.block k (by omega) (by omega) (fun e => by have := ho k e; omega)).trans (hb.block k hk)⟩

/-- A walker of dynamic type T, whose memory lies from block B on. -/
structure Wkr (T : TypeId) (A : Wk.Alg) (B : Nat) where
  At : World → Nat → Option Nat → Wk.St → Prop
  lo : ∀ {W g o s}, At W g o s → B ≤ g ∧ g < W.heap.size ∧ o ≠ some g ∧ ∀ k, o = some k → B ≤ k ∧ k < W.heap.size
  /-- Its blocks are no rows of parts, rows or commands. -/
  ne : ∀ {W g o s} (k : Nat) (cs : Array Value) (t : TypeId) (fr : Nat × Nat), At W g o s → W.heap[k]? = some (.cells cs t fr) → (t = 23 ∨ t = 89) → k ≠ g ∧ o ≠ some k
  /-- What it is hangs on its own blocks alone. -/
  by_ : ∀ {W W' g o s}, At W g o s → W.heap.size ≤ W'.heap.size → W'.heap[g]? = W.heap[g]? → (∀ k, o = some k → W'.heap[k]? = W.heap[k]?) → At W' g o s
  fO : FuncId
  fG : FuncId
  fT : FuncId
  fK : FuncId
  fS : FuncId
  eO : ∀ (a : Array Value) (w : World), (callFunc fO a).run Try.prog w = .ok (.enter fO a) w
  eG : ∀ (a : Array Value) (w : World), (callFunc fG a).run Try.prog w = .ok (.enter fG a) w
  eT : ∀ (a : Array Value) (w : World), (callFunc fT a).run Try.prog w = .ok (.enter fT a) w
  eK : ∀ (a : Array Value) (w : World), (callFunc fK a).run Try.prog w = .ok (.enter fK a) w
  eS : ∀ (a : Array Value) (w : World), (callFunc fS a).run Try.prog w = .ok (.enter fS a) w
  mO : ∀ (g : Nat) (w : World), (method 280 T (.pointer (some ⟨g, 0, none⟩)) "wapentake/cmd.octet").run Try.prog w = .ok (fO, .pointer (some ⟨g, 0, none⟩)) w
  mG : ∀ (g : Nat) (w : World), (method 280 T (.pointer (some ⟨g, 0, none⟩)) "wapentake/cmd.groups").run Try.prog w = .ok (fG, .pointer (some ⟨g, 0, none⟩)) w
  mT : ∀ (g : Nat) (w : World), (method 280 T (.pointer (some ⟨g, 0, none⟩)) "wapentake/cmd.text").run Try.prog w = .ok (fT, .pointer (some ⟨g, 0, none⟩)) w
  mK : ∀ (g : Nat) (w : World), (method 280 T (.pointer (some ⟨g, 0, none⟩)) "wapentake/cmd.token").run Try.prog w = .ok (fK, .pointer (some ⟨g, 0, none⟩)) w
  mS : ∀ (g : Nat) (w : World), (method 280 T (.pointer (some ⟨g, 0, none⟩)) "wapentake/cmd.sound").run Try.prog w = .ok (fS, .pointer (some ⟨g, 0, none⟩)) w
  cO : ∀ (W : World) (g : Nat) (o : Option Nat) (s : Wk.St) (n a b : Nat), At W g o s → s.l.length ≤ 1000000000 → n < 256 → a < 256 → b < 256 →
    Calls Try.prog fO #[.pointer (some ⟨g, 0, none⟩), .int .u8 (n : Int), .int .u8 (a : Int), .int .u8 (b : Int)] W fun e w' => e = .returned (.int .u8 ((A.oct s n a b).1 : Int)) ∧ ∃ o', At w' g o' (A.oct s n a b).2 ∧ Kept g o o' W w'
  cG : ∀ (W : World) (g : Nat) (o : Option Nat) (s : Wk.St) (n m : Nat), At W g o s → s.l.length ≤ 1000000000 → n < Nm.top → m < Nm.top →
    Calls Try.prog fG #[.pointer (some ⟨g, 0, none⟩), .int .u64 (n : Int), .int .u64 (m : Int)] W fun e w' => e = .returned (.int .u64 ((A.grp s n m).1 : Int)) ∧ ∃ o', At w' g o' (A.grp s n m).2 ∧ Kept g o o' W w'
  cT : ∀ (W : World) (g : Nat) (o : Option Nat) (s : Wk.St) (x : ByteArray), At W g o s → s.l.length ≤ 1000000000 → x.size ≤ 10000000 →
    Calls Try.prog fT #[.pointer (some ⟨g, 0, none⟩), .string x] W fun e w' => e = .returned (.string (A.txt s x).1) ∧ ∃ o', At w' g o' (A.txt s x).2 ∧ Kept g o o' W w'
  cS : ∀ (W : World) (g : Nat) (o : Option Nat) (s : Wk.St), At W g o s → Calls Try.prog fS #[.pointer (some ⟨g, 0, none⟩)] W fun e w' => e = .returned (.bool (!s.bad)) ∧ W = w'

/-- A walker's value. -/
def wv (T : TypeId) (g : Nat) : Value := .iface T (.pointer (some ⟨g, 0, none⟩))

theorem Wkr.alloc {T : TypeId} {A : Wk.Alg} {B : Nat} (K : Wkr T A B) {W : World} {g : Nat} {o : Option Nat} {s : Wk.St} (h : K.At W g o s) (x : Obj) : K.At (W.alloc x) g o s := by
  obtain ⟨_, hg, _, ho⟩ := K.lo h
  exact K.by_ h (by simp) (Below.heap_alloc _ _ _ hg) (fun k e => Below.heap_alloc _ _ _ (ho k e).2)
theorem Wkr.bel {T : TypeId} {A : Wk.Alg} {B : Nat} (K : Wkr T A B) {W W' : World} {g : Nat} {o : Option Nat} {s : Wk.St} (h : K.At W g o s) (hb : Below W.heap.size W W') : K.At W' g o s := by
  obtain ⟨_, hg, _, ho⟩ := K.lo h
  exact K.by_ h hb.size (hb.block _ hg) (fun k e => hb.block _ (ho k e).2)
/-- A block of the caller's own. -/
structure Loc (W : World) (g : Nat) (o : Option Nat) (h : Nat) (cs : Array Value) (t : TypeId) : Prop where
  row : W.heap[h]? = some (.cells cs t (0, 0))
  ng : h ≠ g
  no : o ≠ some h
theorem Loc.lt {W : World} {g : Nat} {o : Option Nat} {h : Nat} {cs : Array Value} {t : TypeId} (k : Loc W g o h cs t) : h < W.heap.size := (Array.getElem?_eq_some_iff.1 k.row).1
theorem Loc.call {W W' : World} {g : Nat} {o o' : Option Nat} {h : Nat} {cs : Array Value} {t : TypeId} (k : Loc W g o h cs t) (c : Kept g o o' W W') : Loc W' g o' h cs t :=
  ⟨(c.block h k.lt k.ng k.no).trans k.row, k.ng, fun e => by rcases c.new h e with e | e; (exact k.no e); have := k.lt; omega⟩
theorem Loc.alloc {W : World} {g : Nat} {o : Option Nat} {h : Nat} {cs : Array Value} {t : TypeId} (k : Loc W g o h cs t) (x : Obj) : Loc (W.alloc x) g o h cs t :=
  ⟨(Below.heap_alloc _ _ _ k.lt).trans k.row, k.ng, k.no⟩
theorem Loc.new {T : TypeId} {A : Wk.Alg} {B : Nat} (K : Wkr T A B) {W : World} {g : Nat} {o : Option Nat} {s : Wk.St} (h : K.At W g o s) (cs : Array Value) (t : TypeId) : Loc (W.alloc (.cells cs t)) g o W.heap.size cs t := by
  obtain ⟨_, hg, _, ho⟩ := K.lo h
  exact ⟨heap_alloc_new W _, by omega, fun e => by have := (ho _ e).2; omega⟩
theorem Loc.put {W : World} {g : Nat} {o : Option Nat} {h : Nat} {cs ds : Array Value} {t : TypeId} (k : Loc W g o h cs t) (i : Nat) (v : Value) (hd : cs.setIfInBounds i v = ds) : Loc (W.setCell ⟨h, i, none⟩ v) g o h ds t :=
  ⟨by rw [heap_setCell_same W h i _ _ v k.row, hd], k.ng, k.no⟩
theorem Loc.other {W : World} {g : Nat} {o : Option Nat} {h : Nat} {cs : Array Value} {t : TypeId} (k : Loc W g o h cs t) (j i : Nat) (v : Value) (hj : h ≠ j) : Loc (W.setCell ⟨j, i, none⟩ v) g o h cs t :=
  ⟨(Below.heap_setCell _ _ _ _ (by simpa using hj)).trans k.row, k.ng, k.no⟩
theorem Wkr.set {T : TypeId} {A : Wk.Alg} {B : Nat} (K : Wkr T A B) {W : World} {g : Nat} {o : Option Nat} {s : Wk.St} (h : K.At W g o s) (j i : Nat) (v : Value) (hj : j ≠ g) (ho : o ≠ some j) : K.At (W.setCell ⟨j, i, none⟩ v) g o s :=
  K.by_ h (by simp) (Below.heap_setCell _ _ _ _ (by simp; omega)) (fun k e => Below.heap_setCell _ _ _ _ (by simp; intro h; exact ho (by rw [e, h])))
/-- The memory that an append to a row of one's own has left. -/
theorem Wkr.grown {T : TypeId} {A : Wk.Alg} {B : Nat} (K : Wkr T A B) {W W' : World} {g : Nat} {o row : Option Nat} {s : Wk.St} (h : K.At W g o s) (hg : W.grownBy W' row) (hr : ∀ k, row = some k → k ≠ g ∧ o ≠ some k) : K.At W' g o s := by
  obtain ⟨_, hlt, _, ho⟩ := K.lo h
  exact K.by_ h hg.size (hg.block _ hlt (fun e => (hr _ e.symm).1 rfl)) (fun k e => hg.block _ (ho k e).2 (fun e2 => (hr _ e2.symm).2 e))
theorem own_by {W W' : World} {base : Nat} {e : TypeId} {size : Nat} {v : Value} {n : Nat} {xs : List Value} (h : W.ownsRow base e size v n xs) (hb : ∀ k, v.ownBlock = some k → W'.heap[k]? = W.heap[k]?) : W'.ownsRow base e size v n xs := by
  refine ⟨h.1, ?_⟩
  rcases h.2 with k | ⟨g, cap, cur, hv, hg, hr, rest⟩
  · exact .inl k
  · exact .inr ⟨g, cap, cur, hv, hg, (hb g (by rw [hv]; rfl)).trans hr, rest⟩
end Go.Proofs.Ytpdahbfjbgcmgaa
