/-
  cmd's walker, as an interface: what a walker's steps come to, and which memory they may turn. No step is walked here.
  cmd.walkPart walked, by any walker.
  cmd.walkItems of parts walked, by any walker.
  cmd.walkParts walked, by any walker.
-/
import Derived.Test.YtlcgjlganmblpaaRCmd
import Derived.Test.YtlcgjlganmblpaaRTake
import Derived.Laws.OwnMore
import Derived.Deep.DeepCutAuto
import Derived.Deep.CutBlock
set_option linter.unusedSimpArgs false
set_option linter.unusedVariables false
namespace Go.Proofs.Ytlcgjlganmblpaa
open Go.RowKit

namespace Wk
/-- A walker's state: the bytes written so far, or still to be read. -/
structure St where
  l : List UInt8
  bad : Bool
/-- What a walker's steps come to. -/
structure Alg where
  oct : St → Nat → Nat → Nat → Nat × St
  grp : St → Nat → Nat → Nat × St
  txt : St → ByteArray → ByteArray × St
  tok : St → List UInt8 → List UInt8 × St
  lenO : ∀ s n a b, (oct s n a b).2.l.length ≤ s.l.length + 10
  lenG : ∀ s n m, n < Nm.top → (grp s n m).2.l.length ≤ s.l.length + 10
  lenT : ∀ s x, x.size < Nm.top → (txt s x).2.l.length ≤ s.l.length + x.size + 10
  lenK : ∀ s t, t.length = 8 → (tok s t).2.l.length ≤ s.l.length + 10
  ltO : ∀ s n a b, n < 256 → (oct s n a b).1 < 256
  ltG : ∀ s n m, n < Nm.top → (grp s n m).1 < Nm.top
  leG : ∀ s n m, (grp s n m).1 ≤ m
  szT : ∀ s x, (txt s x).1.size ≤ s.l.length + x.size
  szK : ∀ s t, t.length = 8 → (tok s t).1.length = 8
end Wk

/-- Of the blocks that were there only g, and o's, may have turned; o's is then o' 's, which is o's, or new. -/
structure Kept (g : Nat) (o o' : Option Nat) (w w' : World) : Prop where
  os : w'.os = w.os
  tape : w'.tape = w.tape
  output : w'.output = w.output
  size : w.heap.size ≤ w'.heap.size
  block : ∀ k, k < w.heap.size → k ≠ g → o ≠ some k → w'.heap[k]? = w.heap[k]?
  new : ∀ k, o' = some k → o = some k ∨ w.heap.size ≤ k
theorem Kept.refl (g : Nat) (o : Option Nat) (w : World) : Kept g o o w w := ⟨rfl, rfl, rfl, Nat.le_refl _, fun _ _ _ _ => rfl, fun _ h => .inl h⟩
theorem Kept.trans {g : Nat} {o o' o'' : Option Nat} {a b c : World} (h : Kept g o o' a b) (k : Kept g o' o'' b c) : Kept g o o'' a c :=
  ⟨k.os.trans h.os, k.tape.trans h.tape, k.output.trans h.output, Nat.le_trans h.size k.size,
   fun i hi hg ho => (k.block i (Nat.lt_of_lt_of_le hi h.size) hg (fun e => by rcases h.new i e with e | e; (exact ho e); omega)).trans (h.block i hi hg ho),
   fun i e => by rcases k.new i e with e | e; (exact h.new i e); exact .inr (Nat.le_trans h.size e)⟩
theorem Kept.alloc {g : Nat} {o o' : Option Nat} {a b : World} (h : Kept g o o' a b) (x : Obj) : Kept g o o' a (b.alloc x) :=
  ⟨h.os, h.tape, h.output, by rw [World.size_alloc]; have := h.size; omega, fun k hk hg ho => (Below.heap_alloc _ _ _ (Nat.lt_of_lt_of_le hk h.size)).trans (h.block k hk hg ho), h.new⟩
theorem Kept.set {g : Nat} {o o' : Option Nat} {a b : World} (h : Kept g o o' a b) (k : Nat) (hk : a.heap.size ≤ k) (i : Nat) (v : Value) : Kept g o o' a (b.setCell ⟨k, i, none⟩ v) :=
  ⟨h.os, h.tape, h.output, by simpa using h.size, fun j hj hg ho => (Below.heap_setCell _ _ _ _ (by simp; omega)).trans (h.block j hj hg ho), h.new⟩
theorem Kept.setg {g : Nat} {o o' : Option Nat} {a b : World} (h : Kept g o o' a b) (i : Nat) (v : Value) : Kept g o o' a (b.setCell ⟨g, i, none⟩ v) :=
  ⟨h.os, h.tape, h.output, by simpa using h.size, fun j hj hg ho => (Below.heap_setCell _ _ _ _ (by simpa using hg)).trans (h.block j hj hg ho), h.new⟩
theorem Kept.bel {g : Nat} {o o' : Option Nat} {a b c : World} (h : Kept g o o' a b) (k : Below b.heap.size b c) : Kept g o o' a c :=
  ⟨k.os.trans h.os, k.tape.trans h.tape, k.output.trans h.output, Nat.le_trans h.size k.size, fun j hj hg ho => (k.block j (Nat.lt_of_lt_of_le hj h.size)).trans (h.block j hj hg ho), h.new⟩
theorem Kept.below {g B : Nat} {o o' : Option Nat} {w a b : World} (hb : Below B w a) (h : Kept g o o' a b) (hB : B ≤ a.heap.size) (hg : B ≤ g) (ho : ∀ k, o = some k → B ≤ k) : Below B w b :=
  ⟨h.os.trans hb.os, h.tape.trans hb.tape, h.output.trans hb.output, Nat.le_trans hb.size h.size, fun k hk => (h.block k (by omega) (by omega) (fun e => by have := ho k e; omega)).trans (hb.block k hk)⟩

/-- A walker of dynamic type T, whose memory lies from block B on. -/
structure Wkr (T : TypeId) (A : Wk.Alg) (B : Nat) where
  At : World → Nat → Option Nat → Wk.St → Prop
  lo : ∀ {W g o s}, At W g o s → B ≤ g ∧ g < W.heap.size ∧ o ≠ some g ∧ ∀ k, o = some k → B ≤ k ∧ k < W.heap.size
  /-- Its blocks are no rows of parts, rows or commands. -/
  ne : ∀ {W g o s} (k : Nat) (cs : Array Value) (t : TypeId) (fr : Nat × Nat), At W g o s → W.heap[k]? = some (.cells cs t fr) → (t = 91 ∨ t = 78) → k ≠ g ∧ o ≠ some k
  /-- What it is hangs on its own blocks alone. -/
  by_ : ∀ {W W' g o s}, At W g o s → W.heap.size ≤ W'.heap.size → W'.heap[g]? = W.heap[g]? → (∀ k, o = some k → W'.heap[k]? = W.heap[k]?) → At W' g o s
  fO : FuncId
  fG : FuncId
  fT : FuncId
  fK : FuncId
  fS : FuncId
  eO : ∀ (a : Array Value) (w : World), (callFunc fO a).run Try.prog w = .ok (.enter fO a) w
  eG : ∀ (a : Array Value) (w : World), (callFunc fG a).run Try.prog w = .ok (.enter fG a) w
  eT : ∀ (a : Array Value) (w : World), (callFunc fT a).run Try.prog w = .ok (.enter fT a) w
  eK : ∀ (a : Array Value) (w : World), (callFunc fK a).run Try.prog w = .ok (.enter fK a) w
  eS : ∀ (a : Array Value) (w : World), (callFunc fS a).run Try.prog w = .ok (.enter fS a) w
  mO : ∀ (g : Nat) (w : World), (method 259 T (.pointer (some ⟨g, 0, none⟩)) "wapentake/cmd.octet").run Try.prog w = .ok (fO, .pointer (some ⟨g, 0, none⟩)) w
  mG : ∀ (g : Nat) (w : World), (method 259 T (.pointer (some ⟨g, 0, none⟩)) "wapentake/cmd.groups").run Try.prog w = .ok (fG, .pointer (some ⟨g, 0, none⟩)) w
  mT : ∀ (g : Nat) (w : World), (method 259 T (.pointer (some ⟨g, 0, none⟩)) "wapentake/cmd.text").run Try.prog w = .ok (fT, .pointer (some ⟨g, 0, none⟩)) w
  mK : ∀ (g : Nat) (w : World), (method 259 T (.pointer (some ⟨g, 0, none⟩)) "wapentake/cmd.token").run Try.prog w = .ok (fK, .pointer (some ⟨g, 0, none⟩)) w
  mS : ∀ (g : Nat) (w : World), (method 259 T (.pointer (some ⟨g, 0, none⟩)) "wapentake/cmd.sound").run Try.prog w = .ok (fS, .pointer (some ⟨g, 0, none⟩)) w
  cO : ∀ (W : World) (g : Nat) (o : Option Nat) (s : Wk.St) (n a b : Nat), At W g o s → s.l.length ≤ 1000000000 → n < 256 → a < 256 → b < 256 →
    Calls Try.prog fO #[.pointer (some ⟨g, 0, none⟩), .int .u8 (n : Int), .int .u8 (a : Int), .int .u8 (b : Int)] W fun e w' => e = .returned (.int .u8 ((A.oct s n a b).1 : Int)) ∧ ∃ o', At w' g o' (A.oct s n a b).2 ∧ Kept g o o' W w'
  cG : ∀ (W : World) (g : Nat) (o : Option Nat) (s : Wk.St) (n m : Nat), At W g o s → s.l.length ≤ 1000000000 → n < Nm.top → m < Nm.top →
    Calls Try.prog fG #[.pointer (some ⟨g, 0, none⟩), .int .u64 (n : Int), .int .u64 (m : Int)] W fun e w' => e = .returned (.int .u64 ((A.grp s n m).1 : Int)) ∧ ∃ o', At w' g o' (A.grp s n m).2 ∧ Kept g o o' W w'
  cT : ∀ (W : World) (g : Nat) (o : Option Nat) (s : Wk.St) (x : ByteArray), At W g o s → s.l.length ≤ 1000000000 → x.size ≤ 10000000 →
    Calls Try.prog fT #[.pointer (some ⟨g, 0, none⟩), .string x] W fun e w' => e = .returned (.string (A.txt s x).1) ∧ ∃ o', At w' g o' (A.txt s x).2 ∧ Kept g o o' W w'
  cS : ∀ (W : World) (g : Nat) (o : Option Nat) (s : Wk.St), At W g o s → Calls Try.prog fS #[.pointer (some ⟨g, 0, none⟩)] W fun e w' => e = .returned (.bool (!s.bad)) ∧ W = w'

/-- A walker's value. -/
def wv (T : TypeId) (g : Nat) : Value := .iface T (.pointer (some ⟨g, 0, none⟩))

theorem Wkr.alloc {T : TypeId} {A : Wk.Alg} {B : Nat} (K : Wkr T A B) {W : World} {g : Nat} {o : Option Nat} {s : Wk.St} (h : K.At W g o s) (x : Obj) : K.At (W.alloc x) g o s := by
  obtain ⟨_, hg, _, ho⟩ := K.lo h
  exact K.by_ h (by simp) (Below.heap_alloc _ _ _ hg) (fun k e => Below.heap_alloc _ _ _ (ho k e).2)
theorem Wkr.bel {T : TypeId} {A : Wk.Alg} {B : Nat} (K : Wkr T A B) {W W' : World} {g : Nat} {o : Option Nat} {s : Wk.St} (h : K.At W g o s) (hb : Below W.heap.size W W') : K.At W' g o s := by
  obtain ⟨_, hg, _, ho⟩ := K.lo h
  exact K.by_ h hb.size (hb.block _ hg) (fun k e => hb.block _ (ho k e).2)
/-- A block of the caller's own. -/
structure Loc (W : World) (g : Nat) (o : Option Nat) (h : Nat) (cs : Array Value) (t : TypeId) : Prop where
  row : W.heap[h]? = some (.cells cs t (0, 0))
  ng : h ≠ g
  no : o ≠ some h
theorem Loc.lt {W : World} {g : Nat} {o : Option Nat} {h : Nat} {cs : Array Value} {t : TypeId} (k : Loc W g o h cs t) : h < W.heap.size := (Array.getElem?_eq_some_iff.1 k.row).1
theorem Loc.call {W W' : World} {g : Nat} {o o' : Option Nat} {h : Nat} {cs : Array Value} {t : TypeId} (k : Loc W g o h cs t) (c : Kept g o o' W W') : Loc W' g o' h cs t :=
  ⟨(c.block h k.lt k.ng k.no).trans k.row, k.ng, fun e => by rcases c.new h e with e | e; (exact k.no e); have := k.lt; omega⟩
theorem Loc.alloc {W : World} {g : Nat} {o : Option Nat} {h : Nat} {cs : Array Value} {t : TypeId} (k : Loc W g o h cs t) (x : Obj) : Loc (W.alloc x) g o h cs t :=
  ⟨(Below.heap_alloc _ _ _ k.lt).trans k.row, k.ng, k.no⟩
theorem Loc.new {T : TypeId} {A : Wk.Alg} {B : Nat} (K : Wkr T A B) {W : World} {g : Nat} {o : Option Nat} {s : Wk.St} (h : K.At W g o s) (cs : Array Value) (t : TypeId) : Loc (W.alloc (.cells cs t)) g o W.heap.size cs t := by
  obtain ⟨_, hg, _, ho⟩ := K.lo h
  exact ⟨heap_alloc_new W _, by omega, fun e => by have := (ho _ e).2; omega⟩
theorem Loc.put {W : World} {g : Nat} {o : Option Nat} {h : Nat} {cs ds : Array Value} {t : TypeId} (k : Loc W g o h cs t) (i : Nat) (v : Value) (hd : cs.setIfInBounds i v = ds) : Loc (W.setCell ⟨h, i, none⟩ v) g o h ds t :=
  ⟨by rw [heap_setCell_same W h i _ _ v k.row, hd], k.ng, k.no⟩
theorem Loc.other {W : World} {g : Nat} {o : Option Nat} {h : Nat} {cs : Array Value} {t : TypeId} (k : Loc W g o h cs t) (j i : Nat) (v : Value) (hj : h ≠ j) : Loc (W.setCell ⟨j, i, none⟩ v) g o h cs t :=
  ⟨(Below.heap_setCell _ _ _ _ (by simpa using hj)).trans k.row, k.ng, k.no⟩
theorem Wkr.set {T : TypeId} {A : Wk.Alg} {B : Nat} (K : Wkr T A B) {W : World} {g : Nat} {o : Option Nat} {s : Wk.St} (h : K.At W g o s) (j i : Nat) (v : Value) (hj : j ≠ g) (ho : o ≠ some j) : K.At (W.setCell ⟨j, i, none⟩ v) g o s :=
  K.by_ h (by simp) (Below.heap_setCell _ _ _ _ (by simp; omega)) (fun k e => Below.heap_setCell _ _ _ _ (by simp; intro h; exact ho (by rw [e, h])))
/-- The memory that an append to a row of one's own has left. -/
theorem Wkr.grown {T : TypeId} {A : Wk.Alg} {B : Nat} (K : Wkr T A B) {W W' : World} {g : Nat} {o row : Option Nat} {s : Wk.St} (h : K.At W g o s) (hg : W.grownBy W' row) (hr : ∀ k, row = some k → k ≠ g ∧ o ≠ some k) : K.At W' g o s := by
  obtain ⟨_, hlt, _, ho⟩ := K.lo h
  exact K.by_ h hg.size (hg.block _ hlt (fun e => (hr _ e.symm).1 rfl)) (fun k e => hg.block _ (ho k e).2 (fun e2 => (hr _ e2.symm).2 e))
theorem own_by {W W' : World} {base : Nat} {e : TypeId} {size : Nat} {v : Value} {n : Nat} {xs : List Value} (h : W.ownsRow base e size v n xs) (hb : ∀ k, v.ownBlock = some k → W'.heap[k]? = W.heap[k]?) : W'.ownsRow base e size v n xs := by
  refine ⟨h.1, ?_⟩
  rcases h.2 with k | ⟨g, cap, cur, hv, hg, hr, rest⟩
  · exact .inl k
  · exact .inr ⟨g, cap, cur, hv, hg, (hb g (by rw [hv]; rfl)).trans hr, rest⟩
end Go.Proofs.Ytlcgjlganmblpaa
namespace Go.Proofs.Ytlcgjlganmblpaa
open Go.RowKit
/-- How memory stands while a struct is walked: the argument's block a, the result's b, the one that is built c. -/
structure WS {T : TypeId} {A : Wk.Alg} {B : Nat} (K : Wkr T A B) (W0 W : World) (g : Nat) (o0 o : Option Nat) (s : Wk.St) (t : TypeId) (a b c : Nat) (cs zs us : Array Value) : Prop where
  at_ : K.At W g o s
  kept : Kept g o0 o W0 W
  la : Loc W g o a cs t
  lb : Loc W g o b zs t
  lc : Loc W g o c us t
  lo : W0.heap.size ≤ a
  ab : a < b
  bc : b < c
theorem WS.start {T : TypeId} {A : Wk.Alg} {B : Nat} (K : Wkr T A B) {W : World} {g : Nat} {o : Option Nat} {s : Wk.St} (h : K.At W g o s) (t : TypeId) (cs zs us : Array Value) :
    WS K W (((W.alloc (.cells cs t)).alloc (.cells zs t)).alloc (.cells us t)) g o o s t W.heap.size (W.heap.size + 1) (W.heap.size + 1 + 1) cs zs us := by
  have h1 := K.alloc h (.cells cs t)
  have h2 := K.alloc h1 (.cells zs t)
  have h3 := K.alloc h2 (.cells us t)
  have l1 := Loc.new K h cs t
  have l2 := Loc.new K h1 zs t
  have l3 := Loc.new K h2 us t
  rw [World.size_alloc] at l2
  rw [World.size_alloc, World.size_alloc] at l3
  exact ⟨h3, (((Kept.refl _ _ _).alloc _).alloc _).alloc _, (l1.alloc _).alloc _, l2.alloc _, l3, Nat.le_refl _, by omega, by omega⟩
theorem WS.call {T : TypeId} {A : Wk.Alg} {B : Nat} {K : Wkr T A B} {W0 W W' : World} {g : Nat} {o0 o o' : Option Nat} {s s' : Wk.St} {t : TypeId} {a b c : Nat} {cs zs us : Array Value} (h : WS K W0 W g o0 o s t a b c cs zs us) (h1 : K.At W' g o' s') (hk : Kept g o o' W W') :
    WS K W0 W' g o0 o' s' t a b c cs zs us := ⟨h1, h.kept.trans hk, h.la.call hk, h.lb.call hk, h.lc.call hk, h.lo, h.ab, h.bc⟩
theorem WS.put {T : TypeId} {A : Wk.Alg} {B : Nat} {K : Wkr T A B} {W0 W : World} {g : Nat} {o0 o : Option Nat} {s : Wk.St} {t : TypeId} {a b c : Nat} {cs zs us vs : Array Value} (h : WS K W0 W g o0 o s t a b c cs zs us) (i : Nat) (v : Value) (hd : us.setIfInBounds i v = vs) :
    WS K W0 (W.setCell ⟨c, i, none⟩ v) g o0 o s t a b c cs zs vs := by
  have := h.lo; have := h.ab; have := h.bc
  exact ⟨K.set h.at_ c i v h.lc.ng h.lc.no, h.kept.set c (by omega) i v, h.la.other c i v (by omega), h.lb.other c i v (by omega), h.lc.put i v hd, h.lo, h.ab, h.bc⟩
/-- A cell of the result is laid. -/
theorem WS.res {T : TypeId} {A : Wk.Alg} {B : Nat} {K : Wkr T A B} {W0 W : World} {g : Nat} {o0 o : Option Nat} {s : Wk.St} {t : TypeId} {a b c : Nat} {cs zs us vs : Array Value} (h : WS K W0 W g o0 o s t a b c cs zs us) (i : Nat) (v : Value) (hd : zs.setIfInBounds i v = vs) :
    WS K W0 (W.setCell ⟨b, i, none⟩ v) g o0 o s t a b c cs vs us := by
  have := h.lo; have := h.ab; have := h.bc
  exact ⟨K.set h.at_ b i v h.lb.ng h.lb.no, h.kept.set b (by omega) i v, h.la.other b i v (by omega), h.lb.put i v hd, h.lc.other b i v (by omega), h.lo, h.ab, h.bc⟩
theorem Loc.cell {W : World} {g : Nat} {o : Option Nat} {h : Nat} {cs : Array Value} {t : TypeId} (k : Loc W g o h cs t) (i : Nat) : W.cell? ⟨h, i, none⟩ = cs[i]? := cell_of_row W h i _ _ _ k.row
theorem Loc.fz {W : World} {g : Nat} {o : Option Nat} {h : Nat} {cs : Array Value} {t : TypeId} (k : Loc W g o h cs t) (i : Nat) : W.frozen? ⟨h, i, none⟩ = false := frozen_of_row W h i _ _ k.row
namespace Wk
def Alg.part (A : Alg) (s : St) (p : Cm.Part) : Cm.Part × St :=
  if (A.oct s p.op 2 3).1 = 2 then (⟨(A.oct s p.op 2 3).1, (A.txt (A.oct s p.op 2 3).2 p.key).1, (A.txt (A.txt (A.oct s p.op 2 3).2 p.key).2 p.val).1⟩, (A.txt (A.txt (A.oct s p.op 2 3).2 p.key).2 p.val).2)
  else (⟨(A.oct s p.op 2 3).1, (A.txt (A.oct s p.op 2 3).2 p.key).1, Cm.e0⟩, (A.txt (A.oct s p.op 2 3).2 p.key).2)
end Wk
/-- A part's cells, as a row. -/
def pa (p : Cm.Part) : Array Value := #[.int .u8 (p.op : Int), .string p.key, .string p.val]
theorem sizePart : (Try.prog.info? 91).map (·.size) = some 3 := by kernel_rfl
set_option maxRecDepth 100000 in
set_option maxHeartbeats 1000000 in
theorem walkPart_any {T : TypeId} {A : Wk.Alg} {B : Nat} (K : Wkr T A B) (W : World) (g : Nat) (o : Option Nat) (s : Wk.St) (p : Cm.Part) (h : K.At W g o s) (hl : s.l.length ≤ 900000000) (hp : p.op < 256) (hk : p.key.size ≤ 10000000) (hv : p.val.size ≤ 10000000) :
    Calls Try.prog 87 #[.iface T (.pointer (some ⟨g, 0, none⟩)), .agg #[.int .u8 (p.op : Int), .string p.key, .string p.val]] W fun e w' => e = .returned (.agg (pa (A.part s p).1)) ∧ ∃ o', K.At w' g o' (A.part s p).2 ∧ Kept g o o' W w' := by
  have HS := Lib.hid (WS.start K h 91 #[.int .u8 (p.op : Int), .string p.key, .string p.val] #[.int .u8 0, .string ⟨#[]⟩, .string ⟨#[]⟩] #[.int .u8 0, .string ⟨#[]⟩, .string ⟨#[]⟩])
  clear h
  have mO := K.mO g
  have mT := K.mT g
  have eO := K.eO
  have eT := K.eT
  go_enter Try.func87, Try.ntmps87
  go_wp2_with fail
  have S := HS.out
  have hc := K.cO _ g o s p.op 2 3 S.at_ (by omega) hp (by omega) (by omega)
  have l1 := A.lenO s p.op 2 3
  have t1 := A.ltO s p.op 2 3 hp
  obtain ⟨r1, hr1⟩ : ∃ r, r = A.oct s p.op 2 3 := ⟨_, rfl⟩
  rw [← hr1] at hc l1 t1
  obtain ⟨x, s1⟩ := r1
  simp only at hc l1 t1
  refine hc.mono ?_
  rintro e w1 ⟨rfl, o1, hA1, hK1⟩
  have S1 := S.call hA1 hK1
  have S2 := S1.put 0 (.int .u8 (x : Int)) rfl
  have k0 : w1.cell? ⟨W.heap.size + 1 + 1, 0, none⟩ = some (.int .u8 0) := S1.lc.cell 0
  have z0 := S1.lc.fz 0
  have k1 : (w1.setCell ⟨W.heap.size + 1 + 1, 0, none⟩ (.int .u8 (x : Int))).cell? ⟨W.heap.size, 1, none⟩ = some (.string p.key) := S2.la.cell 1
  have HS2 := Lib.hid S2
  have Hr1 := Lib.hid hr1
  clear S S1 hA1 hK1 HS hc hr1 S2
  go_wp2_with fail
  have S2 := HS2.out
  have hc := K.cT _ g o1 s1 p.key S2.at_ (by omega) hk
  have l2 := A.lenT s1 p.key (by unfold Nm.top; omega)
  obtain ⟨r2, hr2⟩ : ∃ r, r = A.txt s1 p.key := ⟨_, rfl⟩
  rw [← hr2] at hc l2
  obtain ⟨key, s2⟩ := r2
  simp only at hc l2
  refine hc.mono ?_
  rintro e w2 ⟨rfl, o2, hA2, hK2⟩
  have S3 := S2.call hA2 hK2
  have S4 := S3.put 1 (.string key) rfl
  have k3 : w2.cell? ⟨W.heap.size + 1 + 1, 1, none⟩ = some (.string ⟨#[]⟩) := S3.lc.cell 1
  have z3 := S3.lc.fz 1
  have k4 : (w2.setCell ⟨W.heap.size + 1 + 1, 1, none⟩ (.string key)).cell? ⟨W.heap.size + 1 + 1, 0, none⟩ = some (.int .u8 (x : Int)) := S4.lc.cell 0
  have k5 : (w2.setCell ⟨W.heap.size + 1 + 1, 1, none⟩ (.string key)).cell? ⟨W.heap.size, 2, none⟩ = some (.string p.val) := S4.la.cell 2
  have HS4 := Lib.hid S4
  have Hr2 := Lib.hid hr2
  clear S2 S3 hA2 hK2 HS2 hc hr2 S4 k0 z0 k1
  by_cases h2 : x = 2
  · have e2 : ((x : Int) == 2) = true := by rw [beq_iff_eq]; omega
    have H2 := Lib.hid h2
    clear h2
    go_wp2_with fail
    have S4 := HS4.out
    have hc := K.cT _ g o2 s2 p.val S4.at_ (by omega) hv
    obtain ⟨r3, hr3⟩ : ∃ r, r = A.txt s2 p.val := ⟨_, rfl⟩
    rw [← hr3] at hc
    obtain ⟨val, s3⟩ := r3
    simp only at hc
    refine hc.mono ?_
    rintro e w3 ⟨rfl, o3, hA3, hK3⟩
    have S5 := S4.call hA3 hK3
    have S6 := S5.put 2 (.string val) rfl
    have k6 : w3.cell? ⟨W.heap.size + 1 + 1, 2, none⟩ = some (.string ⟨#[]⟩) := S5.lc.cell 2
    have z6 := S5.lc.fz 2
    have HS6 := Lib.hid S6
    have Hr3 := Lib.hid hr3
    clear S4 S5 hA3 hK3 HS4 hc hr3 S6 k3 z3 k4 k5
    go_upto_region 6 with (fail)
    refine forget (fun W' => WS K W W' g o o3 s3 91 W.heap.size (W.heap.size + 1) (W.heap.size + 1 + 1) #[.int .u8 (p.op : Int), .string p.key, .string p.val] #[.int .u8 0, .string ⟨#[]⟩, .string ⟨#[]⟩] #[.int .u8 (x : Int), .string key, .string val]) HS6.out ?_
    clear HS6 k6 z6
    intro W6 S6
    have c0 : W6.cell? ⟨W.heap.size + 1 + 1, 0, none⟩ = some (.int .u8 (x : Int)) := S6.lc.cell 0
    have c1 : W6.cell? ⟨W.heap.size + 1 + 1, 1, none⟩ = some (.string key) := S6.lc.cell 1
    have c2 : W6.cell? ⟨W.heap.size + 1 + 1, 2, none⟩ = some (.string val) := S6.lc.cell 2
    have d0 : W6.cell? ⟨W.heap.size + 1, 0, none⟩ = some (.int .u8 0) := S6.lb.cell 0
    have d1 : W6.cell? ⟨W.heap.size + 1, 1, none⟩ = some (.string ⟨#[]⟩) := S6.lb.cell 1
    have d2 : W6.cell? ⟨W.heap.size + 1, 2, none⟩ = some (.string ⟨#[]⟩) := S6.lb.cell 2
    have y0 := S6.lb.fz 0
    have y1 := S6.lb.fz 1
    have y2 := S6.lb.fz 2
    have HS := Lib.hid (((S6.res 0 (.int .u8 (x : Int)) rfl).res 1 (.string key) rfl).res 2 (.string val) rfl)
    clear S6
    go_wp2_with fail
    have S := HS.out
    refine bodyPost_ret (results_cell_row (P := Try.prog) (fn := Try.f87) rfl _ _ _ 91 _ (0, 0) _ rfl S.lb.row Try.underlying91 rfl sizePart) rfl ⟨?_, o3, ?_, S.kept⟩
    · unfold Wk.Alg.part; rw [← Hr1.out]; simp only; rw [if_pos H2.out, ← Hr2.out]; simp only; rw [← Hr3.out]; rfl
    · unfold Wk.Alg.part; rw [← Hr1.out]; simp only; rw [if_pos H2.out, ← Hr2.out]; simp only; rw [← Hr3.out]; exact S.at_
  · have e2 : ((x : Int) == 2) = false := by rw [beq_eq_false_iff_ne]; omega
    have H2 := Lib.hid h2
    clear h2
    go_upto_region 6 with (fail)
    refine forget (fun W' => WS K W W' g o o2 s2 91 W.heap.size (W.heap.size + 1) (W.heap.size + 1 + 1) #[.int .u8 (p.op : Int), .string p.key, .string p.val] #[.int .u8 0, .string ⟨#[]⟩, .string ⟨#[]⟩] #[.int .u8 (x : Int), .string key, .string ⟨#[]⟩]) HS4.out ?_
    clear HS4 k3 z3 k4 k5
    intro W6 S6
    have c0 : W6.cell? ⟨W.heap.size + 1 + 1, 0, none⟩ = some (.int .u8 (x : Int)) := S6.lc.cell 0
    have c1 : W6.cell? ⟨W.heap.size + 1 + 1, 1, none⟩ = some (.string key) := S6.lc.cell 1
    have c2 : W6.cell? ⟨W.heap.size + 1 + 1, 2, none⟩ = some (.string ⟨#[]⟩) := S6.lc.cell 2
    have d0 : W6.cell? ⟨W.heap.size + 1, 0, none⟩ = some (.int .u8 0) := S6.lb.cell 0
    have d1 : W6.cell? ⟨W.heap.size + 1, 1, none⟩ = some (.string ⟨#[]⟩) := S6.lb.cell 1
    have d2 : W6.cell? ⟨W.heap.size + 1, 2, none⟩ = some (.string ⟨#[]⟩) := S6.lb.cell 2
    have y0 := S6.lb.fz 0
    have y1 := S6.lb.fz 1
    have y2 := S6.lb.fz 2
    have HS := Lib.hid (((S6.res 0 (.int .u8 (x : Int)) rfl).res 1 (.string key) rfl).res 2 (.string ⟨#[]⟩) rfl)
    clear S6
    go_wp2_with fail
    have S := HS.out
    refine bodyPost_ret (results_cell_row (P := Try.prog) (fn := Try.f87) rfl _ _ _ 91 _ (0, 0) _ rfl S.lb.row Try.underlying91 rfl sizePart) rfl ⟨?_, o2, ?_, S.kept⟩
    · unfold Wk.Alg.part; rw [← Hr1.out]; simp only; rw [if_neg H2.out, ← Hr2.out]; rfl
    · unfold Wk.Alg.part; rw [← Hr1.out]; simp only; rw [if_neg H2.out, ← Hr2.out]; exact S.at_
end Go.Proofs.Ytlcgjlganmblpaa
namespace Go.Proofs.Ytlcgjlganmblpaa
open Go.RowKit
namespace Wk
def zeroP : Cm.Part := ⟨0, Cm.e0, Cm.e0⟩
def Alg.parts (A : Alg) : Nat → List Cm.Part → St → List Cm.Part × St
  | 0, _, s => ([], s)
  | n + 1, xs, s => if s.bad then ([], s) else ((A.part s (xs.headD zeroP)).1 :: (A.parts n xs.tail (A.part s (xs.headD zeroP)).2).1, (A.parts n xs.tail (A.part s (xs.headD zeroP)).2).2)
end Wk
/-- How memory stands while items are walked. -/
structure IS {T : TypeId} {A : Wk.Alg} {B : Nat} (K : Wkr T A B) (W0 W : World) (g : Nat) (o0 o : Option Nat) (s : Wk.St) (v : Value) (t : TypeId) (n : Nat) (cs : List Value) : Prop where
  at_ : K.At W g o s
  kept : Kept g o0 o W0 W
  own : W.ownsRow W0.heap.size t 3 v n cs
theorem IS.bel {T : TypeId} {A : Wk.Alg} {B : Nat} {K : Wkr T A B} {W0 W W' : World} {g : Nat} {o0 o : Option Nat} {s : Wk.St} {v : Value} {t : TypeId} {n : Nat} {cs : List Value} (h : IS K W0 W g o0 o s v t n cs) (hb : Below W.heap.size W W') : IS K W0 W' g o0 o s v t n cs := by
  refine ⟨K.bel h.at_ hb, h.kept.bel hb, own_by h.own fun k e => hb.block k ?_⟩
  rcases h.own.2 with ⟨hv, _⟩ | ⟨q, cap, cur, hv, _, hq, _⟩
  · rw [hv] at e; cases e
  · rw [hv] at e; cases e; exact (Array.getElem?_eq_some_iff.1 hq).1
theorem IS.call {T : TypeId} {A : Wk.Alg} {B : Nat} {K : Wkr T A B} {W0 W W' : World} {g : Nat} {o0 o o' : Option Nat} {s s' : Wk.St} {v : Value} {t : TypeId} {n : Nat} {cs : List Value} (h : IS K W0 W g o0 o s v t n cs) (ht : t = 91 ∨ t = 78) (h1 : K.At W' g o' s') (hk : Kept g o o' W W') :
    IS K W0 W' g o0 o' s' v t n cs := by
  refine ⟨h1, h.kept.trans hk, own_by h.own fun k e => ?_⟩
  rcases h.own.2 with ⟨hv, _⟩ | ⟨q, cap, cur, hv, _, hq, _⟩
  · rw [hv] at e; cases e
  · rw [hv] at e; cases e
    obtain ⟨e1, e2⟩ := K.ne q cur t _ h.at_ hq ht
    exact hk.block q (Array.getElem?_eq_some_iff.1 hq).1 e1 e2
theorem IS.set {T : TypeId} {A : Wk.Alg} {B : Nat} {K : Wkr T A B} {W0 W : World} {g : Nat} {o0 o : Option Nat} {s : Wk.St} {v : Value} {t : TypeId} {n : Nat} {cs : List Value} (h : IS K W0 W g o0 o s v t n cs) (j i : Nat) (u : Value) (hj : W0.heap.size ≤ j) (hg : j ≠ g) (ho : o ≠ some j) (hv : v.ownBlock ≠ some j) :
    IS K W0 (W.setCell ⟨j, i, none⟩ u) g o0 o s v t n cs :=
  ⟨K.set h.at_ j i u hg ho, h.kept.set j hj i u, own_by h.own fun k e => Below.heap_setCell _ _ _ _ (by simp; intro h; exact hv (by rw [e, h]))⟩
theorem Kept.grown {g : Nat} {o o' : Option Nat} {a b c : World} {row : Option Nat} (h : Kept g o o' a b) (k : b.grownBy c row) (hr : ∀ k, row = some k → a.heap.size ≤ k) : Kept g o o' a c :=
  ⟨k.os.trans h.os, k.tape.trans h.tape, k.output.trans h.output, Nat.le_trans h.size k.size,
   fun i hi hg ho => (k.block i (Nat.lt_of_lt_of_le hi h.size) (fun e => by have := hr i e.symm; omega)).trans (h.block i hi hg ho), h.new⟩
theorem IS.append {T : TypeId} {A : Wk.Alg} {B : Nat} {K : Wkr T A B} {W0 W W' : World} {g : Nat} {o0 o : Option Nat} {s : Wk.St} {v v' : Value} {t : TypeId} {n m : Nat} {cs ds : List Value} (h : IS K W0 W g o0 o s v t n cs) (ht : t = 91 ∨ t = 78) (hg : W.grownBy W' v.ownBlock) (h2 : W'.ownsRow W0.heap.size t 3 v' m ds) :
    IS K W0 W' g o0 o s v' t m ds := by
  refine ⟨K.grown h.at_ hg fun k e => ?_, h.kept.grown hg fun k e => (h.own.lt k e).1, h2⟩
  rcases h.own.2 with ⟨hv, _⟩ | ⟨q, cap, cur, hv, _, hq, _⟩
  · rw [hv] at e; cases e
  · rw [hv] at e; cases e
    exact K.ne q cur t _ h.at_ hq ht
theorem news_at (W : World) (l : List Value) (t : TypeId) : ∀ j u, l[j]? = some u → (W.alloc (.cells l.toArray t)).cell? ((⟨W.heap.size, 0, none⟩ : Addr).add j) = some u := fun j u hu => by
  have e : (⟨W.heap.size, 0, none⟩ : Addr).add j = ⟨W.heap.size, 0 + j, none⟩ := by unfold Addr.add; split <;> simp_all
  rw [e, Nat.zero_add, cell_of_row _ W.heap.size j l.toArray t (0, 0) (heap_alloc_new W _)]
  simpa using hu
set_option maxRecDepth 100000 in
set_option maxHeartbeats 1000000 in
theorem witems_any {T : TypeId} {A : Wk.Alg} {B : Nat} (K : Wkr T A B) (W : World) (g : Nat) (o : Option Nat) (s : Wk.St) (A0 : Option Addr) (cap : Nat) (xs : List Cm.Part) (n : Nat) (h : K.At W g o s) (hn : n < Nm.top) (hxl : xs.length ≤ 1000000)
    (hx : Lies W A0 (pc xs)) (hxb : ∀ b off, A0 = some ⟨b, off, none⟩ → xs ≠ [] → b ≠ g ∧ o ≠ some b) (hfit : ∀ p ∈ xs, p.op < 256 ∧ p.key.size ≤ 10000000 ∧ p.val.size ≤ 10000000)
    (I : Nat → Wk.St → Prop) (hI0 : I 0 s) (hI1 : ∀ k s, I k s → k < n → s.bad = false → I (k + 1) (A.part s ((xs.drop k).headD Wk.zeroP)).2) (hI2 : ∀ k s, I k s → s.l.length ≤ 900000000 ∧ k ≤ 1000000000)
    : Calls Try.prog 86 #[.iface T (.pointer (some ⟨g, 0, none⟩)), .slice A0 xs.length cap, .int .u64 (n : Int), .func (.func 87) #[] #[]] W fun e w' => ∃ v o', e = .returned v ∧ IS K W w' g o o' (A.parts n xs s).2 v 91 (A.parts n xs s).1.length (pc (A.parts n xs s).1) := by
  have mS := K.mS g
  have eS := K.eS
  obtain ⟨i0, hi, hz0, hz1, hz2⟩ := info_parts Try.infoPart
  have hwl : IntKind.u64.wrap (xs.length : Int) = (xs.length : Int) := wrap_u64_nat _ (by unfold Nm.top; omega)
  go_enter Try.func86, Try.ntmps86
  go_wp2_with fail
  go_loopw [9, 10] (fun v i wr => ∃ (k : Nat) (done : List Cm.Part) (o' : Option Nat) (s' : Wk.St), k ≤ n ∧ done.length = k ∧ i = .int .u64 (k : Int) ∧ I k s' ∧ IS K W wr g o o' s' v 91 k (pc done) ∧ A.parts n xs s = (done ++ (A.parts (n - k) (xs.drop k) s').1, (A.parts (n - k) (xs.drop k) s').2)) (fun _ i _ => (n - intOf i).toNat)
  case atStart =>
    exact ⟨0, [], o, s, Nat.zero_le _, rfl, rfl, hI0, ⟨h, Kept.refl _ _ _, World.ownsRow_nil _ _ _ _⟩, by simp⟩
  case round =>
    obtain ⟨k, done, o1, s1, hk, hdl, rfl, hI, hIS, hP⟩ := hrel
    have hcs := K.cS _ g o1 s1 hIS.at_
    have HIS := Lib.hid hIS
    have HP := Lib.hid hP
    have HI := Lib.hid hI
    clear hIS hP hI
    by_cases hkn : k < n
    · have hlt : ((k : Int) < (n : Int)) := by omega
      cases hb : s1.bad
      · rw [hb] at hcs
        have Hcs := Lib.hid hcs
        have Hb := Lib.hid hb
        clear hcs hb
        go_wp2_with fail
        refine Hcs.out.mono ?_
        rintro e w1 ⟨rfl, rfl⟩
        clear Hcs
        obtain ⟨x, hx0⟩ : ∃ x, x = wr.heap.size := ⟨_, rfl⟩
        obtain ⟨p, hp⟩ : ∃ p, p = (xs.drop k).headD Wk.zeroP := ⟨_, rfl⟩
        have hpf : p.op < 256 ∧ p.key.size ≤ 10000000 ∧ p.val.size ≤ 10000000 := by
          by_cases hkx : k < xs.length
          · rw [List.drop_eq_getElem_cons hkx] at hp
            rw [hp]; exact hfit _ (List.getElem_mem hkx)
          · rw [List.drop_eq_nil_of_le (by omega)] at hp
            rw [hp]; exact ⟨by decide, by decide, by decide⟩
        have hx1 : W.heap.size ≤ x := by rw [hx0]; exact HIS.out.kept.size
        have hno : u9.ownBlock ≠ some x := fun e => by have := (HIS.out.own.lt x e).2; omega
        have hS0 : ∀ cs, IS K W (wr.alloc (.cells cs 91)) g o o1 s1 u9 91 k (pc done) ∧ (wr.alloc (.cells cs 91)).heap[x]? = some (.cells cs 91 (0, 0)) ∧ (x ≠ g ∧ o1 ≠ some x) ∧ u9.ownBlock ≠ some x := fun cs => by
          have h1 := HIS.out.bel (bnew (Below.refl _ _) (.cells cs 91))
          have h2 := heap_alloc_new wr (.cells cs 91)
          have h3 := K.ne _ _ _ _ h1.at_ h2 (.inl rfl)
          rw [← hx0] at h2 h3
          exact ⟨h1, h2, h3, hno⟩
        have HS0 := Lib.hid hS0
        clear hS0 hno
        by_cases hkx : k < xs.length
        · have hltx : ((k : Int) < (xs.length : Int)) := by omega
          have hpx : p = xs[k] := by rw [hp, List.drop_eq_getElem_cons hkx]; rfl
          obtain ⟨b, off, hA0, hb0, c0, c1, c2⟩ := hx.part k hkx
          obtain ⟨hbg, hbo⟩ := hxb b off hA0 (fun e => by rw [e] at hkx; simp at hkx)
          subst hA0
          rw [← hpx] at c0 c1 c2
          have hbx : (wr.alloc (.cells #[.int .u8 0, .string ⟨#[]⟩, .string ⟨#[]⟩] 91)).heap[b]? = W.heap[b]? := (Below.heap_alloc _ _ _ (Nat.lt_of_lt_of_le hb0 HIS.out.kept.size)).trans (HIS.out.kept.block b hb0 hbg hbo)
          have d0 := (World.cell?_of_block (a := ⟨b, off + k * 3, none⟩) hbx).trans c0
          have d1 := (World.cell?_of_block (a := ⟨b, off + k * 3 + 1, none⟩) hbx).trans c1
          have d2 := (World.cell?_of_block (a := ⟨b, off + k * 3 + 2, none⟩) hbx).trans c2
          clear hbx c0 c1 c2 hpx
          have Hp := Lib.hid hp
          clear hp
          go_upto_region 8 with (fail)
          rw [← hx0]
          clear hx0
          refine forget (fun W' => IS K W W' g o o1 s1 u9 91 k (pc done) ∧ W'.heap[x]? = some (.cells (pa p) 91 (0, 0)) ∧ (x ≠ g ∧ o1 ≠ some x) ∧ u9.ownBlock ≠ some x) ?_ ?_
          · exact HS0.out (pa p)
          clear d0 d1 d2 hbg hbo hb0 hltx hkx HS0
          rintro W5 ⟨hS5, hr5, ⟨hxg, hxo⟩, hxn⟩
          have k0 : W5.cell? ⟨x, 0, none⟩ = some (.int .u8 (p.op : Int)) := cell_of_row W5 x 0 _ _ _ hr5
          have k1 : W5.cell? ⟨x, 1, none⟩ = some (.string p.key) := cell_of_row W5 x 1 _ _ _ hr5
          have k2 : W5.cell? ⟨x, 2, none⟩ = some (.string p.val) := cell_of_row W5 x 2 _ _ _ hr5
          have hcw := walkPart_any K W5 g o1 s1 p hS5.at_ (hI2 _ _ HI.out).1 hpf.1 hpf.2.1 hpf.2.2
          have Hst := Lib.hid (hI1 k s1 HI.out hkn Hb.out)
          rw [← Hp.out] at Hst
          have HPs : Hid (A.parts (n - k) (xs.drop k) s1 = ((A.part s1 p).1 :: (A.parts (n - (k + 1)) (xs.drop (k + 1)) (A.part s1 p).2).1, (A.parts (n - (k + 1)) (xs.drop (k + 1)) (A.part s1 p).2).2)) := by
            refine Lib.hid ?_
            have e : n - k = (n - (k + 1)) + 1 := by omega
            rw [e, Wk.Alg.parts, Hb.out, ← Hp.out, List.tail_drop]
            rfl
          generalize A.part s1 p = r at hcw Hst HPs
          obtain ⟨q, s2⟩ := r
          simp only at hcw Hst HPs
          unfold pa at hcw
          have Hcw := Lib.hid hcw
          have HS5 := Lib.hid hS5
          clear hS5 hr5 hcw hxg hxo hxn
          go_wp2_with fail
          refine Hcw.out.mono ?_
          rintro e w6 ⟨rfl, o2, hA2, hK2⟩
          have hS6 := HS5.out.call (.inl rfl) hA2 hK2
          have hown := hS6.own
          have hbs := hS6.kept.size
          have hk9 := (hI2 _ _ HI.out).2
          have HS6 := Lib.hid hS6
          clear hS6 hA2 hK2 HS5 Hcw k0 k1 k2
          go_wp2_with (at_builtin; refine wpList_append_own _ rfl (.tmp 30) (.tmp 35) 28 rfl W.heap.size 91 i0 (.agg #[.int .u8 0, .string ⟨#[]⟩, .string ⟨#[]⟩]) 3 40 Try.underlying28 hi hz0 hz1 hz2 rfl (by decide) u9 _ _ rfl (World.ownsRow.alloc hown _) ⟨w6.heap.size, 0, none⟩ 1 1 (pc1 q) rfl rfl (news_at w6 _ _) (fun u hu => by simp [pc1] at hu; rcases hu with rfl | rfl | rfl <;> rfl) (by simp only [maxLen]; omega) (by omega) (by simp; omega) ?_; intro v' w' ho' hg' _)
          go_roundw
          case rel =>
            refine ⟨k + 1, done ++ [q], o2, s2, by omega, by simp [hdl], by go_num, Hst.out, ?_, ?_⟩
            · have := ((HS6.out.bel (bnew (Below.refl _ _) _)).append (.inl rfl) hg' ho')
              simpa [pc, pc1] using this
            · rw [HP.out, HPs.out]; simp
          case measure => simp [intOf]; omega
        · have hltx : ¬ ((k : Int) < (xs.length : Int)) := by omega
          have Hpz : Hid (p = Wk.zeroP) := Lib.hid (by rw [hp, List.drop_eq_nil_of_le (by omega)]; rfl)
          have Hp := Lib.hid hp
          clear hp
          go_upto_region 8 with (fail)
          rw [← hx0]
          clear hx0
          refine forget (fun W' => IS K W W' g o o1 s1 u9 91 k (pc done) ∧ W'.heap[x]? = some (.cells (pa p) 91 (0, 0)) ∧ (x ≠ g ∧ o1 ≠ some x) ∧ u9.ownBlock ≠ some x) ?_ ?_
          · rw [Hpz.out]; exact HS0.out _
          clear Hpz hltx hkx HS0
          rintro W5 ⟨hS5, hr5, ⟨hxg, hxo⟩, hxn⟩
          have k0 : W5.cell? ⟨x, 0, none⟩ = some (.int .u8 (p.op : Int)) := cell_of_row W5 x 0 _ _ _ hr5
          have k1 : W5.cell? ⟨x, 1, none⟩ = some (.string p.key) := cell_of_row W5 x 1 _ _ _ hr5
          have k2 : W5.cell? ⟨x, 2, none⟩ = some (.string p.val) := cell_of_row W5 x 2 _ _ _ hr5
          have hcw := walkPart_any K W5 g o1 s1 p hS5.at_ (hI2 _ _ HI.out).1 hpf.1 hpf.2.1 hpf.2.2
          have Hst := Lib.hid (hI1 k s1 HI.out hkn Hb.out)
          rw [← Hp.out] at Hst
          have HPs : Hid (A.parts (n - k) (xs.drop k) s1 = ((A.part s1 p).1 :: (A.parts (n - (k + 1)) (xs.drop (k + 1)) (A.part s1 p).2).1, (A.parts (n - (k + 1)) (xs.drop (k + 1)) (A.part s1 p).2).2)) := by
            refine Lib.hid ?_
            have e : n - k = (n - (k + 1)) + 1 := by omega
            rw [e, Wk.Alg.parts, Hb.out, ← Hp.out, List.tail_drop]
            rfl
          generalize A.part s1 p = r at hcw Hst HPs
          obtain ⟨q, s2⟩ := r
          simp only at hcw Hst HPs
          unfold pa at hcw
          have Hcw := Lib.hid hcw
          have HS5 := Lib.hid hS5
          clear hS5 hr5 hcw hxg hxo hxn
          go_wp2_with fail
          refine Hcw.out.mono ?_
          rintro e w6 ⟨rfl, o2, hA2, hK2⟩
          have hS6 := HS5.out.call (.inl rfl) hA2 hK2
          have hown := hS6.own
          have hbs := hS6.kept.size
          have hk9 := (hI2 _ _ HI.out).2
          have HS6 := Lib.hid hS6
          clear hS6 hA2 hK2 HS5 Hcw k0 k1 k2
          go_wp2_with (at_builtin; refine wpList_append_own _ rfl (.tmp 30) (.tmp 35) 28 rfl W.heap.size 91 i0 (.agg #[.int .u8 0, .string ⟨#[]⟩, .string ⟨#[]⟩]) 3 40 Try.underlying28 hi hz0 hz1 hz2 rfl (by decide) u9 _ _ rfl (World.ownsRow.alloc hown _) ⟨w6.heap.size, 0, none⟩ 1 1 (pc1 q) rfl rfl (news_at w6 _ _) (fun u hu => by simp [pc1] at hu; rcases hu with rfl | rfl | rfl <;> rfl) (by simp only [maxLen]; omega) (by omega) (by simp; omega) ?_; intro v' w' ho' hg' _)
          go_roundw
          case rel =>
            refine ⟨k + 1, done ++ [q], o2, s2, by omega, by simp [hdl], by go_num, Hst.out, ?_, ?_⟩
            · have := ((HS6.out.bel (bnew (Below.refl _ _) _)).append (.inl rfl) hg' ho')
              simpa [pc, pc1] using this
            · rw [HP.out, HPs.out]; simp
          case measure => simp [intOf]; omega
      · rw [hb] at hcs
        have Hcs := Lib.hid hcs
        have Hb := Lib.hid hb
        clear hcs hb
        go_wp2_with fail
        refine Hcs.out.mono ?_
        rintro e w1 ⟨rfl, rfl⟩
        clear Hcs
        go_wp2_with fail
        go_ret
        have e : A.parts (n - k) (xs.drop k) s1 = ([], s1) := by
          rcases hq : n - k with _ | m
          · rfl
          · rw [Wk.Alg.parts, Hb.out]; rfl
        refine ⟨_, o1, rfl, ?_⟩
        rw [HP.out, e]
        simpa [hdl] using HIS.out
    · obtain rfl : k = n := by omega
      clear hcs
      go_wp2_with fail
      go_ret
      refine ⟨_, o1, rfl, ?_⟩
      rw [HP.out, Nat.sub_self]
      simpa [Wk.Alg.parts, hdl] using HIS.out
end Go.Proofs.Ytlcgjlganmblpaa
namespace Go.Proofs.Ytlcgjlganmblpaa
open Go.RowKit
namespace Wk
theorem Alg.part_len (A : Alg) (s : St) (p : Cm.Part) (hp : p.op < 256) (hk : p.key.size < Nm.top) (hv : p.val.size < Nm.top) : (A.part s p).2.l.length ≤ s.l.length + p.key.size + p.val.size + 30 := by
  have h1 := A.lenO s p.op 2 3
  have h2 := A.lenT (A.oct s p.op 2 3).2 p.key hk
  have h3 := A.lenT (A.txt (A.oct s p.op 2 3).2 p.key).2 p.val hv
  unfold Alg.part
  split
  · simp only; omega
  · simp only; omega
def Alg.batch (A : Alg) (s : St) (xs : List Cm.Part) : List Cm.Part × St := A.parts (A.oct s (min xs.length 255) 1 4).1 xs (A.oct s (min xs.length 255) 1 4).2
theorem Alg.parts_len (A : Alg) : ∀ n xs s, (A.parts n xs s).1.length ≤ n
  | 0, _, _ => by simp [Alg.parts]
  | n + 1, xs, s => by
    unfold Alg.parts; split
    · simp
    · have := A.parts_len n xs.tail (A.part s (xs.headD zeroP)).2
      simp only [List.length_cons]; omega
end Wk
/-- What a walk that makes items hands back. -/
structure Made {T : TypeId} {A : Wk.Alg} {B : Nat} (K : Wkr T A B) (W w' : World) (g : Nat) (o o' : Option Nat) (s' : Wk.St) (Au : Option Addr) (cs : List Value) : Prop where
  at_ : K.At w' g o' s'
  kept : Kept g o o' W w'
  lies : Lies w' Au cs
  sep : ∀ b off, Au = some ⟨b, off, none⟩ → W.heap.size ≤ b ∧ b ≠ g ∧ o' ≠ some b
theorem IS.made {T : TypeId} {A : Wk.Alg} {B : Nat} {K : Wkr T A B} {W0 W : World} {g : Nat} {o0 o : Option Nat} {s : Wk.St} {v : Value} {t : TypeId} {n : Nat} {cs : List Value} (h : IS K W0 W g o0 o s v t n cs) (ht : t = 91 ∨ t = 78) (hc : n = 0 → cs = []) :
    ∃ Au cu, v = .slice Au n cu ∧ Made K W0 W g o0 o s Au cs := by
  rcases h.own.2 with ⟨hv, hn⟩ | ⟨q, cap, cur, hv, hb, hq, _, _, hcs, htake⟩
  · exact ⟨none, 0, by rw [hv, hn], h.at_, h.kept, .inl (hc hn), fun b off e => by cases e⟩
  · refine ⟨_, cap, hv, h.at_, h.kept, .inr ⟨q, 0, rfl, (Array.getElem?_eq_some_iff.1 hq).1, fun i u hu => ?_⟩, fun b off e => ?_⟩
    · subst hv
      have := h.own.cells (g := q) rfl i u hu
      have e : (⟨q, 0, none⟩ : Addr).add i = ⟨q, 0 + i, none⟩ := by unfold Addr.add; split <;> simp_all
      rwa [e] at this
    · injection e with e; injection e with e1 e2
      subst e1
      exact ⟨hb, K.ne q cur t _ h.at_ hq ht⟩
set_option maxRecDepth 100000 in
set_option maxHeartbeats 1000000 in
theorem wparts_any {T : TypeId} {A : Wk.Alg} {B : Nat} (K : Wkr T A B) (W : World) (g : Nat) (o : Option Nat) (s : Wk.St) (A0 : Option Addr) (cap : Nat) (xs : List Cm.Part) (h : K.At W g o s) (hxl : xs.length ≤ 1000000) (hl : s.l.length ≤ 200000000)
    (hx : Lies W A0 (pc xs)) (hxb : ∀ b off, A0 = some ⟨b, off, none⟩ → xs ≠ [] → b < B) (hfit : ∀ p ∈ xs, p.op < 256 ∧ p.key.size ≤ 100000 ∧ p.val.size ≤ 100000)
    : Calls Try.prog 80 #[.iface T (.pointer (some ⟨g, 0, none⟩)), .slice A0 xs.length cap] W fun e w' => ∃ Au cu o', e = .returned (.slice Au (A.batch s xs).1.length cu) ∧ Made K W w' g o o' (A.batch s xs).2 Au (pc (A.batch s xs).1) := by
  have mO := K.mO g
  have eO := K.eO
  have hm : min xs.length 255 < 256 := by omega
  have hw : IntKind.u8.wrap ((min xs.length 255 : Nat) : Int) = ((min xs.length 255 : Nat) : Int) := by simp [IntKind.wrap, IntKind.bits, IntKind.signed]; omega
  have hc := K.cO _ g o s (min xs.length 255) 1 4 h (by omega) hm (by omega) (by omega)
  have l1 := A.lenO s (min xs.length 255) 1 4
  have t1 := A.ltO s (min xs.length 255) 1 4 hm
  have hB : A.batch s xs = A.parts (A.oct s (min xs.length 255) 1 4).1 xs (A.oct s (min xs.length 255) 1 4).2 := rfl
  obtain ⟨r1, hr1⟩ : ∃ r, r = A.oct s (min xs.length 255) 1 4 := ⟨_, rfl⟩
  rw [← hr1] at hc l1 t1 hB
  obtain ⟨x, s1⟩ := r1
  simp only at hc l1 t1 hB
  have Hc := Lib.hid hc
  have HB := Lib.hid hB
  clear hc hB hr1
  go_enter Try.func80, Try.ntmps80
  rcases Nat.lt_or_ge 255 xs.length with hxn | hxn
  · have em : min xs.length 255 = 255 := by omega
    rw [em] at Hc
    clear em hw hm
    go_wp2_with fail
    refine Hc.out.mono ?_
    rintro e w1 ⟨rfl, o1, hA1, hK1⟩
    have hw8 : IntKind.u64.wrap (x : Int) = (x : Int) := wrap_u64_nat _ (by unfold Nm.top; omega)
    have hsz := hK1.size
    have hlt := (K.lo h).1
    have hx1 : Lies w1 A0 (pc xs) := by
      by_cases hxe : xs = []
      · rw [hxe]; exact .inl rfl
      rcases hx with hx | ⟨b, off, rfl, hb, hcs⟩
      · exact .inl hx
      · have h3 := hxb b off rfl hxe
        obtain ⟨h1, _, _, h4⟩ := K.lo h
        exact .inr ⟨b, off, rfl, by omega, fun i u hu => (World.cell?_of_block (a := ⟨b, off + i, none⟩) (hK1.block b hb (by omega) (fun e => by have := (h4 b e).1; omega))).trans (hcs i u hu)⟩
    have hcw := witems_any K w1 g o1 s1 A0 cap xs x hA1 (by unfold Nm.top; omega) hxl hx1 (fun b off e hxe => by have := hxb b off e hxe; obtain ⟨h1, _, _, h4⟩ := K.lo hA1; exact ⟨by omega, fun e => by have := (h4 b e).1; omega⟩)
      (fun p hp => ⟨(hfit p hp).1, by have := (hfit p hp).2.1; omega, by have := (hfit p hp).2.2; omega⟩)
      (fun k s2 => s2.l.length ≤ s1.l.length + k * 200030 ∧ k ≤ x) ⟨by omega, by omega⟩
      (fun k s2 hk hkx _ => by
        have hp : ((xs.drop k).headD Wk.zeroP).op < 256 ∧ ((xs.drop k).headD Wk.zeroP).key.size ≤ 100000 ∧ ((xs.drop k).headD Wk.zeroP).val.size ≤ 100000 := by
          rcases hd : xs.drop k with _ | ⟨q, r⟩
          · exact ⟨by decide, by decide, by decide⟩
          · exact hfit q (List.mem_of_mem_drop (i := k) (by rw [hd]; simp))
        have := A.part_len s2 _ hp.1 (by unfold Nm.top; omega) (by unfold Nm.top; omega)
        refine ⟨?_, hkx⟩
        have e : (k + 1) * 200030 = k * 200030 + 200030 := by omega
        rw [e]; omega)
      (fun k s2 hk => ⟨by have : k * 200030 ≤ 256 * 200030 := Nat.mul_le_mul_right _ (by omega); omega, by omega⟩)
    have Hcw := Lib.hid hcw
    have HK1 := Lib.hid hK1
    clear hcw hK1 hA1 hx1 hx Hc
    go_wp2_with fail
    refine Hcw.out.mono ?_
    rintro e w2 ⟨v, o2, rfl, hIS⟩
    have hMade := hIS.made (.inl rfl) (fun h0 => by rw [List.eq_nil_of_length_eq_zero h0]; rfl)
    obtain ⟨Au, cu, rfl, hM⟩ := hMade
    have HM := Lib.hid hM
    clear hM hIS Hcw
    go_wp2_with fail
    go_ret
    refine ⟨Au, cu, o2, ?_, ?_⟩
    · rw [HB.out]; rfl
    · rw [HB.out]
      have M := HM.out
      exact ⟨M.at_, HK1.out.trans M.kept, M.lies, fun b off e => ⟨by have := (M.sep b off e).1; omega, (M.sep b off e).2⟩⟩
  · have em : min xs.length 255 = xs.length := by omega
    rw [em] at Hc
    clear em hw hm
    go_wp2_with fail
    refine Hc.out.mono ?_
    rintro e w1 ⟨rfl, o1, hA1, hK1⟩
    have hw8 : IntKind.u64.wrap (x : Int) = (x : Int) := wrap_u64_nat _ (by unfold Nm.top; omega)
    have hsz := hK1.size
    have hlt := (K.lo h).1
    have hx1 : Lies w1 A0 (pc xs) := by
      by_cases hxe : xs = []
      · rw [hxe]; exact .inl rfl
      rcases hx with hx | ⟨b, off, rfl, hb, hcs⟩
      · exact .inl hx
      · have h3 := hxb b off rfl hxe
        obtain ⟨h1, _, _, h4⟩ := K.lo h
        exact .inr ⟨b, off, rfl, by omega, fun i u hu => (World.cell?_of_block (a := ⟨b, off + i, none⟩) (hK1.block b hb (by omega) (fun e => by have := (h4 b e).1; omega))).trans (hcs i u hu)⟩
    have hcw := witems_any K w1 g o1 s1 A0 cap xs x hA1 (by unfold Nm.top; omega) hxl hx1 (fun b off e hxe => by have := hxb b off e hxe; obtain ⟨h1, _, _, h4⟩ := K.lo hA1; exact ⟨by omega, fun e => by have := (h4 b e).1; omega⟩)
      (fun p hp => ⟨(hfit p hp).1, by have := (hfit p hp).2.1; omega, by have := (hfit p hp).2.2; omega⟩)
      (fun k s2 => s2.l.length ≤ s1.l.length + k * 200030 ∧ k ≤ x) ⟨by omega, by omega⟩
      (fun k s2 hk hkx _ => by
        have hp : ((xs.drop k).headD Wk.zeroP).op < 256 ∧ ((xs.drop k).headD Wk.zeroP).key.size ≤ 100000 ∧ ((xs.drop k).headD Wk.zeroP).val.size ≤ 100000 := by
          rcases hd : xs.drop k with _ | ⟨q, r⟩
          · exact ⟨by decide, by decide, by decide⟩
          · exact hfit q (List.mem_of_mem_drop (i := k) (by rw [hd]; simp))
        have := A.part_len s2 _ hp.1 (by unfold Nm.top; omega) (by unfold Nm.top; omega)
        refine ⟨?_, hkx⟩
        have e : (k + 1) * 200030 = k * 200030 + 200030 := by omega
        rw [e]; omega)
      (fun k s2 hk => ⟨by have : k * 200030 ≤ 256 * 200030 := Nat.mul_le_mul_right _ (by omega); omega, by omega⟩)
    have Hcw := Lib.hid hcw
    have HK1 := Lib.hid hK1
    clear hcw hK1 hA1 hx1 hx Hc
    go_wp2_with fail
    refine Hcw.out.mono ?_
    rintro e w2 ⟨v, o2, rfl, hIS⟩
    have hMade := hIS.made (.inl rfl) (fun h0 => by rw [List.eq_nil_of_length_eq_zero h0]; rfl)
    obtain ⟨Au, cu, rfl, hM⟩ := hMade
    have HM := Lib.hid hM
    clear hM hIS Hcw
    go_wp2_with fail
    go_ret
    refine ⟨Au, cu, o2, ?_, ?_⟩
    · rw [HB.out]; rfl
    · rw [HB.out]
      have M := HM.out
      exact ⟨M.at_, HK1.out.trans M.kept, M.lies, fun b off e => ⟨by have := (M.sep b off e).1; omega, (M.sep b off e).2⟩⟩
end Go.Proofs.Ytlcgjlganmblpaa
