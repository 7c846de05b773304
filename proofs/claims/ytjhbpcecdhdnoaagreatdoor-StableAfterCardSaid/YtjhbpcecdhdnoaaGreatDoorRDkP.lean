/-
  What the program's disk is to do, method by method, whatever it looks like in memory.
  wapentakelaw07.Does walked: an act is done. WRITTEN BY wip/tools/gen_dkdoes.py.
  wapentakelaw07.plays walked: acts are done, one behind the other.
  The disk's methods, one behind the other: what stood for a disk stands for it still.
-/
import Derived.Test.YtjhbpcecdhdnoaaGreatDoorRWlBaseZ
set_option linter.unusedSimpArgs false
set_option linter.unusedVariables false
namespace Go.Proofs.YtjhbpcecdhdnoaaGreatDoor
open Go.RowKit
abbrev DkAt := World → Nat → (Nat → Prop) → Dk.D → Prop
structure DiskK (At : DkAt) : Prop where
  lt : ∀ {W p S d}, At W p S d → ∀ k, S k → k < W.heap.size
  stays : ∀ {W W' p S d}, At W p S d → (∀ k, S k → W'.heap[k]? = W.heap[k]?) → At W' p S d
  inv : ∀ {W p S d}, At W p S d → Dk.Inv d
  load : ∀ {W p S d}, At W p S d → Dk.load d ≤ 100000000
  left : ∀ {W p S d}, At W p S d → d.left ≤ 9223372036854775807
  new : ∀ W, Calls Tryz.prog 13 #[] W fun e w' => ∃ p S, e = .returned (.pointer (some ⟨p, 0, none⟩)) ∧ At w' p S Dk.D.new ∧ (∀ k, S k → W.heap.size ≤ k) ∧ Below W.heap.size W w'
  append : ∀ W p S d (n r : ByteArray), At W p S d → Dk.load d + 2 + n.size + r.size ≤ 100000000 →
    Calls Tryz.prog 28 #[.pointer (some ⟨p, 0, none⟩), .string n, .string r] W fun e w' => e = .returned (.int .i64 (eno (Dk.append d n r).1)) ∧ Now At W w' p S (Dk.append d n r).2
  sync : ∀ W p S d (n : ByteArray), At W p S d → n.size ≤ 100000000 →
    Calls Tryz.prog 106 #[.pointer (some ⟨p, 0, none⟩), .string n] W fun e w' => e = .returned (.int .i64 (eno (Dk.sync d n).1)) ∧ Now At W w' p S (Dk.sync d n).2
  rename : ∀ W p S d (n m : ByteArray), At W p S d → n.size ≤ 100000000 → Dk.load d + m.size ≤ 100000000 →
    Calls Tryz.prog 107 #[.pointer (some ⟨p, 0, none⟩), .string n, .string m] W fun e w' => e = .returned (.int .i64 (eno (Dk.rename d n m).1)) ∧ Now At W w' p S (Dk.rename d n m).2
  delete : ∀ W p S d (n : ByteArray), At W p S d → n.size ≤ 100000000 →
    Calls Tryz.prog 108 #[.pointer (some ⟨p, 0, none⟩), .string n] W fun e w' => e = .returned (.int .i64 (eno (Dk.delete d n).1)) ∧ Now At W w' p S (Dk.delete d n).2
  read : ∀ W p S d (n : ByteArray), At W p S d → n.size ≤ 100000000 →
    Calls Tryz.prog 96 #[.pointer (some ⟨p, 0, none⟩), .string n] W fun e w' => e = .returned (.tuple #[.string ⟨(Dk.read d n).1.toArray⟩, .int .i64 (eno (Dk.read d n).2)]) ∧ Below W.heap.size W w'
  list : ∀ W p S d, At W p S d →
    Calls Tryz.prog 36 #[.pointer (some ⟨p, 0, none⟩)] W fun e w' => ∃ A cap, e = .returned (.slice A (Dk.list d).length cap) ∧ Lies w' A (sc (Dk.list d)) ∧ (∀ b off, Dk.list d ≠ [] → A = some ⟨b, off, none⟩ → W.heap.size ≤ b) ∧ Below W.heap.size W w'
  fuse : ∀ W p S d (n : Int), At W p S d → -9223372036854775808 ≤ n ∧ n ≤ 9223372036854775807 →
    Calls Tryz.prog 38 #[.pointer (some ⟨p, 0, none⟩), .int .i64 n] W fun e w' => e = .returned (.tuple #[]) ∧ Now At W w' p S (Dk.fuse d n)
  crash : ∀ W p S d (ks ts : List Int) (KA TA : Option Addr) (kc tc : Nat), At W p S d → GivenC W ks ts KA TA → Away S KA (ic ks) → Away S TA (ic ts) →
    Calls Tryz.prog 40 #[.pointer (some ⟨p, 0, none⟩), .agg #[.slice KA ks.length kc, .slice TA ts.length tc]] W fun e w' => e = .returned (.tuple #[]) ∧ Now At W w' p S (Dk.crash d ks ts)
  start : ∀ W p S d, At W p S d →
    Calls Tryz.prog 39 #[.pointer (some ⟨p, 0, none⟩)] W fun e w' => e = .returned (.tuple #[]) ∧ Now At W w' p S (Dk.start d)
  down : ∀ W p S d, At W p S d →
    Calls Tryz.prog 72 #[.pointer (some ⟨p, 0, none⟩)] W fun e w' => e = .returned (.bool d.off) ∧ Below W.heap.size W w'
section
variable {At : DkAt}
theorem DiskK.below (K : DiskK At) {W W' : World} {p : Nat} {S : Nat → Prop} {d : Dk.D} (h : At W p S d) (hb : Below W.heap.size W W') : At W' p S d := K.stays h fun k hk => hb.block k (K.lt h k hk)
theorem DiskK.ko (K : DiskK At) {W W' : World} {p : Nat} {S T : Nat → Prop} {d : Dk.D} (h : At W p S d) (hb : Ko T W W') (hs : ∀ k, S k → ¬ T k) : At W' p S d := K.stays h fun k hk => hb.block k (K.lt h k hk) (hs k hk)
theorem DiskK.now (K : DiskK At) {W W' : World} {p : Nat} {S : Nat → Prop} {d : Dk.D} (h : At W p S d) (hb : Below W.heap.size W W') : Now At W W' p S d := ⟨⟨S, K.below h hb, fun _ hk => .inl hk⟩, Ko.bel hb⟩
end
end Go.Proofs.YtjhbpcecdhdnoaaGreatDoor
namespace Go.Proofs.YtjhbpcecdhdnoaaGreatDoor
open Go.RowKit
def RetDo (At : DkAt) (d : Dk.D) (x : Dk.Act) (p : Nat) (S : Nat → Prop) (W : World) (e : Ending) (w' : World) : Prop :=
  e = .returned (.tuple #[.string ⟨(Dk.does d x).1.1.toArray⟩, .int .i64 (eno (Dk.does d x).1.2)]) ∧ Now At W w' p S (Dk.does d x).2
section
variable {At : DkAt}
theorem DiskK.after (K : DiskK At) {W W1 w' : World} {p : Nat} {S : Nat → Prop} {d : Dk.D} (hb : Below W.heap.size W W1) (h : Now At W1 w' p S d) : Now At W w' p S d := Now.trans (Ko.bel hb) (fun _ hk => .inl hk) h
end
end Go.Proofs.YtjhbpcecdhdnoaaGreatDoor
namespace Go.Proofs.YtjhbpcecdhdnoaaGreatDoor
open Go.RowKit
section
variable {P : Program} {ops : Array Oper} {Q : Exit → Act → World → Prop} {a : Act} {w : World} {rest : List Oper} {o : Oper}
theorem wpList_load_rng (hw : Region.wanted o (yielded ops a.tmps) = true) (ty : TypeId) (x : Operand) (ho : o.op = .load ty x)
    (g k : Nat) (hx : a.eval x = .pointer (some ⟨g, k, none⟩)) (Y : Array Value) (d : TypeDesc) (hr : w.rangeAt g k Y.toList)
    (hu : P.underlying ty = some d) (hd : d.isRow = true) (hi : (P.info? ty).map (·.size) = some Y.size)
    (h : wpList P ops Q rest (a.put o.dst (.agg Y)) w) : wpList P ops Q (o :: rest) a w :=
  wpList_want hw fun K hK => wp_load_mid ty x ho g k hx Y.toList d hr hu hd (by simpa using hi) (by simpa using hK _ _ h)
end
structure Acts (w : World) (A : Option Addr) (gs : List Ga) : Prop where
  lies : Lies w A (ac gs)
  given : ∀ g ∈ gs, GivenA w g
  len : gs.length ≤ maxLen
def xs (gs : List Ga) : List Dk.Act := gs.map (·.x)
section
variable {At : DkAt}
theorem Now.below {w0 w W : World} {p : Nat} {S : Nat → Prop} {d : Dk.D} (h : Now At w W p S d) (hb : Below w0.heap.size w0 w) (hS : ∀ k, S k → w0.heap.size ≤ k) : Below w0.heap.size w0 W := Ko.below hb h.ko hb.size hS
end
end Go.Proofs.YtjhbpcecdhdnoaaGreatDoor
namespace Go.Proofs.YtjhbpcecdhdnoaaGreatDoor
open Go.RowKit
section
variable {At : DkAt} {w W : World} {p : Nat} {S : Nat → Prop} {d : Dk.D}
theorem Now.start (h : At w p S d) : Now At w w p S d := ⟨⟨S, h, fun _ hk => .inl hk⟩, Ko.refl _ _⟩
theorem DiskK.more (K : DiskK At) (hn : Now At w W p S d) {W' : World} (hb : Below W.heap.size W W') : Now At w W' p S d := by
  obtain ⟨⟨S', h1, h2⟩, h3⟩ := hn
  exact Now.trans h3 h2 (K.now h1 hb)
theorem DiskK.appendN (K : DiskK At) (hn : Now At w W p S d) (n r : ByteArray) (hl : Dk.load d + 2 + n.size + r.size ≤ 100000000) :
    Calls Tryz.prog 28 #[.pointer (some ⟨p, 0, none⟩), .string n, .string r] W fun e w' => e = .returned (.int .i64 (eno (Dk.append d n r).1)) ∧ Now At w w' p S (Dk.append d n r).2 := by
  obtain ⟨⟨S', h1, h2⟩, h3⟩ := hn
  exact (K.append W p S' d n r h1 hl).mono fun e w' ⟨e1, e2⟩ => ⟨e1, Now.trans h3 h2 e2⟩
theorem DiskK.syncN (K : DiskK At) (hn : Now At w W p S d) (n : ByteArray) (hl : n.size ≤ 100000000) :
    Calls Tryz.prog 106 #[.pointer (some ⟨p, 0, none⟩), .string n] W fun e w' => e = .returned (.int .i64 (eno (Dk.sync d n).1)) ∧ Now At w w' p S (Dk.sync d n).2 := by
  obtain ⟨⟨S', h1, h2⟩, h3⟩ := hn
  exact (K.sync W p S' d n h1 hl).mono fun e w' ⟨e1, e2⟩ => ⟨e1, Now.trans h3 h2 e2⟩
theorem DiskK.deleteN (K : DiskK At) (hn : Now At w W p S d) (n : ByteArray) (hl : n.size ≤ 100000000) :
    Calls Tryz.prog 108 #[.pointer (some ⟨p, 0, none⟩), .string n] W fun e w' => e = .returned (.int .i64 (eno (Dk.delete d n).1)) ∧ Now At w w' p S (Dk.delete d n).2 := by
  obtain ⟨⟨S', h1, h2⟩, h3⟩ := hn
  exact (K.delete W p S' d n h1 hl).mono fun e w' ⟨e1, e2⟩ => ⟨e1, Now.trans h3 h2 e2⟩
end
end Go.Proofs.YtjhbpcecdhdnoaaGreatDoor
