/-
  Small words for the walks of layer 1: a row of bytes that a call owns, a slice that lies in memory.
-/
import Derived.Test.YtnfghgkdedmphaaChecked
import Derived.Test.YtnfghgkdedmphaaNumMath
import Derived.WalkKit
import Derived.WalkSpells
import Derived.WalkLawsBesides
import Derived.Lib.Hide
import Derived.Lib.AppendStr
import Derived.Laws.BytesArg
import Derived.Laws.IdiomStrings
namespace Go.Proofs.Ytnfghgkdedmphaa
open Go.RowKit

/-- Bytes as cells. -/
def bc (l : List UInt8) : List Value := l.map fun x => Value.int .u8 (x.toNat : Int)
theorem bc_length (l : List UInt8) : (bc l).length = l.length := by simp [bc]
theorem bc_append (l m : List UInt8) : bc (l ++ m) = bc l ++ bc m := by simp [bc]
theorem bc_one (l : List UInt8) : ∀ u ∈ bc l, u.oneCell' = true := by
  intro u hu
  simp only [bc, List.mem_map] at hu
  obtain ⟨x, _, rfl⟩ := hu
  rfl

/-- The value v is a slice of bytes that holds l, and lies from block 'base' on. -/
def OwnB (w : World) (base : Nat) (v : Value) (l : List UInt8) : Prop := w.ownsRow base 5 1 v l.length (bc l)

/-- A contract's end: a slice of bytes of the call's own, which holds l. -/
def RetB (base : Nat) (l : List UInt8) (w : World) (e : Ending) (w' : World) : Prop := ∃ v, e = .returned v ∧ OwnB w' base v l ∧ Below base w w'

/-- A contract's end: a string; what was there is as it was. -/
def RetS (l : List UInt8) (w : World) (e : Ending) (w' : World) : Prop := e = .returned (.string ⟨l.toArray⟩) ∧ Below w.heap.size w w'

theorem Try.infoByte : (Try.prog.info? 5).map (fun i => (i.zero, i.size, i.bytes)) = some (some (.int .u8 0), 1, 1) := by kernel_rfl

theorem OwnB.drew {w : World} {base : Nat} {v : Value} {l : List UInt8} (h : OwnB w base v l) : OwnB w.drew base v l := h
theorem OwnB.nil (w : World) (base : Nat) : OwnB w base (.slice none 0 0) [] := World.ownsRow_nil _ _ _ _

/-- One byte is appended: what is owned then. -/
theorem own_step {w wr w1 : World} {base : Nat} {v v' : Value} {l : List UInt8} {x : UInt8} {z : Int} {o : Obj} (hz : z = (x.toNat : Int)) (ho : OwnB wr base v l) (hb : Below base w wr) (hB : base ≤ wr.heap.size)
    (ho1 : w1.ownsRow base 5 1 v' (l.length + 1) (bc l ++ [.int .u8 z])) (hg : (wr.alloc o).grownBy w1 v.ownBlock) : OwnB w1 base v' (l ++ [x]) ∧ Below base w w1 := by
  subst hz
  refine ⟨?_, (hb.alloc hB o).grown hg (by simp; omega) (fun k hk => (World.ownsRow.lt ho k hk).1)⟩
  unfold OwnB
  rw [bc_append, List.length_append]
  exact ho1

theorem bnext {w b c : World} (h : Below w.heap.size w b) (k : Below b.heap.size b c) : Below w.heap.size w c := h.trans (k.mono h.size)
theorem bnew {w b : World} (h : Below w.heap.size w b) (o : Obj) : Below w.heap.size w (b.alloc o) := h.alloc h.size o

/-- A slice with these cells; it may be nil where there are none. -/
def Lies (w : World) (A : Option Addr) (vs : List Value) : Prop := vs = [] ∨ ∃ b off, A = some ⟨b, off, none⟩ ∧ b < w.heap.size ∧ ∀ i u, vs[i]? = some u → w.cell? ⟨b, off + i, none⟩ = some u
theorem Lies.below {w w' : World} {A : Option Addr} {vs : List Value} (h : Lies w A vs) (hb : Below w.heap.size w w') : Lies w' A vs := by
  rcases h with h | ⟨b, off, rfl, hlt, hc⟩
  · exact .inl h
  · exact .inr ⟨b, off, rfl, Nat.lt_of_lt_of_le hlt hb.size, fun i u hu => (hb.cell (p := ⟨b, off + i, none⟩) hlt).trans (hc i u hu)⟩

/-- A slice of bytes of the call's own, as a string. -/
theorem run_string_own {w : World} {base : Nat} {v : Value} {l : List UInt8} (h : OwnB w base v l) : (convert 46 9 v).run Try.prog w = .ok (.string ⟨l.toArray⟩) w := by
  rcases h.2 with ⟨rfl, hn⟩ | ⟨g, cap, cur, rfl, _, hg, _, _, _, htake⟩
  · have : l = [] := List.eq_nil_of_length_eq_zero hn
    subst this
    exact run_convert_bytes_nil _ _ _ Try.underlying46 Try.underlying5 _ _ _ Try.underlying9
  · refine run_convert_bytes_back w 46 9 5 ⟨g, 0, none⟩ cap l Try.underlying46 Try.underlying5 Try.underlying9 (fun j hj => ?_)
    exact World.ownsRow.cells h (g := g) rfl j _ (by simp [bc, hj])

end Go.Proofs.Ytnfghgkdedmphaa
