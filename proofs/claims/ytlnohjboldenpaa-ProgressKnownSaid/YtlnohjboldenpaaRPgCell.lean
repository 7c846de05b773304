/-
  Layer 12's values: a peer's cells, acts' cells.
-/
import Derived.Test.YtlnohjboldenpaaRPgMath
import Derived.Test.YtlnohjboldenpaaRWords
set_option linter.unusedSimpArgs false
set_option linter.unusedVariables false
namespace Go.Proofs.Ytlnohjboldenpaa
open Go.RowKit
/-- Of the world that the walk has come to only this is kept, at a place between. -/
theorem forgetP {K : Exit → Act → World → Prop} {e : Exit} {a : Act} {w : World} (F : World → Prop) (hF : F w) (h : ∀ W, F W → K e a W) : K e a w := h w hF
/-- A contract's end: this value; what was there is as it was. -/
def RetP (v : Value) (w : World) (e : Ending) (w' : World) : Prop := e = .returned v ∧ Below w.heap.size w w'
/-- A peer's cells. -/
def pgC (p : Pg.P) : Array Value := #[.int .u64 (p.m : Int), .int .u64 (p.n : Int), .int .u64 (p.r : Int), .int .u64 (p.s : Int), .int .u8 (p.c : Int)]
/-- Numbers that are such. -/
structure PgNum (p : Pg.P) : Prop where
  m : p.m < Nm.top
  n : p.n < Nm.top
  r : p.r < Nm.top
  s : p.s < Nm.top
  c : p.c < 256
/-- An act's cells. -/
def pa1 (g : Pg.A) : List Value := [.int .u8 (g.op : Int), .bool g.ok, .int .u64 (g.a : Int), .int .u64 (g.b : Int), .int .u8 (g.c : Int)]
def pas (gs : List Pg.A) : List Value := (gs.map pa1).flatten
theorem pa1_length (g : Pg.A) : (pa1 g).length = 5 := rfl
theorem pas_length (es : List Pg.A) : (pas es).length = 5 * es.length := by
  induction es with
  | nil => rfl
  | cons e es ih =>
    have h : pas (e :: es) = pa1 e ++ pas es := rfl
    rw [h, List.length_append, ih, List.length_cons, pa1_length]; omega
theorem pas_at : ∀ (es : List Pg.A) (i : Nat) (h : i < es.length) (j : Nat), j < 5 → (pas es)[5 * i + j]? = (pa1 es[i])[j]?
  | e :: es, 0, _, j, hj => by
    show (pa1 e ++ pas es)[5 * 0 + j]? = _
    rw [List.getElem?_append_left (by rw [pa1_length]; omega)]
    congr 1; omega
  | e :: es, i + 1, h, j, hj => by
    have k := pas_at es i (by simpa using h) j hj
    show (pa1 e ++ pas es)[5 * (i + 1) + j]? = _
    rw [List.getElem?_append_right (by rw [pa1_length]; omega), pa1_length]
    have e2 : 5 * (i + 1) + j - 5 = 5 * i + j := by omega
    rw [e2, k]; rfl
end Go.Proofs.Ytlnohjboldenpaa
