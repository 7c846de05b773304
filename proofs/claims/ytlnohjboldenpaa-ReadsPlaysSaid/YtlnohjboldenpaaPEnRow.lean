/-
  Many entries as values, and how they lie in memory.
-/
import Derived.Test.YtlnohjboldenpaaPEnA
set_option linter.unusedSimpArgs false
set_option linter.unusedVariables false
namespace Go.Proofs.Ytlnohjboldenpaa
open Go.RowKit
/-- The cells of many entries. -/
def ec1 (e : En.E) : List Value := [.int .u64 (e.idx : Int), .int .u64 (e.trm : Int), .int .u8 (e.kind : Int), .int .u8 (e.slot : Int), .int .u8 (e.tok.a0.toNat : Int), .int .u8 (e.tok.a1.toNat : Int), .int .u8 (e.tok.a2.toNat : Int), .int .u8 (e.tok.a3.toNat : Int), .int .u8 (e.tok.a4.toNat : Int), .int .u8 (e.tok.a5.toNat : Int), .int .u8 (e.tok.a6.toNat : Int), .int .u8 (e.tok.a7.toNat : Int), .string e.body]
def ec (es : List En.E) : List Value := (es.map ec1).flatten
theorem ec1_toList (e : En.E) : (entC e).toList = ec1 e := rfl
theorem ec1_length (e : En.E) : (ec1 e).length = 13 := rfl
theorem ec_length (es : List En.E) : (ec es).length = 13 * es.length := by
  induction es with
  | nil => rfl
  | cons e es ih =>
    have h : ec (e :: es) = ec1 e ++ ec es := rfl
    rw [h, List.length_append, ih, List.length_cons, ec1_length]; omega
theorem ec_at : ∀ (es : List En.E) (i : Nat) (h : i < es.length) (j : Nat), j < 13 → (ec es)[13 * i + j]? = (ec1 es[i])[j]?
  | e :: es, 0, _, j, hj => by
    show (ec1 e ++ ec es)[13 * 0 + j]? = _
    rw [List.getElem?_append_left (by rw [ec1_length]; omega)]
    congr 1; omega
  | e :: es, i + 1, h, j, hj => by
    have k := ec_at es i (by simpa using h) j hj
    show (ec1 e ++ ec es)[13 * (i + 1) + j]? = _
    rw [List.getElem?_append_right (by rw [ec1_length]; omega), ec1_length]
    have e2 : 13 * (i + 1) + j - 13 = 13 * i + j := by omega
    rw [e2, k]; rfl
/-- An entry whose cells lie from here on. -/
structure EntL (W : World) (b o : Nat) (e : En.E) : Prop where
  lt : b < W.heap.size
  c0 : W.cell? ⟨b, o, none⟩ = some (.int .u64 (e.idx : Int))
  c1 : W.cell? ⟨b, o + 1, none⟩ = some (.int .u64 (e.trm : Int))
  c2 : W.cell? ⟨b, o + 2, none⟩ = some (.int .u8 (e.kind : Int))
  c3 : W.cell? ⟨b, o + 3, none⟩ = some (.int .u8 (e.slot : Int))
  c4 : W.cell? ⟨b, o + 4, none⟩ = some (.int .u8 (e.tok.a0.toNat : Int))
  c5 : W.cell? ⟨b, o + 5, none⟩ = some (.int .u8 (e.tok.a1.toNat : Int))
  c6 : W.cell? ⟨b, o + 6, none⟩ = some (.int .u8 (e.tok.a2.toNat : Int))
  c7 : W.cell? ⟨b, o + 7, none⟩ = some (.int .u8 (e.tok.a3.toNat : Int))
  c8 : W.cell? ⟨b, o + 8, none⟩ = some (.int .u8 (e.tok.a4.toNat : Int))
  c9 : W.cell? ⟨b, o + 9, none⟩ = some (.int .u8 (e.tok.a5.toNat : Int))
  c10 : W.cell? ⟨b, o + 10, none⟩ = some (.int .u8 (e.tok.a6.toNat : Int))
  c11 : W.cell? ⟨b, o + 11, none⟩ = some (.int .u8 (e.tok.a7.toNat : Int))
  c12 : W.cell? ⟨b, o + 12, none⟩ = some (.string e.body)
theorem EntL.bel {W W' : World} {b o : Nat} {e : En.E} (h : EntL W b o e) (hb : Below W.heap.size W W') : EntL W' b o e :=
  ⟨Nat.lt_of_lt_of_le h.lt hb.size, later hb h.c0, later hb h.c1, later hb h.c2, later hb h.c3, later hb h.c4, later hb h.c5, later hb h.c6, later hb h.c7, later hb h.c8, later hb h.c9, later hb h.c10, later hb h.c11, later hb h.c12⟩
theorem EntL.of {W : World} {b o : Nat} {e : En.E} (hlt : b < W.heap.size) (h : ∀ j, j < 13 → W.cell? ⟨b, o + j, none⟩ = (ec1 e)[j]?) : EntL W b o e :=
  ⟨hlt, h 0 (by decide), h 1 (by decide), h 2 (by decide), h 3 (by decide), h 4 (by decide), h 5 (by decide), h 6 (by decide), h 7 (by decide), h 8 (by decide), h 9 (by decide), h 10 (by decide), h 11 (by decide), h 12 (by decide)⟩
/-- Where entry i of such a slice lies. -/
theorem Lies.ent {w : World} {A : Option Addr} {es : List En.E} (h : Lies w A (ec es)) (i : Nat) (hi : i < es.length) :
    ∃ b off, A = some ⟨b, off, none⟩ ∧ EntL w b (off + i * 13) es[i] := by
  rcases h with h | ⟨b, off, rfl, hb, hc⟩
  · exfalso
    have := ec_length es
    rw [h] at this
    simp at this; omega
  · refine ⟨b, off, rfl, EntL.of hb fun j hj => ?_⟩
    have hk := ec_at es i hi j hj
    have hl : j < (ec1 es[i]).length := by rw [ec1_length]; exact hj
    rw [List.getElem?_eq_getElem hl] at hk ⊢
    have := hc _ _ hk
    rw [Nat.add_assoc, Nat.mul_comm i 13]
    exact this
end Go.Proofs.Ytlnohjboldenpaa
