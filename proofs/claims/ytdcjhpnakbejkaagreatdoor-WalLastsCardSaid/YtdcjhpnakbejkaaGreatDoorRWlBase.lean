/-
  Records as values, and how many of them lie in memory.
-/
import Derived.Test.YtdcjhpnakbejkaaGreatDoorRWlM
import Derived.Test.YtdcjhpnakbejkaaGreatDoorREnA
set_option linter.unusedSimpArgs false
set_option linter.unusedVariables false
namespace Go.Proofs.YtdcjhpnakbejkaaGreatDoor
open Go.RowKit
instance : DecidableEq Wl.R := fun a b => decidable_of_iff (a.kind = b.kind ∧ a.trm = b.trm ∧ a.vote = b.vote ∧ a.ent = b.ent)
  ⟨fun h => by cases a; cases b; simp at h; obtain ⟨rfl, rfl, rfl, rfl⟩ := h; rfl, fun h => by subst h; exact ⟨rfl, rfl, rfl, rfl⟩⟩
/-- A record's cells. -/
def recC (r : Wl.R) : Array Value := #[.int .u8 (r.kind : Int), .int .u64 (r.trm : Int), .int .u8 (r.vote : Int), .int .u64 (r.ent.idx : Int), .int .u64 (r.ent.trm : Int), .int .u8 (r.ent.kind : Int), .int .u8 (r.ent.slot : Int), .int .u8 (r.ent.tok.a0.toNat : Int), .int .u8 (r.ent.tok.a1.toNat : Int), .int .u8 (r.ent.tok.a2.toNat : Int), .int .u8 (r.ent.tok.a3.toNat : Int), .int .u8 (r.ent.tok.a4.toNat : Int), .int .u8 (r.ent.tok.a5.toNat : Int), .int .u8 (r.ent.tok.a6.toNat : Int), .int .u8 (r.ent.tok.a7.toNat : Int), .string r.ent.body]
def wr1 (r : Wl.R) : List Value := [.int .u8 (r.kind : Int), .int .u64 (r.trm : Int), .int .u8 (r.vote : Int), .int .u64 (r.ent.idx : Int), .int .u64 (r.ent.trm : Int), .int .u8 (r.ent.kind : Int), .int .u8 (r.ent.slot : Int), .int .u8 (r.ent.tok.a0.toNat : Int), .int .u8 (r.ent.tok.a1.toNat : Int), .int .u8 (r.ent.tok.a2.toNat : Int), .int .u8 (r.ent.tok.a3.toNat : Int), .int .u8 (r.ent.tok.a4.toNat : Int), .int .u8 (r.ent.tok.a5.toNat : Int), .int .u8 (r.ent.tok.a6.toNat : Int), .int .u8 (r.ent.tok.a7.toNat : Int), .string r.ent.body]
def wrs (l : List Wl.R) : List Value := (l.map wr1).flatten
theorem wr1_toList (r : Wl.R) : (recC r).toList = wr1 r := rfl
theorem wr1_length (r : Wl.R) : (wr1 r).length = 16 := rfl
theorem wrs_length (l : List Wl.R) : (wrs l).length = 16 * l.length := by
  induction l with
  | nil => rfl
  | cons r l ih =>
    have h : wrs (r :: l) = wr1 r ++ wrs l := rfl
    rw [h, List.length_append, ih, List.length_cons, wr1_length]; omega
theorem wrs_at : ∀ (l : List Wl.R) (i : Nat) (h : i < l.length) (j : Nat), j < 16 → (wrs l)[16 * i + j]? = (wr1 l[i])[j]?
  | r :: l, 0, _, j, hj => by
    show (wr1 r ++ wrs l)[16 * 0 + j]? = _
    rw [List.getElem?_append_left (by rw [wr1_length]; omega)]
    congr 1; omega
  | r :: l, i + 1, h, j, hj => by
    have k := wrs_at l i (by simpa using h) j hj
    show (wr1 r ++ wrs l)[16 * (i + 1) + j]? = _
    rw [List.getElem?_append_right (by rw [wr1_length]; omega), wr1_length]
    have e2 : 16 * (i + 1) + j - 16 = 16 * i + j := by omega
    rw [e2, k]; rfl
/-- A record whose cells lie from here on. -/
structure RecL (W : World) (b o : Nat) (r : Wl.R) : Prop where
  lt : b < W.heap.size
  c0 : W.cell? ⟨b, o, none⟩ = some (.int .u8 (r.kind : Int))
  c1 : W.cell? ⟨b, o + 1, none⟩ = some (.int .u64 (r.trm : Int))
  c2 : W.cell? ⟨b, o + 2, none⟩ = some (.int .u8 (r.vote : Int))
  c3 : W.cell? ⟨b, o + 3, none⟩ = some (.int .u64 (r.ent.idx : Int))
  c4 : W.cell? ⟨b, o + 4, none⟩ = some (.int .u64 (r.ent.trm : Int))
  c5 : W.cell? ⟨b, o + 5, none⟩ = some (.int .u8 (r.ent.kind : Int))
  c6 : W.cell? ⟨b, o + 6, none⟩ = some (.int .u8 (r.ent.slot : Int))
  c7 : W.cell? ⟨b, o + 7, none⟩ = some (.int .u8 (r.ent.tok.a0.toNat : Int))
  c8 : W.cell? ⟨b, o + 8, none⟩ = some (.int .u8 (r.ent.tok.a1.toNat : Int))
  c9 : W.cell? ⟨b, o + 9, none⟩ = some (.int .u8 (r.ent.tok.a2.toNat : Int))
  c10 : W.cell? ⟨b, o + 10, none⟩ = some (.int .u8 (r.ent.tok.a3.toNat : Int))
  c11 : W.cell? ⟨b, o + 11, none⟩ = some (.int .u8 (r.ent.tok.a4.toNat : Int))
  c12 : W.cell? ⟨b, o + 12, none⟩ = some (.int .u8 (r.ent.tok.a5.toNat : Int))
  c13 : W.cell? ⟨b, o + 13, none⟩ = some (.int .u8 (r.ent.tok.a6.toNat : Int))
  c14 : W.cell? ⟨b, o + 14, none⟩ = some (.int .u8 (r.ent.tok.a7.toNat : Int))
  c15 : W.cell? ⟨b, o + 15, none⟩ = some (.string r.ent.body)
theorem RecL.bel {W W' : World} {b o : Nat} {r : Wl.R} (h : RecL W b o r) (hb : Below W.heap.size W W') : RecL W' b o r :=
  ⟨Nat.lt_of_lt_of_le h.lt hb.size, later hb h.c0, later hb h.c1, later hb h.c2, later hb h.c3, later hb h.c4, later hb h.c5, later hb h.c6, later hb h.c7, later hb h.c8, later hb h.c9, later hb h.c10, later hb h.c11, later hb h.c12, later hb h.c13, later hb h.c14, later hb h.c15⟩
theorem RecL.of {W : World} {b o : Nat} {r : Wl.R} (hlt : b < W.heap.size) (h : ∀ j, j < 16 → W.cell? ⟨b, o + j, none⟩ = (wr1 r)[j]?) : RecL W b o r :=
  ⟨hlt, h 0 (by decide), h 1 (by decide), h 2 (by decide), h 3 (by decide), h 4 (by decide), h 5 (by decide), h 6 (by decide), h 7 (by decide), h 8 (by decide), h 9 (by decide), h 10 (by decide), h 11 (by decide), h 12 (by decide), h 13 (by decide), h 14 (by decide), h 15 (by decide)⟩
/-- Where record i of such a slice lies. -/
theorem Lies.recd {w : World} {A : Option Addr} {l : List Wl.R} (h : Lies w A (wrs l)) (i : Nat) (hi : i < l.length) :
    ∃ b off, A = some ⟨b, off, none⟩ ∧ RecL w b (off + i * 16) l[i] := by
  rcases h with h | ⟨b, off, rfl, hb, hc⟩
  · exfalso
    have := wrs_length l
    rw [h] at this
    simp at this; omega
  · refine ⟨b, off, rfl, RecL.of hb fun j hj => ?_⟩
    have hk := wrs_at l i hi j hj
    have hl : j < (wr1 l[i]).length := by rw [wr1_length]; exact hj
    rw [List.getElem?_eq_getElem hl] at hk ⊢
    have := hc _ _ hk
    rw [Nat.add_assoc, Nat.mul_comm i 16]
    exact this
theorem sizeRec : (Tryz.prog.info? 62).map (·.size) = some 16 := by kernel_rfl
theorem stoodRec : Tryz.prog.stoodInHeld 62 = false := by kernel_rfl
theorem guardRec : Tryz.prog.eqGuardType Tryz.prog.depth 62 = false := by kernel_rfl
theorem ent_eq9 (W : World) (x y : En.E) : (Op.equalIn 9999 60 (.agg (entC x)) (.agg (entC y))).run Tryz.prog W = .ok (decide (x = y)) W := by
  rw [run_equalIn_agg W 9998 60 _ _ (by unfold Program.fieldsOf; rw [Tryz.underlying60]) stoodEnt]
  unfold Program.fieldsOf
  rw [Tryz.underlying60]
  have ht : ∀ W, (Op.equalIn 9998 58 (.agg (tk8 x.tok)) (.agg (tk8 y.tok))).run Tryz.prog W = .ok (decide (x.tok = y.tok)) W := fun W => tok_eq 9996 W _ _
  unfold tk8 t8 at ht
  unfold entC
  simp only [Op.eqFields]
  simp [go_sem, ht, bytes_eq]
  cases x; cases y
  simp only [En.E.mk.injEq]
  repeat' split
  all_goals (simp_all <;> omega)
theorem rec_eq (W : World) (x y : Wl.R) : (Op.equalIn 10000 62 (.agg (recC x)) (.agg (recC y))).run Tryz.prog W = .ok (decide (x = y)) W := by
  rw [run_equalIn_agg W 9999 62 _ _ (by unfold Program.fieldsOf; rw [Tryz.underlying62]) stoodRec]
  unfold Program.fieldsOf
  rw [Tryz.underlying62]
  have ht := fun W => ent_eq9 W x.ent y.ent
  unfold entC at ht
  unfold recC
  simp only [Op.eqFields]
  simp [go_sem, ht]
  cases x; cases y
  simp only [Wl.R.mk.injEq]
  repeat' split
  all_goals (simp_all <;> omega)
theorem rec_neq (x y : Wl.R) (W : World) : (binOp .neq 62 (.agg (recC x)) (.agg (recC y))).run Tryz.prog W = .ok (.bool (!decide (x = y))) W := by
  rw [run_neq_struct, rec_eq, Result.andThen_ok]
theorem rec_eql (x y : Wl.R) (W : World) : (binOp .eql 62 (.agg (recC x)) (.agg (recC y))).run Tryz.prog W = .ok (.bool (decide (x = y))) W := by
  rw [run_eql_struct, rec_eq, Result.andThen_ok]
end Go.Proofs.YtdcjhpnakbejkaaGreatDoor
