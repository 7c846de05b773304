/-
  ReadsPlays: what stands while it goes on.
-/
import Derived.Test.YtlnohjboldenpaaPRdPlayS
import Derived.Test.YtlnohjboldenpaaPRdOpen
set_option linter.unusedSimpArgs false
set_option linter.unusedVariables false
namespace Go.Proofs.Ytlnohjboldenpaa
open Go.RowKit Go.Sort
theorem cutP {G C : Prop} (h : Hid G → C) (g : G) : C := h (Lib.hid g)
theorem store_row2 (W2 : World) (g : Nat) (X Z : Array Value) (hr : Rw W2 g X 86) (hx : X.size = 2) (hs : Z.size = 2) (h1 : Z.all (·.oneCell') = true) : (storeCells ⟨g, 0, none⟩ Z.toList 0).run Try.prog W2 = .ok () (W2.setCells g 0 Z.toList) := by
  refine run_storeCells_cells (P := Try.prog) g 0 Z.toList 0 _ (fun j hj => ?_) (fun j hj => ?_) (fun v hv => (Array.all_eq_true_iff_forall_mem.1 h1) v (by simpa using hv))
  · rw [Array.length_toList, hs] at hj
    have hg : j < X.size := by rw [hx]; exact hj
    rw [hr.cell (0 + j) (v := X[j]) (by rw [Nat.zero_add]; exact Array.getElem?_eq_getElem hg)]; rfl
  · exact hr.free _
theorem RZ.puts {w W : World} {p : Nat} {r : Rd.R} {Z : Nat → Prop} {g : Nat} (hz : Z g) (hw : w.heap.size ≤ g) : ∀ (vs : List Value) (k : Nat) (W : World), RZ w W p r Z → RZ w (W.setCells g k vs) p r Z
  | [], _, _, h => h
  | v :: vs, k, W, h => by
    rw [World.setCells]
    exact RZ.puts (W := W) hz hw vs (k + 1) _ (h.set (a := ⟨g, k, none⟩) hz hw v)
/-- The blocks of the document's reads. -/
def Zp (gw : Nat) (A B : Option Addr) (k : Nat) : Prop := k = gw ∨ blk A = some k ∨ blk B = some k
/-- Between two acts: the program's list and the document's reads. -/
structure PM (w W : World) (p gw : Nat) (r : Rd.R) (A : Option Addr) (c : Nat) (B : Option Addr) (d : Nat) : Prop where
  rz : RZ w W p r (Zp gw A B)
  row : Rw W gw #[.slice A r.b.length c, .slice B r.w.length d] 86
  dv : DV W r A c B d
  gl : w.heap.size ≤ gw
  ga : blk A ≠ some gw
  gb : blk B ≠ some gw
/-- Behind the program's answer. -/
structure P10 (w W1 W : World) (p gw : Nat) (r R : Rd.R) (A : Option Addr) (c : Nat) (B : Option Addr) (d : Nat) (Ax : Option Addr) (cx LX : Nat) (X : List Rd.E) (Bx : Option Addr) (dx LY : Nat) (Y : List Nat) : Prop where
  rz : RZ w W p R (Zb (Zb (Zp gw A B) Ax) Bx)
  row : Rw W gw #[.slice A r.b.length c, .slice B r.w.length d] 86
  dv : DV W r A c B d
  gl : w.heap.size ≤ gw
  ga : blk A ≠ some gw
  gb : blk B ≠ some gw
  sx : Sl W 3 Ax LX cx (rdc X)
  sy : Sl W 1 Bx LY dx (uc Y)
  nx : ∀ b, blk Ax = some b → W1.heap.size ≤ b
  lg : gw < W1.heap.size
  la : ∀ b, blk A = some b → b < W1.heap.size
  lb : ∀ b, blk B = some b → b < W1.heap.size
section
variable {w W1 W W' : World} {p gw : Nat} {r R : Rd.R} {A B Ax Bx : Option Addr} {c d cx LX dx LY : Nat} {X : List Rd.E} {Y : List Nat}
theorem P10.bel (h : P10 w W1 W p gw r R A c B d Ax cx LX X Bx dx LY Y) (hb : Below W.heap.size W W') : P10 w W1 W' p gw r R A c B d Ax cx LX X Bx dx LY Y :=
  ⟨h.rz.bel hb, h.row.bel hb, h.dv.bel hb, h.gl, h.ga, h.gb, h.sx.below hb, h.sy.below hb, h.nx, h.lg, h.la, h.lb⟩
theorem PM.p10 (h : PM w W1 p gw r A c B d) (hs : Sl W 3 Ax LX cx (rdc X)) (hy : Sl W 1 Bx LY dx (uc Y)) (h1 : ∀ b, blk Ax = some b → W1.heap.size ≤ b) (hr : RZ w W p R (Zb (Zb (Zp gw A B) Ax) Bx)) (hz : Zk (Zp gw A B) W1 W) : P10 w W1 W p gw r R A c B d Ax cx LX X Bx dx LY Y :=
  ⟨hr, hz.rw (.inl rfl) h.row, h.dv.zk hz (fun b hb => .inr (.inl hb)) (fun b hb => .inr (.inr hb)), h.gl, h.ga, h.gb, hs, hy, h1, h.row.lt, h.dv.tb, h.dv.tw⟩
end
/-- Behind the document's answer too. -/
structure P11 (w W : World) (p gw h : Nat) (R : Rd.R) (X0 Y5 : Array Value) (A2 : Option Addr) (c2 : Nat) (B2 : Option Addr) (d2 : Nat) (Ax : Option Addr) (cx LX : Nat) (X : List Rd.E) (Bx : Option Addr) (LY : Nat) (Y : List Nat) (O Q : Option Addr) : Prop where
  rz : RZ w W p R (Zb (Zp gw A2 B2) Ax)
  rg : Rw W gw X0 86
  rh : Rw W h Y5 86
  dv : DV W R A2 c2 B2 d2
  gl : w.heap.size ≤ gw
  ga : blk A2 ≠ some gw
  gb : blk B2 ≠ some gw
  sx : Sl W 3 Ax LX cx (rdc X)
  sy : Lies W Bx (uc Y)
  lo : Lies W O (rdc X)
  lq : Lies W Q (uc Y)
  xg : blk Ax ≠ some gw
  xa : ∀ b, blk Ax = some b → blk A2 ≠ some b ∧ blk B2 ≠ some b ∧ w.heap.size ≤ b
theorem p11_mk {w W1 W W8 : World} {p gw h : Nat} {r R : Rd.R} {A B Ax Bx : Option Addr} {c d cx LX dx LY : Nat} {X : List Rd.E} {Y : List Nat} (k : P10 w W1 W p gw r R A c B d Ax cx LX X Bx dx LY Y) (hb : Below W.heap.size W W8) {A2 B2 O Q : Option Addr} {c2 d2 : Nat} {Y5 : Array Value} (hd : DV W8 R A2 c2 B2 d2) (h1 : ∀ b, blk A2 = some b → blk A = some b ∨ W.heap.size ≤ b) (h2 : ∀ b, blk B2 = some b → blk B = some b ∨ W.heap.size ≤ b) (hO : Lies W8 O (rdc X)) (hQ : Lies W8 Q (uc Y)) (hr : Rw W8 h Y5 86) (hw : w.heap.size ≤ W1.heap.size) (h1W : W1.heap.size ≤ W.heap.size) :
    P11 w W8 p gw h R #[.slice A r.b.length c, .slice B r.w.length d] Y5 A2 c2 B2 d2 Ax cx LX X Bx LY Y O Q := by
  have k8 := k.bel hb
  have hgW : gw < W.heap.size := Nat.lt_of_lt_of_le k.lg h1W
  refine ⟨k.rz.belZ hb fun j hj => ?_, k8.row, hr, hd, k.gl, fun e => (h1 gw e).elim k.ga (fun h => by omega), fun e => (h2 gw e).elim k.gb (fun h => by omega), k8.sx, k8.sy.liesV, hO, hQ, fun e => by have := k.nx gw e; have := k.lg; omega, fun b hb => ⟨fun e => (h1 b e).elim (fun e => by have := k.la b e; have := k.nx b hb; omega) (fun h => by have := k.sx.lt hb; omega), fun e => (h2 b e).elim (fun e => by have := k.lb b e; have := k.nx b hb; omega) (fun h => by have := k.sx.lt hb; omega), by have := k.nx b hb; omega⟩⟩
  rcases hj with (hj | hj | hj) | hj
  · exact .inl (.inl (.inl (.inl hj)))
  · rcases h1 j hj with h | h
    · exact .inl (.inl (.inl (.inr (.inl h))))
    · exact .inr ⟨h, hd.tb j hj⟩
  · rcases h2 j hj with h | h
    · exact .inl (.inl (.inl (.inr (.inr h))))
    · exact .inr ⟨h, hd.tw j hj⟩
  · exact .inl (.inl (.inr hj))
/-- The document's answer, its struct an array without a name. -/
theorem said13_op (w : World) (r : Rd.R) (A : Option Addr) (c : Nat) (B : Option Addr) (d : Nat) (h : DV w r A c B d) (hm : Rd.Mono r.b) (o a b : Nat) (hf : r.b.length + r.w.length + 1 ≤ 100000) :
    Calls Try.prog 44 #[.agg #[.slice A r.b.length c, .slice B r.w.length d], .agg #[.int .u8 (o : Int), .int .u64 (a : Int), .int .u64 (b : Int)]] w fun e w' => ∃ Y5 A' c' B' d' O co Q cq, e = .returned (.tuple #[.agg Y5, .bool (Rd.tb r o a), .int .i64 (Rd.tn r o : Int), .slice O (Rd.tx r o a).length co, .slice Q (Rd.ty r o).length cq]) ∧ Y5.size = 2 ∧ Y5.all (·.oneCell') = true ∧ Hid (Y5 = #[.slice A' (Rd.step r o a b).b.length c', .slice B' (Rd.step r o a b).w.length d']) ∧ DV w' (Rd.step r o a b) A' c' B' d' ∧ (∀ b, blk A' = some b → blk A = some b ∨ w.heap.size ≤ b) ∧ (∀ b, blk B' = some b → blk B = some b ∨ w.heap.size ≤ b) ∧ Lies w' O (rdc (Rd.tx r o a)) ∧ Lies w' Q (uc (Rd.ty r o)) ∧ Below w.heap.size w w' :=
  (said13_any w r A c B d h hm o a b hf).mono fun e w' ⟨A', c', B', d', O, co, Q, cq, h1, h2, h3, h4, h5, h6, h7⟩ => ⟨_, A', c', B', d', O, co, Q, cq, h1, rfl, by simp [Value.oneCell'], Lib.hid rfl, h2, h3, h4, h5, h6, h7⟩
end Go.Proofs.Ytlnohjboldenpaa
