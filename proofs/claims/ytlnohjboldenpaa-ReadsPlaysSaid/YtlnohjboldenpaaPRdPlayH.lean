/-
  ReadsPlays: the steps of an act. (gen_rdplay.py)
-/
import Derived.Test.YtlnohjboldenpaaPRdPlayL
set_option linter.unusedSimpArgs false
set_option linter.unusedVariables false
namespace Go.Proofs.Ytlnohjboldenpaa
open Go.RowKit Go.Sort
theorem rz_zero {w W : World} {Z : Nat → Prop} (hb : Below w.heap.size w W) (hz : ∀ k, Z k → k < W.heap.size) : RZ w (W.alloc (.cells #[.slice none 0 0, .slice none 0 0] 83)) W.heap.size ⟨[], []⟩ Z :=
  ⟨⟨fun k => k = W.heap.size, ⟨⟨none, 0, none, 0, Rw.new W _ _, Sl.nil _ _, Sl.nil _ _, (fun h => by cases h), (fun h => by cases h), (fun k h => by cases h), (fun k h => by cases h), (fun k h => by cases h), rfl, (fun k hk => by rw [hk]; simp), Rd.none_fits⟩⟩, (fun k hk => by rw [hk]; exact hb.size), fun k hk e => by have := hz k hk; omega⟩, bnew hb _, fun k hk => Nat.lt_of_lt_of_le (hz k hk) (by rw [World.size_alloc]; omega)⟩
theorem lies_box {w5 : World} {box : Nat} {vs : List Value} {O : Option Addr} {L : List Value} {a1 a2 : Option Addr} {n1 n2 m1 m2 : Nat} (h : Lies w5 O L) (hz : Rw w5 box #[.slice a1 n1 m1, .slice a2 n2 m2] 86) (hL : ∀ u ∈ L, ∃ n : Int, u = .int .u64 n) : Lies (w5.setCells box 0 vs) O L := by
  cases L with
  | nil => exact .inl rfl
  | cons x L =>
    rcases h with h | ⟨b, off, rfl, hlt, hc⟩
    · cases h
    · have hb : b ≠ box := fun e => by
        subst e
        obtain ⟨n, hn⟩ := hL x (List.mem_cons_self ..)
        have h0 := hc 0 x rfl
        rw [cell_of_row w5 b (off + 0) _ _ _ hz, hn] at h0
        match off with
        | 0 => cases h0
        | 1 => cases h0
        | k + 2 => cases h0
      exact .inr ⟨b, off, rfl, Nat.lt_of_lt_of_le hlt (grownBy_setCells w5 box 0 vs).size, fun i u hu => (World.cell?_of_block (a := ⟨b, off + i, none⟩) (setCells_other hb vs 0 w5)).trans (hc i u hu)⟩
theorem rdc_ints (es : List Rd.E) : ∀ u ∈ rdc es, ∃ n : Int, u = .int .u64 n := by
  intro v hv
  unfold rdc at hv
  obtain ⟨l, hl, hv⟩ := List.mem_flatten.1 hv
  obtain ⟨e, _, rfl⟩ := List.mem_map.1 hl
  simp only [rd1, List.mem_cons, List.not_mem_nil, or_false] at hv
  rcases hv with rfl | rfl | rfl <;> exact ⟨_, rfl⟩
theorem uc_ints (ns : List Nat) : ∀ u ∈ uc ns, ∃ n : Int, u = .int .u64 n := by
  intro v hv
  obtain ⟨n, _, rfl⟩ := List.mem_map.1 hv; exact ⟨_, rfl⟩
/-- While the told ones are written on. -/
structure PL (w W : World) (p gw : Nat) (R : Rd.R) (A2 : Option Addr) (c2 : Nat) (B2 : Option Addr) (d2 : Nat) (Ax : Option Addr) (LX : Nat) : Prop where
  rz : RZ w W p R (Zb (Zp gw A2 B2) Ax)
  row : Rw W gw #[.slice A2 R.b.length c2, .slice B2 R.w.length d2] 86
  dv : DV W R A2 c2 B2 d2
  gl : w.heap.size ≤ gw
  ga : blk A2 ≠ some gw
  gb : blk B2 ≠ some gw
  xg : blk Ax ≠ some gw
  xa : ∀ b, blk Ax = some b → blk A2 ≠ some b ∧ blk B2 ≠ some b ∧ w.heap.size ≤ b
  cs : LX = 0 ∨ ∃ b off, Ax = some ⟨b, off, none⟩ ∧ ∀ j, j < LX * 3 → (W.cell? ⟨b, off + j, none⟩).isSome = true ∧ W.frozen? ⟨b, off + j, none⟩ = false
theorem some_set13 (W : World) (p a : Addr) (v : Value) (h : (W.cell? a).isSome = true) : ((W.setCell p v).cell? a).isSome = true := by
  by_cases he : a = p
  · subst he
    rw [World.cell?_setCell_same' W _ v h]; rfl
  · rw [World.cell?_setCell_other _ _ _ _ (fun e => he e.symm)]; exact h
theorem PL.set {w W : World} {p gw : Nat} {R : Rd.R} {A2 B2 : Option Addr} {c2 d2 LX b off : Nat} (h : PL w W p gw R A2 c2 B2 d2 (some ⟨b, off, none⟩) LX) (o : Nat) (v : Value) : PL w (W.setCell ⟨b, o, none⟩ v) p gw R A2 c2 B2 d2 (some ⟨b, off, none⟩) LX := by
  obtain ⟨h1, h2, h3⟩ := h.xa b rfl
  have hne : gw ≠ b := fun e => h.xg (by rw [e]; rfl)
  refine ⟨h.rz.set (a := ⟨b, o, none⟩) (Or.inr rfl) h3 v, h.row.oput hne o v, h.dv.zk (Z := fun k => k ≠ b) ⟨by simp, fun k hk => heap_setCell_other W ⟨b, o, none⟩ k v hk⟩ (fun k hk e => h1 (by rw [← e]; exact hk)) (fun k hk e => h2 (by rw [← e]; exact hk)), h.gl, h.ga, h.gb, h.xg, h.xa, h.cs.imp id ?_⟩
  rintro ⟨b', off', he, hc⟩
  exact ⟨b', off', he, fun j hj => ⟨some_set13 W _ _ v (hc j hj).1, by rw [World.frozen?_setCell]; exact (hc j hj).2⟩⟩
theorem PL.pm {w W : World} {p gw : Nat} {R : Rd.R} {A2 B2 Ax : Option Addr} {c2 d2 LX : Nat} (h : PL w W p gw R A2 c2 B2 d2 Ax LX) : PM w W p gw R A2 c2 B2 d2 := ⟨h.rz.mono fun k hk => .inl hk, h.row, h.dv, h.gl, h.ga, h.gb⟩
/-- Behind the assignment to the document's variable. -/
structure P12 (w W : World) (p gw : Nat) (R : Rd.R) (A2 : Option Addr) (c2 : Nat) (B2 : Option Addr) (d2 : Nat) (Ax : Option Addr) (cx LX : Nat) (X : List Rd.E) (Bx : Option Addr) (Y : List Nat) (O Q : Option Addr) : Prop where
  rz : RZ w W p R (Zb (Zp gw A2 B2) Ax)
  row : Rw W gw #[.slice A2 R.b.length c2, .slice B2 R.w.length d2] 86
  dv : DV W R A2 c2 B2 d2
  gl : w.heap.size ≤ gw
  ga : blk A2 ≠ some gw
  gb : blk B2 ≠ some gw
  sx : Sl W 3 Ax LX cx (rdc X)
  sy : Lies W Bx (uc Y)
  lo : Lies W O (rdc X)
  lq : Lies W Q (uc Y)
  xg : blk Ax ≠ some gw
  xa : ∀ b, blk Ax = some b → blk A2 ≠ some b ∧ blk B2 ≠ some b ∧ w.heap.size ≤ b
section
variable {w W W' : World} {p gw h : Nat} {R : Rd.R} {A2 B2 Ax Bx O Q a1 a2 : Option Addr} {c2 d2 cx LX LY n1 n2 m1 m2 : Nat} {X : List Rd.E} {Y : List Nat} {Y5 : Array Value}
theorem P11.p12 (k : P11 w W p gw h R #[.slice a1 n1 m1, .slice a2 n2 m2] Y5 A2 c2 B2 d2 Ax cx LX X Bx LY Y O Q) (hY : Y5 = #[.slice A2 R.b.length c2, .slice B2 R.w.length d2]) : P12 w (W.setCells gw 0 Y5.toList) p gw R A2 c2 B2 d2 Ax cx LX X Bx Y O Q := by
  have hne : ∀ j, j ≠ gw → (W.setCells gw 0 Y5.toList).heap[j]? = W.heap[j]? := fun j hj => setCells_other hj _ _ _
  refine ⟨RZ.puts (W := W) (Or.inl (Or.inl rfl)) k.gl _ 0 W k.rz, ?_, k.dv.zk (Z := fun j => j ≠ gw) ⟨(grownBy_setCells W gw 0 _).size, fun j hj => hne j hj⟩ (fun j hj e => k.ga (by rw [← e]; exact hj)) (fun j hj e => k.gb (by rw [← e]; exact hj)), k.gl, k.ga, k.gb, k.sx.keep fun b hb => hne b (fun e => k.xg (by rw [← e]; exact hb)), lies_box k.sy k.rg (uc_ints _), lies_box k.lo k.rg (rdc_ints _), lies_box k.lq k.rg (uc_ints _), k.xg, k.xa⟩
  have := k.rg.over (Y := Y5) (by rw [hY]; rfl)
  rw [hY] at this ⊢
  exact this
theorem P12.bel (k : P12 w W p gw R A2 c2 B2 d2 Ax cx LX X Bx Y O Q) (hb : Below W.heap.size W W') : P12 w W' p gw R A2 c2 B2 d2 Ax cx LX X Bx Y O Q :=
  ⟨k.rz.bel hb, k.row.bel hb, k.dv.bel hb, k.gl, k.ga, k.gb, k.sx.below hb, k.sy.below hb, k.lo.below hb, k.lq.below hb, k.xg, k.xa⟩
theorem P12.pl (k : P12 w W p gw R A2 c2 B2 d2 Ax cx LX X Bx Y O Q) : PL w W p gw R A2 c2 B2 d2 Ax LX :=
  ⟨k.rz, k.row, k.dv, k.gl, k.ga, k.gb, k.xg, k.xa, by
    rcases k.sx.lies with ⟨_, h0⟩ | ⟨b, off, rfl, _, _, hf⟩
    · exact .inl (by have := k.sx.le; omega)
    · exact .inr ⟨b, off, rfl, fun j hj => hf j (by have := k.sx.le; omega)⟩⟩
end
theorem rz_lenB {w W : World} {p : Nat} {r : Rd.R} {Z : Nat → Prop} (h : RZ w W p r Z) : Calls Try.prog 45 #[.pointer (some ⟨p, 0, none⟩)] W fun e w' => e = .returned (.tuple #[.int .i64 (r.b.length : Int), .int .i64 (r.w.length : Int)]) ∧ Below W.heap.size W w' := by
  obtain ⟨⟨S, h1, h2, h3⟩, h4, h5⟩ := h
  exact rlen_any W h1
/-- The document's variable is made. -/
theorem pm_new {w W : World} {p : Nat} (h : RZ w W p ⟨[], []⟩ (fun _ => False)) : PM w (W.alloc (.cells #[.slice none 0 0, .slice none 0 0] 86)) p W.heap.size ⟨[], []⟩ none 0 none 0 :=
  ⟨h.belZ (bnew (Below.refl _ _) _) (fun k hk => by
    rcases hk with hk | hk | hk
    · exact .inr (by rw [hk, World.size_alloc]; omega)
    · cases hk
    · cases hk), Rw.new W _ _, DV.none _, h.bl.size, (fun e => by cases e), (fun e => by cases e)⟩
end Go.Proofs.Ytlnohjboldenpaa
