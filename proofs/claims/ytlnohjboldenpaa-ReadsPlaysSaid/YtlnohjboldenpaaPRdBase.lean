/-
  Layer 13's values: reads in memory.
-/
import Derived.Test.YtlnohjboldenpaaPRdMath
import Derived.Test.YtlnohjboldenpaaPSlO
import Derived.Test.YtlnohjboldenpaaPRw
import Derived.Test.YtlnohjboldenpaaPDkO
import Derived.Deep.RegionLaw
import Derived.Deep.QuietTactic
import Derived.BigQuiet
import Derived.StillTailTactics
import Derived.OwnWalk
import Derived.Lib.QuietBelow
import Derived.Deep.DeepCutAuto
import Derived.Deep.CutBlock
set_option linter.unusedSimpArgs false
set_option linter.unusedVariables false
namespace Go.Proofs.Ytlnohjboldenpaa
open Go.RowKit
/-- Of the world that the walk has come to only this is kept, at a place between. -/
theorem forgetR {K : Exit → Act → World → Prop} {e : Exit} {a : Act} {w : World} (F : World → Prop) (hF : F w) (h : ∀ W, F W → K e a W) : K e a w := h w hF
/-- A contract's end: this value; what was there is as it was. -/
def RetR (v : Value) (w : World) (e : Ending) (w' : World) : Prop := e = .returned v ∧ Below w.heap.size w w'
/-- The cells of a read, of many. -/
def rd1 (e : Rd.E) : List Value := [.int .u64 (e.id : Int), .int .u64 (e.idx : Int), .int .u64 (e.rnd : Int)]
def rdc (es : List Rd.E) : List Value := (es.map rd1).flatten
theorem rd1_length (e : Rd.E) : (rd1 e).length = 3 := rfl
theorem rdc_length (es : List Rd.E) : (rdc es).length = es.length * 3 := by
  induction es with
  | nil => rfl
  | cons e es ih =>
    have h : rdc (e :: es) = rd1 e ++ rdc es := rfl
    rw [h, List.length_append, ih, List.length_cons, rd1_length]; omega
theorem rdc_app (es fs : List Rd.E) : rdc (es ++ fs) = rdc es ++ rdc fs := by simp [rdc]
theorem rdc_one (e : Rd.E) : rdc [e] = rd1 e := by simp [rdc]
theorem rdc_take (es : List Rd.E) (k : Nat) : (rdc es).take (k * 3) = rdc (es.take k) := by
  by_cases h : k ≤ es.length
  · have e1 : es = es.take k ++ es.drop k := (List.take_append_drop k es).symm
    conv => lhs; rw [e1, rdc_app]
    rw [List.take_append_of_le_length (by rw [rdc_length, List.length_take]; omega), List.take_of_length_le (by rw [rdc_length, List.length_take]; omega)]
  · rw [List.take_of_length_le (by rw [rdc_length]; omega), List.take_of_length_le (by omega)]
theorem rdc_drop (es : List Rd.E) (k : Nat) (h : k ≤ es.length) : (rdc es).drop (k * 3) = rdc (es.drop k) := by
  have e1 : es = es.take k ++ es.drop k := (List.take_append_drop k es).symm
  conv => lhs; rw [e1, rdc_app]
  rw [List.drop_append_of_le_length (by rw [rdc_length, List.length_take]; omega), List.drop_eq_nil_of_le (by rw [rdc_length, List.length_take]; omega), List.nil_append]
theorem rdc_at : ∀ (es : List Rd.E) (i : Nat) (h : i < es.length) (j : Nat), j < 3 → (rdc es)[i * 3 + j]? = (rd1 es[i])[j]?
  | e :: es, 0, _, j, hj => by
    show (rd1 e ++ rdc es)[0 * 3 + j]? = _
    rw [List.getElem?_append_left (by rw [rd1_length]; omega)]
    congr 1; omega
  | e :: es, i + 1, h, j, hj => by
    have k := rdc_at es i (by simpa using h) j hj
    show (rd1 e ++ rdc es)[(i + 1) * 3 + j]? = _
    rw [List.getElem?_append_right (by rw [rd1_length]; omega), rd1_length]
    have e2 : (i + 1) * 3 + j - 3 = i * 3 + j := by omega
    rw [e2, k]; rfl
theorem rdc_ones (es : List Rd.E) : ∀ v ∈ rdc es, v.oneCell' = true := by
  intro v hv
  unfold rdc at hv
  obtain ⟨l, hl, hv⟩ := List.mem_flatten.1 hv
  obtain ⟨e, _, rfl⟩ := List.mem_map.1 hl
  simp only [rd1, List.mem_cons, List.not_mem_nil, or_false] at hv
  rcases hv with rfl | rfl | rfl <;> rfl
theorem uc_length (ns : List Nat) : (uc ns).length = ns.length * 1 := by simp [uc]
theorem uc_app (a b : List Nat) : uc (a ++ b) = uc a ++ uc b := by simp [uc]
theorem uc_at (ns : List Nat) (i : Nat) (h : i < ns.length) : (uc ns)[i]? = some (.int .u64 ((ns[i] : Nat) : Int)) := by
  unfold uc; rw [List.getElem?_map, List.getElem?_eq_getElem h]; rfl
theorem uc_ones (ns : List Nat) : ∀ v ∈ uc ns, v.oneCell' = true := by
  intro v hv
  obtain ⟨n, _, rfl⟩ := List.mem_map.1 hv; rfl
/-- A read whose cells lie from here on. -/
structure RdL (W : World) (b o : Nat) (e : Rd.E) : Prop where
  lt : b < W.heap.size
  c0 : W.cell? ⟨b, o, none⟩ = some (.int .u64 (e.id : Int))
  c1 : W.cell? ⟨b, o + 1, none⟩ = some (.int .u64 (e.idx : Int))
  c2 : W.cell? ⟨b, o + 2, none⟩ = some (.int .u64 (e.rnd : Int))
theorem RdL.bel {W W' : World} {b o : Nat} {e : Rd.E} (h : RdL W b o e) (hb : Below W.heap.size W W') : RdL W' b o e := ⟨Nat.lt_of_lt_of_le h.lt hb.size, later hb h.c0, later hb h.c1, later hb h.c2⟩
theorem Lies.rd {w : World} {A : Option Addr} {es : List Rd.E} (h : Lies w A (rdc es)) (i : Nat) (hi : i < es.length) : ∃ b off, A = some ⟨b, off, none⟩ ∧ RdL w b (off + i * 3) es[i] := by
  rcases h with h | ⟨b, off, rfl, hb, hc⟩
  · exfalso
    have := rdc_length es
    rw [h] at this
    simp at this; omega
  · have key : ∀ j, j < 3 → ∀ v, (rd1 es[i])[j]? = some v → w.cell? ⟨b, off + (i * 3 + j), none⟩ = some v := fun j hj v hv => hc _ v ((rdc_at es i hi j hj).trans hv)
    exact ⟨b, off, rfl, hb, key 0 (by decide) _ rfl, by have := key 1 (by decide) _ rfl; rw [← Nat.add_assoc] at this; exact this, by have := key 2 (by decide) _ rfl; rw [← Nat.add_assoc] at this; exact this⟩
theorem Lies.u {w : World} {A : Option Addr} {ns : List Nat} (h : Lies w A (uc ns)) (i : Nat) (hi : i < ns.length) : ∃ b off, A = some ⟨b, off, none⟩ ∧ w.cell? ⟨b, off + i, none⟩ = some (.int .u64 ((ns[i] : Nat) : Int)) := by
  rcases h with h | ⟨b, off, rfl, hb, hc⟩
  · exfalso
    have := uc_length ns
    rw [h] at this
    simp at this; omega
  · exact ⟨b, off, rfl, hc i _ (uc_at ns i hi)⟩
theorem infoRd : (Try.prog.info? 97).map (fun i => (i.zero, i.size, i.bytes)) = some (some (.agg #[.int .u64 0, .int .u64 0, .int .u64 0]), 3, 24) := by kernel_rfl
theorem infoU : (Try.prog.info? 22).map (fun i => (i.zero, i.size, i.bytes)) = some (some (.int .u64 0), 1, 8) := by kernel_rfl
/-- A list's cells. -/
def rsC (A : Option Addr) (n c : Nat) (B : Option Addr) (m d : Nat) : Array Value := #[.slice A n c, .slice B m d]
/-- In the world W the list at block p stands for r, by these slices and the blocks S alone. -/
structure RdX (W : World) (p : Nat) (S : Nat → Prop) (r : Rd.R) (A : Option Addr) (c : Nat) (B : Option Addr) (d : Nat) : Prop where
  row : Rw W p (rsC A r.b.length c B r.w.length d) 83
  sb : Sl W 3 A r.b.length c (rdc r.b)
  sw : Sl W 1 B r.w.length d (uc r.w)
  pb : blk A ≠ some p
  pw : blk B ≠ some p
  ab : ∀ k, blk A = some k → blk B ≠ some k
  inb : ∀ k, blk A = some k → S k
  inw : ∀ k, blk B = some k → S k
  sp : S p
  lt : ∀ k, S k → k < W.heap.size
  fit : Rd.Fits r
structure RdAt (W : World) (p : Nat) (S : Nat → Prop) (r : Rd.R) : Prop where
  own : ∃ A c B d, RdX W p S r A c B d
section
variable {W W' w : World} {p : Nat} {S T : Nat → Prop} {r : Rd.R} {A B : Option Addr} {c d : Nat}
theorem RdX.stays (h : RdX W p S r A c B d) (hs : W.heap.size ≤ W'.heap.size) (hk : ∀ k, S k → W'.heap[k]? = W.heap[k]?) : RdX W' p S r A c B d :=
  ⟨(hk p h.sp).trans h.row, h.sb.keep fun b hb => hk b (h.inb b hb), h.sw.keep fun b hb => hk b (h.inw b hb), h.pb, h.pw, h.ab, h.inb, h.inw, h.sp, fun k hk => Nat.lt_of_lt_of_le (h.lt k hk) hs, h.fit⟩
theorem RdX.bel (h : RdX W p S r A c B d) (hb : Below W.heap.size W W') : RdX W' p S r A c B d := h.stays hb.size fun k hk => hb.block k (h.lt k hk)
theorem RdX.at_ (h : RdX W p S r A c B d) : RdAt W p S r := ⟨⟨A, c, B, d, h⟩⟩
theorem RdAt.stays (h : RdAt W p S r) (hs : W.heap.size ≤ W'.heap.size) (hk : ∀ k, S k → W'.heap[k]? = W.heap[k]?) : RdAt W' p S r := by
  obtain ⟨A, c, B, d, h⟩ := h.own
  exact (h.stays hs hk).at_
theorem RdAt.bel (h : RdAt W p S r) (hb : Below W.heap.size W W') : RdAt W' p S r := by
  obtain ⟨A, c, B, d, h⟩ := h.own
  exact (h.bel hb).at_
theorem RdAt.lt (h : RdAt W p S r) : ∀ k, S k → k < W.heap.size := by
  obtain ⟨A, c, B, d, h⟩ := h.own
  exact h.lt
theorem RdAt.fit (h : RdAt W p S r) : Rd.Fits r := by
  obtain ⟨A, c, B, d, h⟩ := h.own
  exact h.fit
theorem RdAt.sp (h : RdAt W p S r) : S p := by
  obtain ⟨A, c, B, d, h⟩ := h.own
  exact h.sp
theorem RdX.c0 (h : RdX W p S r A c B d) : W.cell? ⟨p, 0, none⟩ = some (.slice A r.b.length c) := h.row.cell 0 rfl
theorem RdX.c1 (h : RdX W p S r A c B d) : W.cell? ⟨p, 1, none⟩ = some (.slice B r.w.length d) := h.row.cell 1 rfl
theorem sizeRds : (Try.prog.info? 83).map (·.size) = some 2 := by kernel_rfl
/-- Only blocks of S may have turned. -/
structure Kr (S : Nat → Prop) (w w' : World) : Prop where
  os : w'.os = w.os
  tape : w'.tape = w.tape
  output : w'.output = w.output
  size : w.heap.size ≤ w'.heap.size
  block : ∀ k, k < w.heap.size → ¬ S k → w'.heap[k]? = w.heap[k]?
end
section
variable {S T : Nat → Prop} {a b c : World}
theorem Kr.refl (S : Nat → Prop) (w : World) : Kr S w w := ⟨rfl, rfl, rfl, Nat.le_refl _, fun _ _ _ => rfl⟩
theorem Kr.bel (k : Below a.heap.size a b) : Kr S a b := ⟨k.os, k.tape, k.output, k.size, fun i hi _ => k.block i hi⟩
theorem Kr.grown {w w' : World} {row : Option Nat} (h : w.grownBy w' row) (hs : ∀ k, row = some k → S k) : Kr S w w' := ⟨h.os, h.tape, h.output, h.size, fun k hk hn => grownBy_block h hk fun e => hn (hs k e)⟩
theorem Kr.set (w : World) (p : Addr) (v : Value) (hp : S p.block) : Kr S w (w.setCell p v) := ⟨rfl, rfl, rfl, by simp, fun k _ hn => heap_setCell_other w p k v fun e => hn (by rw [e]; exact hp)⟩
theorem Kr.trans (h : Kr S a b) (k : Kr T b c) (hs : ∀ k, T k → S k ∨ a.heap.size ≤ k) : Kr S a c :=
  ⟨k.os.trans h.os, k.tape.trans h.tape, k.output.trans h.output, Nat.le_trans h.size k.size, fun i hi hn =>
    (k.block i (Nat.lt_of_lt_of_le hi h.size) fun ht => (hs i ht).elim hn (fun hle => absurd hi (Nat.not_lt.2 hle))).trans (h.block i hi hn)⟩
theorem Kr.next (h : Kr S a b) (k : Below b.heap.size b c) : Kr S a c := h.trans (Kr.bel (S := fun _ => False) k) fun _ hk => hk.elim
theorem Kr.below (h : Kr S a b) {w : World} (hw : Below w.heap.size w a) (hs : ∀ k, S k → w.heap.size ≤ k) : Below w.heap.size w b :=
  ⟨h.os.trans hw.os, h.tape.trans hw.tape, h.output.trans hw.output, Nat.le_trans hw.size h.size, fun k hk => (h.block k (Nat.lt_of_lt_of_le hk hw.size) fun hn => absurd hk (Nat.not_lt.2 (hs k hn))).trans (hw.block k hk)⟩
theorem Kr.lies (hb : Kr T a b) {A : Option Addr} {vs : List Value} (h : Lies a A vs) (hs : ∀ k, blk A = some k → ¬ T k) : Lies b A vs := by
  rcases h with h | ⟨g, off, rfl, hlt, hc⟩
  · exact .inl h
  · exact .inr ⟨g, off, rfl, Nat.lt_of_lt_of_le hlt hb.size, fun i u hu => (World.cell?_of_block (a := ⟨g, off + i, none⟩) (hb.block g hlt (hs g rfl))).trans (hc i u hu)⟩
theorem Kr.sl (hb : Kr T a b) {A : Option Addr} {size n c : Nat} {vs : List Value} (h : Sl a size A n c vs) (hs : ∀ k, blk A = some k → ¬ T k) : Sl b size A n c vs := h.keep fun k hk => hb.block k (h.lt hk) (hs k hk)
theorem Kr.rw (hb : Kr T a b) {g : Nat} {X : Array Value} {t : TypeId} (h : Rw a g X t) (hs : ¬ T g) : Rw b g X t := (hb.block g h.lt hs).trans h
theorem RdAt.ks {p : Nat} {r : Rd.R} (h : RdAt a p S r) (hb : Kr T a b) (hs : ∀ k, S k → ¬ T k) : RdAt b p S r := h.stays hb.size fun k hk => hb.block k (h.lt k hk) (hs k hk)
end
/-- The list has become r, by the blocks that it had, and new ones. -/
structure RNow (w W : World) (p : Nat) (S : Nat → Prop) (r : Rd.R) : Prop where
  at_ : ∃ S', RdAt W p S' r ∧ ∀ k, S' k → S k ∨ w.heap.size ≤ k
  ks : Kr S w W
theorem RNow.of {w W : World} {p : Nat} {S : Nat → Prop} {r : Rd.R} (h : RdAt w p S r) (hb : Below w.heap.size w W) : RNow w W p S r := ⟨⟨S, h.bel hb, fun k hk => .inl hk⟩, Kr.bel hb⟩
theorem RNow.bel {w W W' : World} {p : Nat} {S : Nat → Prop} {r : Rd.R} (h : RNow w W p S r) (hb : Below W.heap.size W W') : RNow w W' p S r := by
  obtain ⟨⟨S', h1, h2⟩, h3⟩ := h
  exact ⟨⟨S', h1.bel hb, h2⟩, h3.next hb⟩
end Go.Proofs.Ytlnohjboldenpaa
