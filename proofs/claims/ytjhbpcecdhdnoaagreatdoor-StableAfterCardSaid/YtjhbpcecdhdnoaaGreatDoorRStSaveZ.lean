/-
  The plain mathematics of layer 9 (stable): behind a Save, a Cut and an Open, where the power stays and where it goes. No program's function is named here.
  Many entries as values, and how they lie in memory.
  Layer 9's values: a snapshot and a state as cells.
  A row in memory: what keeps it, and what turns it.
  stable's small functions walked: ownEntry, ownSnap, isRecord.
-/
import Derived.Test.YtjhbpcecdhdnoaaGreatDoorRStOps
import Derived.Test.YtjhbpcecdhdnoaaGreatDoorREnA
import Derived.Test.YtjhbpcecdhdnoaaGreatDoorRWlBaseZ
import Derived.Test.YtjhbpcecdhdnoaaGreatDoorRWords
set_option linter.unusedSimpArgs false
set_option linter.unusedVariables false
namespace Go.Proofs.YtjhbpcecdhdnoaaGreatDoor
namespace St
open Wl (R row rows row1 all rws ba name lay segT headT seg Is Was)
open Dk (D Fl find put drop okName e0 Inv)
def Behind (k : K) (l : List R) (q : K) : Prop := q = k ∨ ∃ i, after k (l.take i) = some q
/-! ### Opened -/
end St
end Go.Proofs.YtjhbpcecdhdnoaaGreatDoor
namespace Go.Proofs.YtjhbpcecdhdnoaaGreatDoor
open Go.RowKit
def ec1 (e : En.E) : List Value := [.int .u64 (e.idx : Int), .int .u64 (e.trm : Int), .int .u8 (e.kind : Int), .int .u8 (e.slot : Int), .int .u8 (e.tok.a0.toNat : Int), .int .u8 (e.tok.a1.toNat : Int), .int .u8 (e.tok.a2.toNat : Int), .int .u8 (e.tok.a3.toNat : Int), .int .u8 (e.tok.a4.toNat : Int), .int .u8 (e.tok.a5.toNat : Int), .int .u8 (e.tok.a6.toNat : Int), .int .u8 (e.tok.a7.toNat : Int), .string e.body]
def ec (es : List En.E) : List Value := (es.map ec1).flatten
theorem ec1_toList (e : En.E) : (entC e).toList = ec1 e := rfl
theorem ec1_length (e : En.E) : (ec1 e).length = 13 := rfl
theorem ec_length (es : List En.E) : (ec es).length = 13 * es.length := by
  induction es with
  | nil => rfl
  | cons e es ih =>
    have h : ec (e :: es) = ec1 e ++ ec es := rfl
    rw [h, List.length_append, ih, List.length_cons, ec1_length]; omega
theorem ec_at : ∀ (es : List En.E) (i : Nat) (h : i < es.length) (j : Nat), j < 13 → (ec es)[13 * i + j]? = (ec1 es[i])[j]?
  | e :: es, 0, _, j, hj => by
    show (ec1 e ++ ec es)[13 * 0 + j]? = _
    rw [List.getElem?_append_left (by rw [ec1_length]; omega)]
    congr 1; omega
  | e :: es, i + 1, h, j, hj => by
    have k := ec_at es i (by simpa using h) j hj
    show (ec1 e ++ ec es)[13 * (i + 1) + j]? = _
    rw [List.getElem?_append_right (by rw [ec1_length]; omega), ec1_length]
    have e2 : 13 * (i + 1) + j - 13 = 13 * i + j := by omega
    rw [e2, k]; rfl
structure EntL (W : World) (b o : Nat) (e : En.E) : Prop where
  lt : b < W.heap.size
  c0 : W.cell? ⟨b, o, none⟩ = some (.int .u64 (e.idx : Int))
  c1 : W.cell? ⟨b, o + 1, none⟩ = some (.int .u64 (e.trm : Int))
  c2 : W.cell? ⟨b, o + 2, none⟩ = some (.int .u8 (e.kind : Int))
  c3 : W.cell? ⟨b, o + 3, none⟩ = some (.int .u8 (e.slot : Int))
  c4 : W.cell? ⟨b, o + 4, none⟩ = some (.int .u8 (e.tok.a0.toNat : Int))
  c5 : W.cell? ⟨b, o + 5, none⟩ = some (.int .u8 (e.tok.a1.toNat : Int))
  c6 : W.cell? ⟨b, o + 6, none⟩ = some (.int .u8 (e.tok.a2.toNat : Int))
  c7 : W.cell? ⟨b, o + 7, none⟩ = some (.int .u8 (e.tok.a3.toNat : Int))
  c8 : W.cell? ⟨b, o + 8, none⟩ = some (.int .u8 (e.tok.a4.toNat : Int))
  c9 : W.cell? ⟨b, o + 9, none⟩ = some (.int .u8 (e.tok.a5.toNat : Int))
  c10 : W.cell? ⟨b, o + 10, none⟩ = some (.int .u8 (e.tok.a6.toNat : Int))
  c11 : W.cell? ⟨b, o + 11, none⟩ = some (.int .u8 (e.tok.a7.toNat : Int))
  c12 : W.cell? ⟨b, o + 12, none⟩ = some (.string e.body)
theorem EntL.bel {W W' : World} {b o : Nat} {e : En.E} (h : EntL W b o e) (hb : Below W.heap.size W W') : EntL W' b o e :=
  ⟨Nat.lt_of_lt_of_le h.lt hb.size, later hb h.c0, later hb h.c1, later hb h.c2, later hb h.c3, later hb h.c4, later hb h.c5, later hb h.c6, later hb h.c7, later hb h.c8, later hb h.c9, later hb h.c10, later hb h.c11, later hb h.c12⟩
theorem EntL.of {W : World} {b o : Nat} {e : En.E} (hlt : b < W.heap.size) (h : ∀ j, j < 13 → W.cell? ⟨b, o + j, none⟩ = (ec1 e)[j]?) : EntL W b o e :=
  ⟨hlt, h 0 (by decide), h 1 (by decide), h 2 (by decide), h 3 (by decide), h 4 (by decide), h 5 (by decide), h 6 (by decide), h 7 (by decide), h 8 (by decide), h 9 (by decide), h 10 (by decide), h 11 (by decide), h 12 (by decide)⟩
theorem Lies.ent {w : World} {A : Option Addr} {es : List En.E} (h : Lies w A (ec es)) (i : Nat) (hi : i < es.length) :
    ∃ b off, A = some ⟨b, off, none⟩ ∧ EntL w b (off + i * 13) es[i] := by
  rcases h with h | ⟨b, off, rfl, hb, hc⟩
  · exfalso
    have := ec_length es
    rw [h] at this
    simp at this; omega
  · refine ⟨b, off, rfl, EntL.of hb fun j hj => ?_⟩
    have hk := ec_at es i hi j hj
    have hl : j < (ec1 es[i]).length := by rw [ec1_length]; exact hj
    rw [List.getElem?_eq_getElem hl] at hk ⊢
    have := hc _ _ hk
    rw [Nat.add_assoc, Nat.mul_comm i 13]
    exact this
end Go.Proofs.YtjhbpcecdhdnoaaGreatDoor
namespace Go.Proofs.YtjhbpcecdhdnoaaGreatDoor
open Go.RowKit
def St.sx (s : St.Sn) (i : Nat) : ByteArray := s.sec.getD i Dk.e0
def snC (s : St.Sn) : Array Value := #[.int .u64 (s.idx : Int), .int .u64 (s.trm : Int), .int .u8 (s.mem : Int), .string (St.sx s 0), .string (St.sx s 1), .string (St.sx s 2), .string (St.sx s 3), .string (St.sx s 4)]
def kC (k : St.K) (v : Value) : Array Value := #[.int .u64 (k.trm : Int), .int .u8 (k.vote : Int), .int .u64 (k.snap.idx : Int), .int .u64 (k.snap.trm : Int), .int .u8 (k.snap.mem : Int), .string (St.sx k.snap 0), .string (St.sx k.snap 1), .string (St.sx k.snap 2), .string (St.sx k.snap 3), .string (St.sx k.snap 4), v]
theorem sizeSnap : (Tryz.prog.info? 55).map (·.size) = some 8 := by kernel_rfl
theorem sizeKept : (Tryz.prog.info? 58).map (·.size) = some 11 := by kernel_rfl
theorem infoEn : (Tryz.prog.info? 88).map (fun i => (i.zero, i.size, i.bytes)) = some (some (.agg (entC En.zero)), 13, 48) := by kernel_rfl
theorem snC_one (s : St.Sn) : (snC s).all (·.oneCell') = true := by simp [snC, Value.oneCell']
def St.Sec (s : St.Sn) : Prop := ∀ i, i < 5 → (St.sx s i).size ≤ 100000000
theorem St.Small.secs {k : St.K} (h : St.Small k) : St.Sec k.snap := fun i hi => by
  rcases h.snap with h | ⟨_, h⟩
  · rw [h]
    have : ∀ i, i < 5 → (St.sx St.zs i).size ≤ 100000000 := by decide
    exact this i hi
  · have hl := h.len
    unfold St.sx
    rw [List.getD_eq_getElem?_getD, List.getElem?_eq_getElem (by omega)]
    have := h.sec _ (List.getElem_mem (by omega : i < k.snap.sec.length))
    simp only [Option.getD_some]; omega
end Go.Proofs.YtjhbpcecdhdnoaaGreatDoor
namespace Go.Proofs.YtjhbpcecdhdnoaaGreatDoor
open Go.RowKit
def Rw (W : World) (g : Nat) (X : Array Value) (T : TypeId) : Prop := W.heap[g]? = some (.cells X T (0, 0))
def Bl (w W : World) : Prop := Below w.heap.size w W
theorem Bl.refl (w : World) : Bl w w := Below.refl _ _
theorem Bl.bel {w W : World} (h : Bl w W) : Below w.heap.size w W := h
theorem Bl.le {w W : World} (h : Bl w W) : w.heap.size ≤ W.heap.size := Below.size h
theorem Bl.next {w W W' : World} (h : Bl w W) (hb : Below W.heap.size W W') : Bl w W' := bnext h hb
theorem Bl.alloc {w W : World} (h : Bl w W) (o : Obj) : Bl w (W.alloc o) := bnew h o
theorem Bl.put {w W : World} (h : Bl w W) {g : Nat} (hg : w.heap.size ≤ g) (i : Nat) (v : Value) : Bl w (W.setCell ⟨g, i, none⟩ v) := Below.setCell h (p := ⟨g, i, none⟩) hg v
theorem Bl.puts {w W : World} (h : Bl w W) {g : Nat} (hg : w.heap.size ≤ g) (k : Nat) (vs : List Value) : Bl w (W.setCells g k vs) := setCells_below hg vs k W h
theorem Bl.drewN {w W : World} (h : Bl w W) (n : Nat) : Bl w (W.drewN n) := below_drewN h n
section
variable {W W' w : World} {g j i k B : Nat} {X Y : Array Value} {T : TypeId} {v : Value} {vs : List Value}
theorem Rw.lt (h : Rw W g X T) : g < W.heap.size := (Array.getElem?_eq_some_iff.1 h).1
theorem Rw.bel (h : Rw W g X T) (hb : Below W.heap.size W W') : Rw W' g X T := (hb.block g h.lt).trans h
theorem Rw.new (W : World) (X : Array Value) (T : TypeId) : Rw (W.alloc (.cells X T)) W.heap.size X T := heap_alloc_new W _
theorem Rw.drew (h : Rw W g X T) : Rw W.drew g X T := h
theorem Rw.drewN (h : Rw W g X T) (n : Nat) : Rw (W.drewN n) g X T := h.bel (below_drewN (Below.refl _ _) n)
theorem Rw.put (h : Rw W g X T) (i : Nat) (v : Value) : Rw (W.setCell ⟨g, i, none⟩ v) g (X.setIfInBounds i v) T := heap_setCell_same W g i X T v h
theorem Rw.same (h : Rw W g X T) (i : Nat) (v : Value) (hv : X[i]? = some v) : Rw (W.setCell ⟨g, i, none⟩ v) g X T := by
  have h2 := h.put i v
  have e : X.setIfInBounds i v = X := by
    apply Array.ext_getElem?
    intro m
    rw [Array.getElem?_setIfInBounds]
    split
    · rename_i hm
      subst hm
      split
      · exact hv.symm
      · rename_i hn
        exact absurd (Array.getElem?_eq_some_iff.1 hv).1 hn
    · rfl
  rwa [e] at h2
theorem Rw.oput (h : Rw W g X T) (hj : g ≠ j) (i : Nat) (v : Value) : Rw (W.setCell ⟨j, i, none⟩ v) g X T := (heap_setCell_other W ⟨j, i, none⟩ g v hj).trans h
theorem Rw.puts (h : Rw W g X T) (k : Nat) (vs : List Value) : Rw (W.setCells g k vs) g (lay X k vs) T := row_setCells vs k W X h
theorem Rw.oputs (h : Rw W g X T) (hj : g ≠ j) (k : Nat) (vs : List Value) : Rw (W.setCells j k vs) g X T := (setCells_other hj vs k W).trans h
theorem Rw.cell (h : Rw W g X T) (i : Nat) {v : Value} (hv : X[i]? = some v) : W.cell? ⟨g, i, none⟩ = some v := (cell_of_row W g i _ _ _ h).trans hv
theorem Rw.free (h : Rw W g X T) (i : Nat) : W.frozen? ⟨g, i, none⟩ = false := frozen_of_row W g i X T h
theorem Rw.alloc (h : Rw W g X T) (o : Obj) : Rw (W.alloc o) g X T := h.bel (bnew (Below.refl _ _) o)
theorem lay_all_eq {X : Array Value} {L : List Value} (h : X.size = L.length) : lay X 0 L = L.toArray := by
  have key : ∀ (L : List Value) (k : Nat) (X : Array Value) (i : Nat), k ≤ i → i < k + L.length → k + L.length ≤ X.size → (lay X k L)[i]? = L[i - k]? := by
    intro L
    induction L with
    | nil => intro k X i h1 h2 _; simp at h2; omega
    | cons v r ih =>
      intro k X i h1 h2 h3
      rw [lay]
      by_cases he : i = k
      · subst he
        have hout : ∀ (r : List Value) (m : Nat) (Z : Array Value), i < m → (lay Z m r)[i]? = Z[i]? := by
          intro r
          induction r with
          | nil => intro m Z _; rfl
          | cons u r ih2 =>
            intro m Z hm
            rw [lay, ih2 (m + 1) _ (by omega), Array.getElem?_setIfInBounds, if_neg (by omega)]
        rw [hout r (i + 1) _ (by omega), Array.getElem?_setIfInBounds, if_pos rfl, if_pos (by simp at h3; omega)]
        simp
      · rw [ih (k + 1) _ i (by omega) (by simp at h2; omega) (by rw [Array.size_setIfInBounds]; simp at h3; omega)]
        have e : i - k = (i - (k + 1)) + 1 := by omega
        rw [e, List.getElem?_cons_succ]
  apply Array.ext_getElem?
  intro i
  by_cases hi : i < L.length
  · rw [key L 0 X i (by omega) (by omega) (by omega), Nat.sub_zero, List.getElem?_toArray]
  · rw [Array.getElem?_eq_none (by rw [lay_size]; omega), List.getElem?_toArray, List.getElem?_eq_none (by omega)]
theorem Rw.over (h : Rw W g X T) {Y : Array Value} (hs : X.size = Y.size) : Rw (W.setCells g 0 Y.toList) g Y T := by
  have h2 := h.puts 0 Y.toList
  rwa [lay_all_eq (by simpa using hs)] at h2
end
end Go.Proofs.YtjhbpcecdhdnoaaGreatDoor
namespace Go.Proofs.YtjhbpcecdhdnoaaGreatDoor
open Go.RowKit
set_option maxRecDepth 100000 in
theorem ownEntry_any (e : En.E) (w : World) (hb : e.body.size ≤ 140737488355328) : Calls Tryz.prog 122 #[.agg (entC e)] w fun r w' => r = .returned (.agg (entC e)) ∧ Below w.heap.size w w' := by
  have HC := Lib.hid (fun W => stringsClone_any e.body W (by omega))
  have FX := entF e
  obtain ⟨X, hX⟩ : ∃ X, X = entC e := ⟨_, rfl⟩
  rw [← hX] at FX ⊢
  obtain ⟨hx, ho, _, _, _, _, _, _, _, _, _, _, _, _, x12⟩ := FX
  have H12 : Hid (X[12]? = some (.string e.body)) := Lib.hid (by rw [Array.getElem?_eq_getElem (by omega), x12])
  have HZ : Hid ((Tryz.prog.info? 88).map (·.size) = some X.size) := Lib.hid (by rw [hx]; exact sizeEnt)
  have Ho := Lib.hid ho
  clear hX ho
  go_enter Tryz.func122, Tryz.ntmps122
  go_upto_region 1 with (fail)
  refine forget (fun W => Rw W w.heap.size X 88 ∧ Rw W (w.heap.size + 1) (entC En.zero) 88 ∧ Bl w W ∧ w.heap.size ≤ w.heap.size) ⟨(Rw.new w X _).alloc _, by have := Rw.new (w.alloc (.cells X 88)) (entC En.zero) 88; rw [World.size_alloc] at this; exact this, ((Bl.refl w).alloc _).alloc _, Nat.le_refl _⟩ ?_
  intro W1 H1
  obtain ⟨g, hg⟩ : ∃ g, g = w.heap.size := ⟨_, rfl⟩
  have hg2 : w.heap.size ≤ g := by omega
  rw [← hg] at H1 ⊢
  clear hg x12
  have c12 := H1.1.cell 12 H12.out
  have HI := Lib.hid H1
  clear H1
  go_wp2_with fail
  refine (HC.out _).mono ?_
  rintro r w1 ⟨rfl, hb1⟩
  have H2 : Hid (Rw (w1.setCell ⟨g, 12, none⟩ (.string e.body)) g X 88 ∧ Rw (w1.setCell ⟨g, 12, none⟩ (.string e.body)) (g + 1) (entC En.zero) 88 ∧ Bl w (w1.setCell ⟨g, 12, none⟩ (.string e.body))) := Lib.hid
    ⟨(HI.out.1.bel hb1).same 12 _ H12.out, (HI.out.2.1.bel hb1).oput (by omega) _ _, (HI.out.2.2.1.next hb1).put hg2 _ _⟩
  have c12b := later hb1 c12
  have f12 := (HI.out.1.bel hb1).free 12
  clear hb1 c12
  go_wp2_with (first
    | (refine wpList_load_sub rfl 88 _ rfl g 0 rfl 88 X X (0, 0) _ H2.out.1 (fun j hj => by rw [Nat.zero_add]) Tryz.underlying88 rfl HZ.out ?_)
    | (refine wpList_store_sub rfl 88 _ _ rfl (g + 1) 0 rfl 88 (entC En.zero) X rfl H2.out.2.1 (by show 0 + X.size ≤ 13; omega) HZ.out Ho.out ?_))
  refine bodyPost_ret (results_cell_row (P := Tryz.prog) (fn := Tryz.f122) rfl _ _ (g + 1) 88 X (0, 0) _ rfl (H2.out.2.1.over (by rw [hx]; rfl)) Tryz.underlying88 rfl HZ.out) rfl ?_
  exact ⟨rfl, H2.out.2.2.puts (by omega) _ _⟩
def secA (s : St.Sn) : Array Value := #[.string (St.sx s 0), .string (St.sx s 1), .string (St.sx s 2), .string (St.sx s 3), .string (St.sx s 4)]
theorem snC_sec (s : St.Sn) (j : Nat) (hj : j < (secA s).size) : (snC s)[3 + j]? = (secA s)[j]? := by
  have : (secA s).size = 5 := rfl
  match j, hj with
  | 0, _ => rfl
  | 1, _ => rfl
  | 2, _ => rfl
  | 3, _ => rfl
  | 4, _ => rfl
theorem sizeSec : (Tryz.prog.info? 53).map (·.size) = some 5 := by kernel_rfl
theorem index_sec0 (s : St.Sn) (W : World) : (Instr.index 53 (.agg #[.string (St.sx s 0), .string (St.sx s 1), .string (St.sx s 2), .string (St.sx s 3), .string (St.sx s 4)]) (.int .i64 0)).run Tryz.prog W = .ok (.string (St.sx s 0)) W := by
  have h := Tryz.underlying53
  simp [Instr.index, run_underlying h, asIntOf, go_sem]
theorem index_sec1 (s : St.Sn) (W : World) : (Instr.index 53 (.agg #[.string (St.sx s 0), .string (St.sx s 1), .string (St.sx s 2), .string (St.sx s 3), .string (St.sx s 4)]) (.int .i64 1)).run Tryz.prog W = .ok (.string (St.sx s 1)) W := by
  have h := Tryz.underlying53
  simp [Instr.index, run_underlying h, asIntOf, go_sem]
theorem index_sec2 (s : St.Sn) (W : World) : (Instr.index 53 (.agg #[.string (St.sx s 0), .string (St.sx s 1), .string (St.sx s 2), .string (St.sx s 3), .string (St.sx s 4)]) (.int .i64 2)).run Tryz.prog W = .ok (.string (St.sx s 2)) W := by
  have h := Tryz.underlying53
  simp [Instr.index, run_underlying h, asIntOf, go_sem]
theorem index_sec3 (s : St.Sn) (W : World) : (Instr.index 53 (.agg #[.string (St.sx s 0), .string (St.sx s 1), .string (St.sx s 2), .string (St.sx s 3), .string (St.sx s 4)]) (.int .i64 3)).run Tryz.prog W = .ok (.string (St.sx s 3)) W := by
  have h := Tryz.underlying53
  simp [Instr.index, run_underlying h, asIntOf, go_sem]
theorem index_sec4 (s : St.Sn) (W : World) : (Instr.index 53 (.agg #[.string (St.sx s 0), .string (St.sx s 1), .string (St.sx s 2), .string (St.sx s 3), .string (St.sx s 4)]) (.int .i64 4)).run Tryz.prog W = .ok (.string (St.sx s 4)) W := by
  have h := Tryz.underlying53
  simp [Instr.index, run_underlying h, asIntOf, go_sem]
set_option maxRecDepth 100000 in
set_option maxHeartbeats 2000000 in
theorem ownSnap_any (s : St.Sn) (w : World) (hs : St.Sec s) : Calls Tryz.prog 120 #[.agg (snC s)] w fun r w' => r = .returned (.agg (snC s)) ∧ Below w.heap.size w w' := by
  have HC := Lib.hid (fun i (hi : i < 5) W => stringsClone_any (St.sx s i) W (by have := hs i hi; omega))
  have HS := Lib.hid (snC_sec s)
  have HX : Hid (∀ i, i < 5 → (snC s)[3 + i]? = some (.string (St.sx s i))) := Lib.hid fun i hi => by
    match i, hi with
    | 0, _ => rfl
    | 1, _ => rfl
    | 2, _ => rfl
    | 3, _ => rfl
    | 4, _ => rfl
  have ho : (snC s).all (·.oneCell') = true := by simp [snC, Value.oneCell']
  have hx : (snC s).size = 8 := rfl
  obtain ⟨X, hX⟩ : ∃ X, X = snC s := ⟨_, rfl⟩
  rw [← hX] at HX HS ho hx ⊢
  have HZ : Hid ((Tryz.prog.info? 55).map (·.size) = some X.size) := Lib.hid (by rw [hx]; exact sizeSnap)
  have HA : Hid ((Tryz.prog.info? 53).map (·.size) = some (secA s).size) := Lib.hid sizeSec
  have Ho := Lib.hid ho
  clear hX ho hs
  go_enter Tryz.func120, Tryz.ntmps120
  go_upto_region 1 with (fail)
  refine forget (fun W => Rw W w.heap.size X 55 ∧ Rw W (w.heap.size + 1) (snC St.zs) 55 ∧ Bl w W ∧ w.heap.size ≤ w.heap.size) ⟨(Rw.new w X _).alloc _, by have := Rw.new (w.alloc (.cells X 55)) (snC St.zs) 55; rw [World.size_alloc] at this; exact this, ((Bl.refl w).alloc _).alloc _, Nat.le_refl _⟩ ?_
  intro W1 H1
  obtain ⟨g, hg⟩ : ∃ g, g = w.heap.size := ⟨_, rfl⟩
  have hg2 : w.heap.size ≤ g := by omega
  rw [← hg] at H1 ⊢
  clear hg
  have HI := Lib.hid H1
  clear H1
  have HAe : Hid (∃ Y, Y = secA s) := Lib.hid ⟨_, rfl⟩
  unfold secA at HS HA
  go_wp2_with (refine wpList_load_sub rfl 53 _ rfl g 3 rfl 55 X _ (0, 0) _ HI.out.1 HS.out Tryz.underlying53 rfl HA.out ?_)
  go_loopw [7] (fun v wr => ∃ k : Nat, k ≤ 5 ∧ v = .int .i64 (k : Int) ∧ Rw wr g X 55 ∧ Rw wr (g + 1) (snC St.zs) 55 ∧ Bl w wr) (fun v _ => 5 - (intOf v).toNat)
  case atStart => exact ⟨0, by omega, rfl, HI.out.1, HI.out.2.1, HI.out.2.2.1⟩
  case round =>
    obtain ⟨k, hk, rfl, h1, h2, h3⟩ := hrel
    have HJ := Lib.hid (And.intro h1 (And.intro h2 h3))
    clear h1 h2 h3
    by_cases hlt : k < 5
    · have hc : k = 0 ∨ k = 1 ∨ k = 2 ∨ k = 3 ∨ k = 4 := by omega
      rcases hc with rfl | rfl | rfl | rfl | rfl
      · have ix := index_sec0 s
        go_wp2_with fail
        refine (HC.out 0 (by decide) _).mono ?_
        rintro r w1 ⟨rfl, hb1⟩
        have H2 := Lib.hid (And.intro (HJ.out.1.bel hb1) (And.intro (HJ.out.2.1.bel hb1) (HJ.out.2.2.next hb1)))
        clear hb1
        have f0 := H2.out.1.free 3
        have c0 : _ = some (Value.string (St.sx s 0)) := H2.out.1.cell 3 (HX.out 0 (by decide))
        go_wp2_with fail
        go_roundw
        case rel => exact ⟨1, by decide, by first | rfl | go_num, H2.out.1.same _ _ (HX.out 0 (by decide)), H2.out.2.1.oput (by omega) _ _, H2.out.2.2.put hg2 _ _⟩
        case measure => simp [intOf]
      · have ix := index_sec1 s
        go_wp2_with fail
        refine (HC.out 1 (by decide) _).mono ?_
        rintro r w1 ⟨rfl, hb1⟩
        have H2 := Lib.hid (And.intro (HJ.out.1.bel hb1) (And.intro (HJ.out.2.1.bel hb1) (HJ.out.2.2.next hb1)))
        clear hb1
        have f0 := H2.out.1.free 4
        have c0 : _ = some (Value.string (St.sx s 1)) := H2.out.1.cell 4 (HX.out 1 (by decide))
        go_wp2_with fail
        go_roundw
        case rel => exact ⟨2, by decide, by first | rfl | go_num, H2.out.1.same _ _ (HX.out 1 (by decide)), H2.out.2.1.oput (by omega) _ _, H2.out.2.2.put hg2 _ _⟩
        case measure => simp [intOf]
      · have ix := index_sec2 s
        go_wp2_with fail
        refine (HC.out 2 (by decide) _).mono ?_
        rintro r w1 ⟨rfl, hb1⟩
        have H2 := Lib.hid (And.intro (HJ.out.1.bel hb1) (And.intro (HJ.out.2.1.bel hb1) (HJ.out.2.2.next hb1)))
        clear hb1
        have f0 := H2.out.1.free 5
        have c0 : _ = some (Value.string (St.sx s 2)) := H2.out.1.cell 5 (HX.out 2 (by decide))
        go_wp2_with fail
        go_roundw
        case rel => exact ⟨3, by decide, by first | rfl | go_num, H2.out.1.same _ _ (HX.out 2 (by decide)), H2.out.2.1.oput (by omega) _ _, H2.out.2.2.put hg2 _ _⟩
        case measure => simp [intOf]
      · have ix := index_sec3 s
        go_wp2_with fail
        refine (HC.out 3 (by decide) _).mono ?_
        rintro r w1 ⟨rfl, hb1⟩
        have H2 := Lib.hid (And.intro (HJ.out.1.bel hb1) (And.intro (HJ.out.2.1.bel hb1) (HJ.out.2.2.next hb1)))
        clear hb1
        have f0 := H2.out.1.free 6
        have c0 : _ = some (Value.string (St.sx s 3)) := H2.out.1.cell 6 (HX.out 3 (by decide))
        go_wp2_with fail
        go_roundw
        case rel => exact ⟨4, by decide, by first | rfl | go_num, H2.out.1.same _ _ (HX.out 3 (by decide)), H2.out.2.1.oput (by omega) _ _, H2.out.2.2.put hg2 _ _⟩
        case measure => simp [intOf]
      · have ix := index_sec4 s
        go_wp2_with fail
        refine (HC.out 4 (by decide) _).mono ?_
        rintro r w1 ⟨rfl, hb1⟩
        have H2 := Lib.hid (And.intro (HJ.out.1.bel hb1) (And.intro (HJ.out.2.1.bel hb1) (HJ.out.2.2.next hb1)))
        clear hb1
        have f0 := H2.out.1.free 7
        have c0 : _ = some (Value.string (St.sx s 4)) := H2.out.1.cell 7 (HX.out 4 (by decide))
        go_wp2_with fail
        go_roundw
        case rel => exact ⟨5, by decide, by first | rfl | go_num, H2.out.1.same _ _ (HX.out 4 (by decide)), H2.out.2.1.oput (by omega) _ _, H2.out.2.2.put hg2 _ _⟩
        case measure => simp [intOf]
    · obtain rfl : k = 5 := by omega
      go_wp2_with (first
        | (refine wpList_load_sub rfl 55 _ rfl g 0 rfl 55 X X (0, 0) _ HJ.out.1 (fun j hj => by rw [Nat.zero_add]) Tryz.underlying55 rfl HZ.out ?_)
        | (refine wpList_store_sub rfl 55 _ _ rfl (g + 1) 0 rfl 55 (snC St.zs) X rfl HJ.out.2.1 (by show 0 + X.size ≤ 8; omega) HZ.out Ho.out ?_))
      refine bodyPost_ret (results_cell_row (P := Tryz.prog) (fn := Tryz.f120) rfl _ _ (g + 1) 55 X (0, 0) _ rfl (HJ.out.2.1.over (by rw [hx]; rfl)) Tryz.underlying55 rfl HZ.out) rfl ?_
      exact ⟨rfl, HJ.out.2.2.puts (by omega) _ _⟩
end Go.Proofs.YtjhbpcecdhdnoaaGreatDoor
