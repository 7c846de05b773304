/-
  A strings.Builder of one's own: copyCheck, WriteString, String walked; what its memory is.
-/
import Derived.Test.YtpdahbfjbgcmgaaRWk
import Derived.Test.YtpdahbfjbgcmgaaRNum
import Derived.Test.YtpdahbfjbgcmgaaRBld
import Derived.Lib.Builder
import Derived.Lib.AppendStr
import Derived.Lib.UnsafeStr
set_option linter.unusedSimpArgs false
set_option linter.unusedVariables false
namespace Go.Proofs.Ytpdahbfjbgcmgaa
open Go.RowKit

/-- A builder in block g: its buffer is a row of its own, from block B on. -/
structure SbP (B : Nat) (W : World) (g : Nat) (p v : Value) (l : List UInt8) : Prop where
  hp : p = .pointer none ∨ p = .pointer (some ⟨g, 0, none⟩)
  row : W.heap[g]? = some (.cells #[p, v] 78 (0, 0))
  own : W.ownsRow B 5 1 v l.length (bc l)
  lo : B ≤ g
def SbAt (B : Nat) (W : World) (g : Nat) (o : Option Nat) (l : List UInt8) : Prop := ∃ p v, SbP B W g p v l ∧ o = v.ownBlock
theorem SbP.ne {B : Nat} {W : World} {g : Nat} {p v : Value} {l : List UInt8} (h : SbP B W g p v l) {k : Nat} {cs : Array Value} {t : TypeId} {fr : Nat × Nat} (hk : W.heap[k]? = some (.cells cs t fr)) (ht : t ≠ 5) : v.ownBlock ≠ some k := by
  rcases h.own.2 with ⟨hv, _⟩ | ⟨q, cap, cur, hv, _, hq, _⟩
  · rw [hv]; simp [Value.ownBlock]
  · rw [hv]; intro e; cases e; rw [hk] at hq; injection hq with hq; injection hq with _ hq _; exact ht hq
theorem SbP.lt {B : Nat} {W : World} {g : Nat} {p v : Value} {l : List UInt8} (h : SbP B W g p v l) : g < W.heap.size := (Array.getElem?_eq_some_iff.1 h.row).1
theorem SbP.sep {B : Nat} {W : World} {g : Nat} {p v : Value} {l : List UInt8} (h : SbP B W g p v l) : v.ownBlock ≠ some g := h.ne h.row (by decide)
theorem SbP.bel {B : Nat} {W W' : World} {g : Nat} {p v : Value} {l : List UInt8} (h : SbP B W g p v l) (hb : Below W.heap.size W W') : SbP B W' g p v l :=
  ⟨h.hp, (hb.block g h.lt).trans h.row, own_by h.own fun k e => hb.block k (h.own.lt k e).2, h.lo⟩
theorem SbAt.bel {B : Nat} {W W' : World} {g : Nat} {o : Option Nat} {l : List UInt8} (h : SbAt B W g o l) (hb : Below W.heap.size W W') : SbAt B W' g o l := by
  obtain ⟨p, v, hP, ho⟩ := h
  exact ⟨p, v, hP.bel hb, ho⟩
theorem SbAt.lo {B : Nat} {W : World} {g : Nat} {o : Option Nat} {l : List UInt8} (h : SbAt B W g o l) : B ≤ g ∧ g < W.heap.size ∧ ∀ k, o = some k → B ≤ k ∧ k < W.heap.size := by
  obtain ⟨p, v, hP, rfl⟩ := h
  exact ⟨hP.lo, hP.lt, fun k e => hP.own.lt k e⟩
theorem sizeSb : (Try.prog.info? 78).map (·.size) = some 2 := by kernel_rfl
theorem liesSb : liesAt Try.prog Try.prog.depth 78 (2 / Try.prog.cellsOf 78) 0 78 1 = true := by kernel_rfl
theorem cellsByteS : Try.prog.cellsOf 5 = 1 := by kernel_rfl
theorem SbP.c0 {B : Nat} {W : World} {g : Nat} {p v : Value} {l : List UInt8} (h : SbP B W g p v l) : W.cell? ⟨g, 0, none⟩ = some p := cell_of_row W g 0 _ _ _ h.row
theorem SbP.c1 {B : Nat} {W : World} {g : Nat} {p v : Value} {l : List UInt8} (h : SbP B W g p v l) : W.cell? ⟨g, 1, none⟩ = some v := cell_of_row W g 1 _ _ _ h.row
theorem SbP.fz {B : Nat} {W : World} {g : Nat} {p v : Value} {l : List UInt8} (h : SbP B W g p v l) (i : Nat) : W.frozen? ⟨g, i, none⟩ = false := frozen_of_row W g i _ _ h.row
set_option maxHeartbeats 1000000 in
set_option maxRecDepth 100000 in
theorem sbCheck_any (B : Nat) (W : World) (g : Nat) (p v : Value) (l0 : List UInt8) (h : SbP B W g p v l0) :
    Calls Try.prog 106 #[.pointer (some ⟨g, 0, none⟩)] W fun e w' => e = .returned (.tuple #[]) ∧ SbP B w' g (.pointer (some ⟨g, 0, none⟩)) v l0 ∧ ∀ o, Kept g o o W w' := by
  obtain ⟨j, hj, hjs⟩ := Option.map_eq_some_iff.1 sizeSb
  have h0 := h.c0
  have hsh : W.shape? g = some (78, 2) := by simp [World.shape?, h.row]
  have hfz := h.fz 0
  have H := Lib.hid h
  rcases h.hp with rfl | rfl
  · clear h
    go_enter Try.func106, Try.ntmps106
    go_wp2
    rw [Lib.run_to_unsafe W ⟨g, 0, none⟩ Try.underlying76 Try.underlying155 hj (by rw [hjs]; decide) hsh (Nat.zero_lt_succ 1)]
    simp only [Result.andThen]
    rw [Oper.upon_value]
    go_wp2
    rw [run_callFunc_extern Try.func121 (by kernel_rfl) (by kernel_rfl) (by kernel_rfl) (e := Extern.AbiNoEscape.same) (by kernel_rfl)]
    rw [Lib.run_noEscape]
    simp only [Result.andThen]
    rw [Oper.upon_value]
    go_wp2
    rw [Lib.run_from_unsafe W ⟨g, 0, none⟩ Try.underlying155 Try.underlying76 hj hsh liesSb]
    simp only [Result.andThen]
    rw [Oper.upon_value]
    go_wp2
    go_end0
    have h := H.out
    refine ⟨rfl, ⟨.inr rfl, heap_setCell_same W g 0 _ _ _ h.row, own_by h.own fun k e => Below.heap_setCell _ _ _ _ (by simp; intro h2; exact h.sep (by rw [e, h2])), h.lo⟩, fun o => (Kept.refl _ _ _).setg 0 _⟩
  · clear h
    go_enter Try.func106, Try.ntmps106
    go_wp2
    rw [Lib.run_neq_ptr_same W _ Try.underlying76 hj]
    go_wp2
    go_end0
    exact ⟨rfl, H.out, fun _ => Kept.refl _ _ _⟩
theorem Kept.grownS {g : Nat} {o o' : Option Nat} {a b c : World} {row : Option Nat} (h : Kept g o o' a b) (k : b.grownBy c row) (hr : ∀ k, row = some k → o = some k ∨ a.heap.size ≤ k) : Kept g o o' a c :=
  ⟨k.os.trans h.os, k.tape.trans h.tape, k.output.trans h.output, Nat.le_trans h.size k.size,
   fun i hi hg ho => (k.block i (Nat.lt_of_lt_of_le hi h.size) (fun e => by rcases hr i e.symm with e2 | e2; (exact ho e2); omega)).trans (h.block i hi hg ho), h.new⟩
/-- Behind an append to its buffer, and the store of that. -/
theorem SbP.grow {B : Nat} {W1 W2 : World} {g : Nat} {v v' : Value} {l0 : List UInt8} {l : List UInt8} (h : SbP B W1 g (.pointer (some ⟨g, 0, none⟩)) v l0) (hg : W1.grownBy W2 v.ownBlock) (ho : W2.ownsRow B 5 1 v' (l0 ++ l).length (bc (l0 ++ l))) (hn : ∀ k, v'.ownBlock = some k → v.ownBlock = some k ∨ W1.heap.size ≤ k) :
    SbP B (W2.setCell ⟨g, 1, none⟩ v') g (.pointer (some ⟨g, 0, none⟩)) v' (l0 ++ l) ∧ Kept g v.ownBlock v'.ownBlock W1 (W2.setCell ⟨g, 1, none⟩ v') := by
  have hr : W2.heap[g]? = _ := (hg.block g h.lt (fun e => h.sep e.symm)).trans h.row
  have hs : v'.ownBlock ≠ some g := fun e => by rcases hn g e with e2 | e2; (exact h.sep e2); have := h.lt; omega
  refine ⟨⟨.inr rfl, heap_setCell_same W2 g 1 _ _ _ hr, own_by ho fun k e => Below.heap_setCell _ _ _ _ (by simp; intro h2; exact hs (by rw [e, h2])), h.lo⟩, ?_⟩
  have k0 : Kept g v.ownBlock v'.ownBlock W1 W1 := ⟨rfl, rfl, rfl, Nat.le_refl _, fun _ _ _ _ => rfl, hn⟩
  exact (k0.grownS hg (fun k e => .inl e)).setg 1 _
theorem grown_q {W1 W2 : World} {g : Nat} {v : Value} {cs : Array Value} {t : TypeId} (hr : W1.heap[g]? = some (.cells cs t (0, 0))) (hg : W1.grownBy W2 v.ownBlock) (hs : v.ownBlock ≠ some g) : W2.heap[g]? = some (.cells cs t (0, 0)) :=
  (hg.block g (Array.getElem?_eq_some_iff.1 hr).1 (fun e => hs e.symm)).trans hr
set_option maxHeartbeats 2000000 in
set_option maxRecDepth 100000 in
theorem sbStr_any (B : Nat) (W : World) (g : Nat) (o : Option Nat) (l0 : List UInt8) (x : ByteArray) (h : SbAt B W g o l0) (hl : l0.length ≤ 1000000000) (hx : x.size ≤ 1000000000) :
    Calls Try.prog 74 #[.pointer (some ⟨g, 0, none⟩), .string x] W fun e w' => e = .returned (.tuple #[.int .i64 (x.size : Int), .nilIface]) ∧ ∃ o', SbAt B w' g o' (l0 ++ x.data.toList) ∧ Kept g o o' W w' := by
  obtain ⟨p, v, hP, rfl⟩ := h
  obtain ⟨i0, hi, hz0, hz1, hz2⟩ := info_parts Try.infoByte
  have Hc := Lib.hid (sbCheck_any B W g p v l0 hP)
  clear hP
  go_enter Try.func74, Try.ntmps74
  go_wp2_with fail
  refine Hc.out.mono ?_
  rintro e w1 ⟨rfl, h1, hk1⟩
  have c0 := h1.c0
  have c1 := h1.c1
  have hown := h1.own
  have hlo := h1.lo
  have hlt := h1.lt
  have H1 := Lib.hid h1
  have HK1 := Lib.hid hk1
  clear h1 hk1 Hc
  go_wp2_with (at_builtin; refine wpList_app_str rfl (.tmp 12) (.tmp 13) 36 9 rfl B 5 i0 Try.underlying36 Try.underlying9 hi hz0 hz1 hz2 v _ _ rfl hown x rfl (by simp only [maxLen]; omega) (by omega) (by omega) ?_)
  intro v' w2 ho2 hg2 hn2
  have H1a := H1.out
  have hr2 := grown_q H1a.row hg2 H1a.sep
  have d0 : w2.cell? ⟨g, 0, none⟩ = some (.pointer (some ⟨g, 0, none⟩)) := cell_of_row w2 g 0 _ _ _ hr2
  have d1 : w2.cell? ⟨g, 1, none⟩ = some v := cell_of_row w2 g 1 _ _ _ hr2
  have f1 := frozen_of_row w2 g 1 _ _ hr2
  have G := H1a.grow (l := x.data.toList) hg2 (by
    rw [bc_append, List.length_append]
    have e : x.data.toList.length = x.size := (Lib.size_eq x).symm
    rw [e]; exact ho2) hn2
  have HG := Lib.hid G
  obtain ⟨q, n', cap, rfl⟩ : ∃ ao n' cap, v' = .slice ao n' cap := by
    rcases ho2.2 with ⟨hv, _⟩ | ⟨g, cap, cur, hv, _⟩
    · exact ⟨_, _, _, hv⟩
    · exact ⟨_, _, _, hv⟩
  clear G ho2 hg2 hn2 hr2 H1a
  go_wp2_with fail
  go_ret2
  exact ⟨rfl, _, ⟨_, _, HG.out.1, rfl⟩, (HK1.out _).trans HG.out.2⟩
theorem scells (l : List UInt8) : bc l = Lib.byteCells l := by simp [bc, Lib.byteCells]
set_option maxHeartbeats 1000000 in
set_option maxRecDepth 100000 in
theorem sbString_any (B : Nat) (W : World) (g : Nat) (o : Option Nat) (l0 : List UInt8) (h : SbAt B W g o l0) (h0 : l0 ≠ []) :
    Calls Try.prog 80 #[.pointer (some ⟨g, 0, none⟩)] W fun e w' => e = .returned (.string ⟨l0.toArray⟩) ∧ Below B W w' := by
  obtain ⟨p, v, hP, rfl⟩ := h
  have hown := hP.own
  obtain ⟨l, hl⟩ : ∃ l, l = l0 := ⟨_, rfl⟩
  rw [← hl] at hown h0 ⊢
  clear hl
  have hl0 : l.length ≠ 0 := by simpa using h0
  rw [scells] at hown
  obtain ⟨q, cap, cur, rfl, hbg, hg, hnc, hcm, hcs, htake⟩ : ∃ q cap cur, v = .slice (some ⟨q, 0, none⟩) l.length cap ∧ B ≤ q ∧ W.heap[q]? = some (.cells cur 5 (0, 0)) ∧ l.length ≤ cap ∧ cap ≤ maxLen ∧ cur.size = cap * 1 ∧ cur.toList.take (l.length * 1) = Lib.byteCells l := by
    rcases hown.2 with ⟨_, hz⟩ | ⟨g, cap, cur, hv, r⟩
    · exact absurd hz hl0
    · exact ⟨g, cap, cur, hv, r⟩
  have c1 : W.drew.cell? ⟨g, 1, none⟩ = some (.slice (some ⟨q, 0, none⟩) l.length cap) := hP.c1
  have hSD : (Builtin.unsafeSliceData_ #[36] 148 #[.slice (some ⟨q, 0, none⟩) l.length cap]).run Try.prog W.drew = .ok (.pointer (some ⟨q, 0, none⟩)) W.drew :=
    Lib.run_unsafeSliceData_row _ _ _ _ _ _ (by omega)
  have hUS : (Builtin.unsafeString_ #[148, 3] 9 #[.pointer (some ⟨q, 0, none⟩), .int .i64 l.length]).run Try.prog W.drew = .ok (.string ⟨l.toArray⟩) (W.drew.freeze ⟨q, 0, none⟩ l.length) := by
    refine Lib.run_unsafeString_row W.drew 148 3 9 5 Try.underlying148 cellsByteS q cur.size (by have hg' : W.drew.heap[q]? = some (.cells cur 5 (0, 0)) := hg; simp [World.shape?, hg']) l h0 (by omega) (by unfold maxLen at hcm; omega) ?_
    intro j x hx
    have := hown.cells (g := q) rfl j (.int .u8 x.toNat) (by simp [Lib.byteCells, hx])
    exact this
  clear hown hg hnc hcm hcs htake hP h0
  go_enter Try.func80, Try.ntmps80
  go_wp2
  go_region
  all_goals (go_wp2; go_ret; exact ⟨rfl, Lib.below_freeze (Below.drew (Below.refl B W)) (p := ⟨q, 0, none⟩) hbg _⟩)
end Go.Proofs.Ytpdahbfjbgcmgaa
