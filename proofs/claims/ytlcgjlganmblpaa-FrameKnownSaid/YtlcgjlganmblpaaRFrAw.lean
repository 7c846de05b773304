/-
  Loads of whole structs in a region that draws its order and makes memory by calls alone.
  The statements' own 'token', 'get', 'Great' and 'awake' of layer 6 walked.
  Frames and replies that lie in blocks of a walk's own, with what their slices hold; readers' contracts in short.
-/
import Derived.Test.YtlcgjlganmblpaaRFrA
import Derived.Test.YtlcgjlganmblpaaRFrL
import Derived.Test.YtlcgjlganmblpaaRFrRd
import Derived.Test.YtlcgjlganmblpaaRFrB
import Derived.Lib.QuietBelow
import Derived.BigQuiet
set_option linter.unusedSimpArgs false
set_option linter.unusedVariables false
namespace Go.Proofs.Ytlcgjlganmblpaa
open Go.RowKit Go.Sort
section
variable {P : Program} {ops : Array Oper} {Q : Act → Prop} {a : Act} {o : Oper} {rest : List Oper}
theorem row_regrown {w : World} {g : Nat} {X : Array Value} {T : TypeId} {fr : Nat × Nat} (h : w.heap[g]? = some (.cells X T fr)) (d : Nat) (os : Array Obj) : (grow (redrawn w d) os).heap[g]? = some (.cells X T fr) :=
  ((below_regrown w d os).block g (Array.getElem?_eq_some_iff.1 h).1).trans h
/-- A struct that lies in a row from place k on is loaded. -/
theorem wpQuiet_load_sub {w : World} (hw : Region.wanted o (yielded ops a.tmps) = true) (ty : TypeId) (x : Operand) (ho : o.op = .load ty x)
    (g k : Nat) (hx : a.eval x = .pointer (some ⟨g, k, none⟩)) (T : TypeId) (X Y : Array Value) (fr : Nat × Nat) (d : TypeDesc) (hg : w.heap[g]? = some (.cells X T fr)) (hY : ∀ j, j < Y.size → X[k + j]? = Y[j]?)
    (hu : P.underlying ty = some d) (hd : d.isRow = true) (hi : (P.info? ty).map (·.size) = some Y.size)
    (h : wpQuiet P ops (fun w' => ∃ p : Regrown, w' = grow (redrawn w p.d) p.os) Q rest (a.put o.dst (.agg Y))) : wpQuiet P ops (fun w' => ∃ p : Regrown, w' = grow (redrawn w p.d) p.os) Q (o :: rest) a :=
  BigFrame.wpQuiet_want hw fun K hK => ⟨.agg Y, fun w' hw' => by
    obtain ⟨p, rfl⟩ := hw'
    unfold Oper.quietAt execOp
    have hr := run_loadVar_mid (P := P) (grow (redrawn w p.d) p.os) g k ty Y.toList d (range_row (row_regrown hg p.d p.os) k Y hY) hu hd (by simpa using hi)
    simp only [ho, hx, Instr.loadAt, Instr.sureAddr, Sem.run_bind, Sem.run_pure, Result.andThen_ok, hr]
    exact ⟨rfl, rfl⟩, hK _ h⟩
end
end Go.Proofs.Ytlcgjlganmblpaa
namespace Go.Proofs.Ytlcgjlganmblpaa
open Go.RowKit
set_option linter.unusedVariables false
def tk12 : Og.Tk := ⟨49, 50, 51, 52, 53, 54, 55, 56⟩
def tkOp : Og.Tk := ⟨111, 112, 101, 114, 97, 116, 111, 114⟩
def getC : Cm.Cmd := ⟨8, 0, 0, ⟨#[107]⟩, Cm.e0, Cm.e0, Cm.e0, Cm.e0, 0, 0, 0, []⟩
def getF : Fr.F := ⟨1, tk12, getC, Og.Oper.zero⟩
def getL : List UInt8 := [1, 49, 50, 51, 52, 53, 54, 55, 56, 8, 0, 0, 1, 107]
def ledR : Fr.R := ⟨3, 1, 128, 3, Rs.zero⟩
def ledL : List UInt8 := [3, 1, 129, 0, 3]
theorem top_of {n : Nat} (h : n ≤ 1000) : n < Nm.top := by unfold Nm.top; omega
theorem getC_fits : Cm.Fits getC := ⟨by decide, top_of (by decide), top_of (by decide), by decide, top_of (by decide), top_of (by decide), fun p hp => by cases hp⟩
theorem getC_short : Short getC := ⟨by decide, by decide, by decide, by decide, by decide, by decide, fun p hp => by cases hp⟩
theorem getC_may : Cm.may getC = true := by decide +kernel
theorem getC_len : (Cm.bytes getC).length ≤ 100 := by decide +kernel
theorem getC_shape : Cm.Shape getC := Cm.shape_of getC_fits getC_may (top_of (by decide)) (top_of (by decide)) (top_of (by decide)) (top_of (by decide)) (top_of (by decide)) (fun p hp => by cases hp)
theorem getF_may : Fr.may getF := .inl ⟨rfl, rfl, getC_may⟩
theorem getF_enc : Fr.enc getF = getL := by
  unfold Fr.enc
  rw [if_pos (show getF.kind = 1 from rfl)]
  decide +kernel
theorem getF_write : Fr.write getF = getL := by rw [Fr.write_yes getF_may, getF_enc]
theorem getF_ok : Fr.Ok getF := ⟨⟨by decide, getC_fits, ozero_fits⟩, getC_short, by decide, by have := getC_len; show (Cm.bytes getC).length ≤ _; omega⟩
theorem getF_read : Fr.read getL = some getF := (Fr.read_iff _ _).2 ⟨⟨fun _ => getC_shape⟩, getF_may, getF_enc.symm⟩
theorem ledR_read : Fr.rread ledL = some ledR := (Fr.rread_iff _ _).2 ⟨⟨⟨by decide, top_of (by decide), top_of (by decide), by decide⟩, Fr.zero_rshape⟩, by decide +kernel, by decide +kernel⟩
set_option maxRecDepth 100000 in
theorem token_any (w : World) : Calls Try.prog 30 #[] w fun e w' => e = .returned (.agg #[.int .u8 49, .int .u8 50, .int .u8 51, .int .u8 52, .int .u8 53, .int .u8 54, .int .u8 55, .int .u8 56]) ∧ Below w.heap.size w w' := by
  go_enter Try.func30, Try.ntmps30
  go_wp2_with fail
  refine bodyPost_ret (results_cell_row (P := Try.prog) (fn := Try.f30) rfl _ _ w.heap.size 23 (tk8 tk12) (0, 0) _ rfl (heap_alloc_new w _) Try.underlying23 rfl (sizeTk8 tk12)) rfl ⟨rfl, bnew (Below.refl _ _) _⟩
set_option maxRecDepth 100000 in
theorem operator_any (w : World) : Calls Try.prog 9 #[] w fun e w' => e = .returned (.agg #[.int .u8 111, .int .u8 112, .int .u8 101, .int .u8 114, .int .u8 97, .int .u8 116, .int .u8 111, .int .u8 114]) ∧ Below w.heap.size w w' := by
  go_enter Try.func9, Try.ntmps9
  go_wp2_with fail
  refine bodyPost_ret (results_cell_row (P := Try.prog) (fn := Try.f9) rfl _ _ w.heap.size 23 (tk8 tkOp) (0, 0) _ rfl (heap_alloc_new w _) Try.underlying23 rfl (sizeTk8 tkOp)) rfl ⟨rfl, bnew (Below.refl _ _) _⟩
set_option maxRecDepth 100000 in
set_option maxHeartbeats 4000000 in
theorem get_any (w : World) : Calls Try.prog 12 #[] w fun e w' => e = .returned (.agg (frC getF none 0)) ∧ Below w.heap.size w w' := by
  have HT := Lib.hid token_any
  go_enter Try.func12, Try.ntmps12
  go_upto_region 1 with (fail)
  refine forget (fun W => Below w.heap.size w W ∧ W.heap[w.heap.size]? = some (.cells (frC Fr.F.zero none 0) 32 (0, 0))) ⟨bnew (Below.refl _ _) _, heap_alloc_new w _⟩ ?_
  rintro V ⟨hb, hr⟩
  have HV := Lib.hid (And.intro hb hr)
  clear hb hr
  go_wp2_with fail
  refine (HT.out _).mono ?_
  rintro e w1 ⟨rfl, hb1⟩
  have HR := Lib.hid (And.intro (bnext HV.out.1 hb1) ((hb1.block _ (Array.getElem?_eq_some_iff.1 HV.out.2).1).trans HV.out.2))
  clear hb1 HV
  go_wp2_with (refine wpList_store_sub rfl 32 _ _ rfl w.heap.size 0 rfl 32 (frC Fr.F.zero none 0) (frC getF none 0) rfl HR.out.2 (Nat.le_refl 37) (sizeFrC _ _ _) (frC_one _ _ _) ?_)
  refine bodyPost_ret (results_cell_row (P := Try.prog) (fn := Try.f12) rfl _ _ w.heap.size 32 (frC getF none 0) (0, 0) _ rfl ((row_setCells _ 0 _ _ HR.out.2).trans (by rw [layFr])) Try.underlying32 rfl sizeFr) rfl ⟨rfl, setCells_below (Nat.le_refl _) _ _ _ HR.out.1⟩
set_option maxRecDepth 100000 in
set_option maxHeartbeats 4000000 in
theorem great_any6 (f : Fr.F) (A : Option Addr) (cap : Nat) (w : World) (hA : Lies w A (pc f.cmd.parts)) : Calls Try.prog 16 #[.agg (frC f A cap)] w fun e w' => e = .returned (.bool (Cm.great f.cmd)) ∧ Below w.heap.size w w' := by
  have HG : Hid (∀ W, Below w.heap.size w W → _) := Lib.hid fun W hb => great_any f.cmd A cap W (hA.below hb)
  have HS := Lib.hid (subCmd f A cap)
  have HZ := Lib.hid (frF f A cap).size
  have HC := Lib.hid (sizeCmdC f.cmd A cap)
  obtain ⟨Y, hY⟩ : ∃ Y, Y = cmdC f.cmd A cap := ⟨_, rfl⟩
  obtain ⟨X, hX⟩ : ∃ X, X = frC f A cap := ⟨_, rfl⟩
  rw [← hY] at HG HS HC
  rw [← hX] at HS HZ ⊢
  have HR := Lib.hid (And.intro (bnew (Below.refl w.heap.size w) (.cells X 32)) (heap_alloc_new w (.cells X 32)))
  clear hY hX hA
  go_enter Try.func16, Try.ntmps16
  go_wp2_with (refine wpList_load_sub rfl 30 _ rfl w.heap.size 9 rfl 32 X Y (0, 0) _ HR.out.2 HS.out Try.underlying30 rfl HC.out ?_)
  refine (HG.out _ HR.out.1).mono ?_
  rintro e w1 ⟨rfl, hb1⟩
  have HB := Lib.hid (bnext HR.out.1 hb1)
  clear hb1
  go_wp2_with fail
  go_ret
  exact ⟨rfl, HB.out⟩
theorem aw6W (W : World) : Calls Try.prog 10 #[.agg (frC getF none 0)] W fun e w' => e = .returned (.string ⟨#[1, 49, 50, 51, 52, 53, 54, 55, 56, 8, 0, 0, 1, 107]⟩) ∧ Below W.heap.size W w' := by
  have := okW getF_ok none 0 W (.inl rfl)
  rw [getF_write] at this
  exact this
theorem aw6R (W : World) : Calls Try.prog 13 #[.string ⟨#[1, 49, 50, 51, 52, 53, 54, 55, 56, 8, 0, 0, 1, 107]⟩] W fun e w' => ∃ A cap, e = .returned (.tuple #[.agg (frC getF A cap), .bool true]) ∧ Below W.heap.size W w' := by
  have := fread_any ⟨#[1, 49, 50, 51, 52, 53, 54, 55, 56, 8, 0, 0, 1, 107]⟩ W (by decide)
  rw [show (⟨#[1, 49, 50, 51, 52, 53, 54, 55, 56, 8, 0, 0, 1, 107]⟩ : ByteArray).data.toList = getL from rfl, getF_read] at this
  refine this.mono ?_
  rintro e w' ⟨A, cap, rfl, _, hb⟩
  exact ⟨A, cap, rfl, hb⟩
theorem aw6Rr (W : World) : Calls Try.prog 14 #[.string ⟨#[3, 1, 129, 0, 3]⟩] W fun e w' => ∃ A cap, e = .returned (.tuple #[.agg (rpC ledR A cap), .bool true]) ∧ Below W.heap.size W w' := by
  have := fReadReply_any ⟨#[3, 1, 129, 0, 3]⟩ W (by decide)
  rw [show (⟨#[3, 1, 129, 0, 3]⟩ : ByteArray).data.toList = ledL from rfl, ledR_read] at this
  refine this.mono ?_
  rintro e w' ⟨A, cap, rfl, _, hb⟩
  exact ⟨A, cap, rfl, hb⟩
theorem aw6S (A : Option Addr) (cap : Nat) (W : World) : Calls Try.prog 22 #[.agg (frC getF A cap), .agg (frC getF none 0)] W fun e w' => e = .returned (.bool true) ∧ Below W.heap.size W w' := by
  have := fsame_any getF getF A none cap 0 W (.inl rfl) (.inl rfl) (by decide)
  rw [(Fr.same_iff _ _).2 rfl] at this
  exact this
theorem opTok_eq (W : World) : (binOp .eql 23 (.agg #[.int .u8 111, .int .u8 112, .int .u8 101, .int .u8 114, .int .u8 97, .int .u8 116, .int .u8 111, .int .u8 114]) (.agg #[.int .u8 111, .int .u8 112, .int .u8 101, .int .u8 114, .int .u8 97, .int .u8 116, .int .u8 111, .int .u8 114])).run Try.prog W = .ok (.bool true) W := by
  have := tok_eql tkOp tkOp W
  rw [decide_eq_true rfl] at this
  exact this
set_option maxRecDepth 100000 in
set_option maxHeartbeats 8000000 in
theorem fAwake_any (w : World) : Calls Try.prog 15 #[] w fun e w' => e = .returned (.bool true) ∧ Below w.heap.size w w' := by
  have HP := Lib.hid get_any
  have HW := Lib.hid aw6W
  have HR := Lib.hid aw6R
  have HRr := Lib.hid aw6Rr
  have HS := Lib.hid aw6S
  have HO := Lib.hid operator_any
  go_enter Try.func15, Try.ntmps15
  go_wp2_with fail
  refine (HP.out _).mono ?_
  rintro e w1 ⟨rfl, hb1⟩
  have HB1 := Lib.hid hb1
  clear hb1
  generalize hC : frC getF none 0 = C at *
  have HC := Lib.hid hC
  clear hC
  go_wp2_with fail
  refine (HW.out _).mono ?_
  rintro e w2 ⟨rfl, hb2⟩
  have HB2 := Lib.hid (HB1.out.trans (hb2.mono HB1.out.size))
  clear hb2 HB1
  go_wp2_with fail
  refine (HR.out _).mono ?_
  rintro e w3 ⟨A, cap, rfl, hb3⟩
  have HB3 := Lib.hid (HB2.out.trans (hb3.mono HB2.out.size))
  clear hb3 HB2
  go_upto_region 2 with (refine wpList_store_sub rfl 32 _ _ rfl w3.heap.size 0 rfl 32 (frC Fr.F.zero none 0) (frC getF A cap) rfl ?_ (Nat.le_refl 37) (sizeFrC _ _ _) (frC_one _ _ _) ?_; exact heap_alloc_new w3 _)
  refine forget (fun W => Below w.heap.size w W ∧ W.heap[w3.heap.size]? = some (.cells (frC getF A cap) 32 (0, 0))) ⟨setCells_below HB3.out.size _ _ _ (bnew HB3.out _), (row_setCells _ 0 _ _ (heap_alloc_new w3 (.cells (frC Fr.F.zero none 0) 32))).trans (by rw [layFr])⟩ ?_
  obtain ⟨b1, hb1⟩ : ∃ b, b = w3.heap.size := ⟨_, rfl⟩
  rw [← hb1]
  clear HB3 hb1
  rintro V1 ⟨hb1, hr1⟩
  have HV1 := Lib.hid (And.intro hb1 hr1)
  clear hb1 hr1
  go_wp2_with fail
  refine (HRr.out _).mono ?_
  rintro e w4 ⟨R, rcap, rfl, hb4⟩
  have HV2 := Lib.hid (And.intro (bnext HV1.out.1 hb4) ((hb4.block _ (Array.getElem?_eq_some_iff.1 HV1.out.2).1).trans HV1.out.2))
  clear hb4 HV1
  go_upto_region 3 with (refine wpList_store_sub rfl 39 _ _ rfl w4.heap.size 0 rfl 39 (rpC Fr.R.zero none 0) (rpC ledR R rcap) rfl ?_ (Nat.le_refl 8) (sizeRpC _ _ _) (rpC_one _ _ _) ?_; exact heap_alloc_new w4 _)
  refine forget (fun W => Below w.heap.size w W ∧ W.heap[b1]? = some (.cells (frC getF A cap) 32 (0, 0)) ∧ W.heap[w4.heap.size]? = some (.cells (rpC ledR R rcap) 39 (0, 0))) ?_ ?_
  · obtain ⟨h1, h2⟩ := HV2.out
    have hlt := (Array.getElem?_eq_some_iff.1 h2).1
    exact ⟨setCells_below h1.size _ _ _ (bnew h1 _), (setCells_other (Nat.ne_of_lt hlt) _ _ _).trans ((Below.heap_alloc _ _ _ hlt).trans h2), (row_setCells _ 0 _ _ (heap_alloc_new w4 (.cells (rpC Fr.R.zero none 0) 39))).trans (by rw [layRp])⟩
  obtain ⟨b2, hb2⟩ : ∃ b, b = w4.heap.size := ⟨_, rfl⟩
  rw [← hb2]
  clear HV2 hb2
  rintro W5 ⟨hb5, hf5, hr5⟩
  have r2 : W5.cell? ⟨b2, 2, none⟩ = some (.int .u64 128) := cell_of_row W5 _ 2 _ _ _ hr5
  have r3 : W5.cell? ⟨b2, 3, none⟩ = some (.int .u8 3) := cell_of_row W5 _ 3 _ _ _ hr5
  have m2 := fun d os => cell_regrown r2 d os
  have m3 := fun d os => cell_regrown r3 d os
  have hoe := opTok_eq
  have HB5 := Lib.hid hb5
  have HF5 := Lib.hid hf5
  clear r2 r3 hb5 hf5 hr5 HR HRr
  refine wp_region_quiet_below (by kernel_rfl) (by kernel_rfl) ?_
  repeat (first | (refine wpQuiet_load_sub rfl 32 _ rfl b1 0 rfl 32 _ (frC getF A cap) (0, 0) _ HF5.out (subAll _) Try.underlying32 rfl (sizeFrC _ _ _) ?_; conv => arg 6; simp [Act.put]) | go_big_quiet_step ((first | (go_at_call 12; exact Calls.regrown_of (HP.out _)) | (go_at_call 10; exact Calls.regrown_of (HW.out _)) | (go_at_call 22; exact Calls.regrown_of (HS.out A cap _)) | (go_at_call 9; exact Calls.regrown_of (HO.out _)))))
  refine wpQuiet_nil ?_
  intro _ hw'
  obtain ⟨pq, hw''⟩ := hw'
  subst hw''
  have hb1 := below_regrown W5 pq.d pq.os
  go_wp2_with fail
  go_ret
  exact ⟨rfl, HB5.out.trans (hb1.mono HB5.out.size)⟩
end Go.Proofs.Ytlcgjlganmblpaa
namespace Go.Proofs.Ytlcgjlganmblpaa
open Go.RowKit
set_option linter.unusedVariables false
theorem two_rowsT (w : World) (X Y : Array Value) (T U : TypeId) : Below w.heap.size w ((w.alloc (.cells X T)).alloc (.cells Y U)) ∧ ((w.alloc (.cells X T)).alloc (.cells Y U)).heap[w.heap.size]? = some (.cells X T (0, 0)) ∧ ((w.alloc (.cells X T)).alloc (.cells Y U)).heap[w.heap.size + 1]? = some (.cells Y U (0, 0)) := by
  refine ⟨bnew (bnew (Below.refl _ _) _) _, (Below.heap_alloc _ _ _ (by simp)).trans (heap_alloc_new w _), ?_⟩
  have := heap_alloc_new (w.alloc (.cells X T)) (.cells Y U)
  rw [World.size_alloc] at this
  exact this
/-- Two rows, the one behind the other, and what was there. -/
def Rows2 (w : World) (g : Nat) (X Y : Array Value) (W : World) : Prop := Below w.heap.size w W ∧ W.heap[g]? = some (.cells X 32 (0, 0)) ∧ W.heap[g + 1]? = some (.cells Y 39 (0, 0))
theorem Rows2.grow {w : World} {g : Nat} {X Y : Array Value} {W W' : World} (h : Rows2 w g X Y W) (hb : Below W.heap.size W W') : Rows2 w g X Y W' :=
  ⟨bnext h.1 hb, (hb.block _ (Array.getElem?_eq_some_iff.1 h.2.1).1).trans h.2.1, (hb.block _ (Array.getElem?_eq_some_iff.1 h.2.2).1).trans h.2.2⟩
structure HasF (W : World) (q : Nat) (f : Fr.F) (A : Option Addr) (cap : Nat) : Prop where
  row : W.heap[q]? = some (.cells (frC f A cap) 32 (0, 0))
  lies : Lies W A (pc f.cmd.parts)
theorem HasF.below {W W' : World} {q : Nat} {f : Fr.F} {A : Option Addr} {cap : Nat} (h : HasF W q f A cap) (hb : Below W.heap.size W W') : HasF W' q f A cap :=
  ⟨(hb.block q (Array.getElem?_eq_some_iff.1 h.row).1).trans h.row, h.lies.below hb⟩
structure HasP (W : World) (q : Nat) (r : Fr.R) (A : Option Addr) (cap : Nat) : Prop where
  row : W.heap[q]? = some (.cells (rpC r A cap) 39 (0, 0))
  lies : Lies W A (rc r.res.rows)
theorem HasP.below {W W' : World} {q : Nat} {f : Fr.R} {A : Option Addr} {cap : Nat} (h : HasP W q f A cap) (hb : Below W.heap.size W W') : HasP W' q f A cap :=
  ⟨(hb.block q (Array.getElem?_eq_some_iff.1 h.row).1).trans h.row, h.lies.below hb⟩
theorem laidB (W : World) (o : Obj) (l : List Value) : Below W.heap.size W ((W.alloc o).setCells W.heap.size 0 l) := setCells_below (Nat.le_refl _) _ _ _ (bnew (Below.refl _ _) _)
theorem HasF.laid {W : World} {f : Fr.F} {A : Option Addr} {cap : Nat} (h : Lies W A (pc f.cmd.parts)) : HasF ((W.alloc (.cells (frC Fr.F.zero none 0) 32)).setCells W.heap.size 0 (frC f A cap).toList) W.heap.size f A cap :=
  ⟨(row_setCells _ 0 _ _ (heap_alloc_new W _)).trans (by rw [layFr]), h.below (laidB _ _ _)⟩
theorem HasP.laid {W : World} {r : Fr.R} {A : Option Addr} {cap : Nat} (h : Lies W A (rc r.res.rows)) : HasP ((W.alloc (.cells (rpC Fr.R.zero none 0) 39)).setCells W.heap.size 0 (rpC r A cap).toList) W.heap.size r A cap :=
  ⟨(row_setCells _ 0 _ _ (heap_alloc_new W _)).trans (by rw [layRp]), h.below (laidB _ _ _)⟩
namespace Fr
theorem ok_of {l : List UInt8} (hl : l.length ≤ 4000) : Ok ((read l).getD F.zero) := by
  rcases h : read l with _ | f
  · exact ok_zero
  · exact (ok_read h hl).1
theorem okr_of {l : List UInt8} (hl : l.length ≤ 4000) : OkR ((rread l).getD R.zero) := by
  rcases h : rread l with _ | f
  · exact okr_zero0
  · exact (okr_read h hl).1
end Fr
/-- What a reader of frames hands back, opened. -/
def GetsF (g : FuncId) (s : ByteArray) (f : Fr.F) (b : Bool) : Prop := ∀ W, Calls Try.prog g #[.string s] W fun e w' => ∃ A cap, e = .returned (.tuple #[.agg (frC f A cap), .bool b]) ∧ Lies w' A (pc f.cmd.parts) ∧ Below W.heap.size W w'
def GetsP (g : FuncId) (s : ByteArray) (r : Fr.R) (b : Bool) : Prop := ∀ W, Calls Try.prog g #[.string s] W fun e w' => ∃ A cap, e = .returned (.tuple #[.agg (rpC r A cap), .bool b]) ∧ Lies w' A (rc r.res.rows) ∧ Below W.heap.size W w'
theorem getsF (s : ByteArray) (hs : s.size ≤ 10000000) : GetsF 13 s ((Fr.read s.data.toList).getD Fr.F.zero) (Fr.read s.data.toList).isSome := fun W => fread_any s W hs
theorem getsP (s : ByteArray) (hs : s.size ≤ 10000000) : GetsP 14 s ((Fr.rread s.data.toList).getD Fr.R.zero) (Fr.rread s.data.toList).isSome := fun W => fReadReply_any s W hs
/-- The document's Same of one frame that lies in two places. -/
theorem sameF (f : Fr.F) (hn : f.cmd.parts.length ≤ 1000000) (A B : Option Addr) (ca cb : Nat) (W : World) (hA : Lies W A (pc f.cmd.parts)) (hB : Lies W B (pc f.cmd.parts)) : Calls Try.prog 22 #[.agg (frC f A ca), .agg (frC f B cb)] W fun e w' => e = .returned (.bool true) ∧ Below W.heap.size W w' := by
  have := fsame_any f f A B ca cb W hA hB hn
  rw [(Fr.same_iff _ _).2 rfl] at this
  exact this
theorem sameP (r : Fr.R) (hn : r.res.rows.length ≤ 1000000) (A B : Option Addr) (ca cb : Nat) (W : World) (hA : Lies W A (rc r.res.rows)) (hB : Lies W B (rc r.res.rows)) : Calls Try.prog 23 #[.agg (rpC r A ca), .agg (rpC r B cb)] W fun e w' => e = .returned (.bool true) ∧ Below W.heap.size W w' := by
  have := rpsame_any r r A B ca cb W hA hB hn
  rw [(Fr.rsame_iff _ _).2 rfl] at this
  exact this
end Go.Proofs.Ytlcgjlganmblpaa
