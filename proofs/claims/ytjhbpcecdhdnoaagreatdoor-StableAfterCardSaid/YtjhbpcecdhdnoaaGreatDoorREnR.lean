/-
  entry.readBody, readOwner and readHead walked.
  entry.readHead walked.
  entry.Read walked. WRITTEN BY wip/tools/gen_enread.py.
-/
import Derived.Test.YtjhbpcecdhdnoaaGreatDoorREnA
import Derived.Test.YtjhbpcecdhdnoaaGreatDoorRFrWZ
import Derived.Test.YtjhbpcecdhdnoaaGreatDoorRCmdZ
import Derived.StillTailTactics
import Derived.RegionTactic
import Derived.ChangeAlike
import Derived.Deep.DeepCutAuto
import Derived.Deep.CutBlock
set_option linter.unusedSimpArgs false
set_option linter.unusedVariables false
namespace Go.Proofs.YtjhbpcecdhdnoaaGreatDoor
open Go.RowKit
def rbV (s : ByteArray) (o : Option (List UInt8 × Nat)) : Value := match o with
  | some (l, k) => .tuple #[.string ⟨l.toArray⟩, .string (s.extract k s.size), .bool true]
  | none => .tuple #[.string ⟨#[]⟩, .string s, .bool false]
theorem extract_all (s : ByteArray) : s.extract 0 s.size = s := by
  simp
theorem readS_le {l x : List UInt8} {k : Nat} (h : Nm.readS l = some (x, k)) : k ≤ l.length := by
  obtain ⟨_, hl, hk⟩ := Cm.readS_some h
  have := congrArg List.length hl
  rw [List.length_append] at this
  omega
set_option maxRecDepth 100000 in
set_option maxHeartbeats 1000000 in
theorem readBody_any (s : ByteArray) (w : World) (hs : s.size ≤ 100000000) :
    Calls Tryz.prog 258 #[.string s] w fun e w' => e = .returned (rbV s (Nm.readS s.data.toList)) ∧ Below w.heap.size w w' := by
  have Hc := Lib.hid (ReadS_any s w (by omega))
  rcases hv : Nm.readS s.data.toList with _ | ⟨x, k⟩
  · have Hv := Lib.hid hv
    have Hx := Lib.hid (extract_all s)
    clear hv
    go_enter Tryz.func258, Tryz.ntmps258
    go_wp2_with (go_at_call 262; refine Hc.out.mono ?_; rw [Hv.out, rs]; rintro e w' ⟨rfl, hb⟩)
    have HB := Lib.hid hb
    clear hb
    go_quiet (fail)
    go_wp2
    go_ret3
    exact ⟨by rw [rbV]; first | rfl | (rw [Hx.out]), below_drewN HB.out _⟩
  · have Hv := Lib.hid hv
    have hk := readS_le hv
    rw [← Lib.size_eq] at hk
    have i0 : (0 : Int) ≤ (k : Int) := by omega
    have i1 : (k : Int) ≤ (s.size : Int) := by omega
    have i2 : ((k : Int)).toNat = k := by omega
    clear hv
    go_enter Tryz.func258, Tryz.ntmps258
    go_wp2_with (go_at_call 262; refine Hc.out.mono ?_; rw [Hv.out, rs]; rintro e w' ⟨rfl, hb⟩)
    have HB := Lib.hid hb
    clear hb
    go_quiet (fail)
    go_wp2
    go_ret3
    exact ⟨rfl, below_drewN HB.out _⟩
theorem results_tctt {P : Program} {fn : Func} {u p v x : Tmp} {ty : TypeId} (h : fn.results = #[.tmp u, .cell p ty, .tmp v, .tmp x]) (tmps : Array Value) (w : World) (g : Nat) (t : TypeId) (cs : Array Value) (fr : Nat × Nat) (d : TypeDesc)
    (hp : tmps.getD p undef = .pointer (some ⟨g, 0, none⟩)) (hg : w.heap[g]? = some (.cells cs t fr))
    (hu : P.underlying ty = some d) (hd : (match d with | .struct _ | .array _ _ => true | _ => false) = true) (hi : (P.info? ty).map (·.size) = some cs.size) :
    (results fn tmps).run P w = .ok (.tuple #[tmps.getD u undef, .agg cs, tmps.getD v undef, tmps.getD x undef]) w := by
  have hp' : tmps[p]?.getD undef = .pointer (some ⟨g, 0, none⟩) := by simpa using hp
  simp [results, h, hp', asAddr, run_loadVar_row w g t ty cs fr d hg hu hd hi]
theorem results_ctt {P : Program} {fn : Func} {p v x : Tmp} {ty : TypeId} (h : fn.results = #[.cell p ty, .tmp v, .tmp x]) (tmps : Array Value) (w : World) (g : Nat) (t : TypeId) (cs : Array Value) (fr : Nat × Nat) (d : TypeDesc)
    (hp : tmps.getD p undef = .pointer (some ⟨g, 0, none⟩)) (hg : w.heap[g]? = some (.cells cs t fr))
    (hu : P.underlying ty = some d) (hd : (match d with | .struct _ | .array _ _ => true | _ => false) = true) (hi : (P.info? ty).map (·.size) = some cs.size) :
    (results fn tmps).run P w = .ok (.tuple #[.agg cs, tmps.getD v undef, tmps.getD x undef]) w := by
  have hp' : tmps[p]?.getD undef = .pointer (some ⟨g, 0, none⟩) := by simpa using hp
  simp [results, h, hp', asAddr, run_loadVar_row w g t ty cs fr d hg hu hd hi]
theorem ext_drop (s : ByteArray) (k : Nat) : s.extract k s.size = ⟨(s.data.toList.drop k).toArray⟩ := by
  rw [Lib.extract_eq, List.take_of_length_le (by rw [List.length_drop, ← Lib.size_eq]; exact Nat.le_refl _)]
theorem tokPut {W : World} {g : Nat} {Z T : Og.Tk} (h : W.heap[g]? = some (.cells (tk8 Z) 86 (0, 0))) :
    (((((((((W.setCell ⟨g, 0, none⟩ (.int .u8 (T.a0.toNat : Int))).setCell ⟨g, 1, none⟩ (.int .u8 (T.a1.toNat : Int))).setCell ⟨g, 2, none⟩ (.int .u8 (T.a2.toNat : Int))).setCell ⟨g, 3, none⟩ (.int .u8 (T.a3.toNat : Int))).setCell ⟨g, 4, none⟩ (.int .u8 (T.a4.toNat : Int))).setCell ⟨g, 5, none⟩ (.int .u8 (T.a5.toNat : Int))).setCell ⟨g, 6, none⟩ (.int .u8 (T.a6.toNat : Int))).setCell ⟨g, 7, none⟩ (.int .u8 (T.a7.toNat : Int)))).heap[g]? = some (.cells (tk8 T) 86 (0, 0)) := by
  have s0 := heap_setCell_same (W) g 0 _ _ (.int .u8 (T.a0.toNat : Int)) h
  have s1 := heap_setCell_same ((W.setCell ⟨g, 0, none⟩ (.int .u8 (T.a0.toNat : Int)))) g 1 _ _ (.int .u8 (T.a1.toNat : Int)) s0
  have s2 := heap_setCell_same (((W.setCell ⟨g, 0, none⟩ (.int .u8 (T.a0.toNat : Int))).setCell ⟨g, 1, none⟩ (.int .u8 (T.a1.toNat : Int)))) g 2 _ _ (.int .u8 (T.a2.toNat : Int)) s1
  have s3 := heap_setCell_same ((((W.setCell ⟨g, 0, none⟩ (.int .u8 (T.a0.toNat : Int))).setCell ⟨g, 1, none⟩ (.int .u8 (T.a1.toNat : Int))).setCell ⟨g, 2, none⟩ (.int .u8 (T.a2.toNat : Int)))) g 3 _ _ (.int .u8 (T.a3.toNat : Int)) s2
  have s4 := heap_setCell_same (((((W.setCell ⟨g, 0, none⟩ (.int .u8 (T.a0.toNat : Int))).setCell ⟨g, 1, none⟩ (.int .u8 (T.a1.toNat : Int))).setCell ⟨g, 2, none⟩ (.int .u8 (T.a2.toNat : Int))).setCell ⟨g, 3, none⟩ (.int .u8 (T.a3.toNat : Int)))) g 4 _ _ (.int .u8 (T.a4.toNat : Int)) s3
  have s5 := heap_setCell_same ((((((W.setCell ⟨g, 0, none⟩ (.int .u8 (T.a0.toNat : Int))).setCell ⟨g, 1, none⟩ (.int .u8 (T.a1.toNat : Int))).setCell ⟨g, 2, none⟩ (.int .u8 (T.a2.toNat : Int))).setCell ⟨g, 3, none⟩ (.int .u8 (T.a3.toNat : Int))).setCell ⟨g, 4, none⟩ (.int .u8 (T.a4.toNat : Int)))) g 5 _ _ (.int .u8 (T.a5.toNat : Int)) s4
  have s6 := heap_setCell_same (((((((W.setCell ⟨g, 0, none⟩ (.int .u8 (T.a0.toNat : Int))).setCell ⟨g, 1, none⟩ (.int .u8 (T.a1.toNat : Int))).setCell ⟨g, 2, none⟩ (.int .u8 (T.a2.toNat : Int))).setCell ⟨g, 3, none⟩ (.int .u8 (T.a3.toNat : Int))).setCell ⟨g, 4, none⟩ (.int .u8 (T.a4.toNat : Int))).setCell ⟨g, 5, none⟩ (.int .u8 (T.a5.toNat : Int)))) g 6 _ _ (.int .u8 (T.a6.toNat : Int)) s5
  have s7 := heap_setCell_same ((((((((W.setCell ⟨g, 0, none⟩ (.int .u8 (T.a0.toNat : Int))).setCell ⟨g, 1, none⟩ (.int .u8 (T.a1.toNat : Int))).setCell ⟨g, 2, none⟩ (.int .u8 (T.a2.toNat : Int))).setCell ⟨g, 3, none⟩ (.int .u8 (T.a3.toNat : Int))).setCell ⟨g, 4, none⟩ (.int .u8 (T.a4.toNat : Int))).setCell ⟨g, 5, none⟩ (.int .u8 (T.a5.toNat : Int))).setCell ⟨g, 6, none⟩ (.int .u8 (T.a6.toNat : Int)))) g 7 _ _ (.int .u8 (T.a7.toNat : Int)) s6
  rw [s7]
  simp [tk8, t8]
theorem tokBelow {W w : World} {B g : Nat} {T : Og.Tk} (h : Below B w W) (hg : B ≤ g) :
    Below B w (((((((((W.setCell ⟨g, 0, none⟩ (.int .u8 (T.a0.toNat : Int))).setCell ⟨g, 1, none⟩ (.int .u8 (T.a1.toNat : Int))).setCell ⟨g, 2, none⟩ (.int .u8 (T.a2.toNat : Int))).setCell ⟨g, 3, none⟩ (.int .u8 (T.a3.toNat : Int))).setCell ⟨g, 4, none⟩ (.int .u8 (T.a4.toNat : Int))).setCell ⟨g, 5, none⟩ (.int .u8 (T.a5.toNat : Int))).setCell ⟨g, 6, none⟩ (.int .u8 (T.a6.toNat : Int))).setCell ⟨g, 7, none⟩ (.int .u8 (T.a7.toNat : Int)))) :=
  ((((((((h.setCell (p := ⟨g, 0, none⟩) hg _).setCell (p := ⟨g, 1, none⟩) hg _).setCell (p := ⟨g, 2, none⟩) hg _).setCell (p := ⟨g, 3, none⟩) hg _).setCell (p := ⟨g, 4, none⟩) hg _).setCell (p := ⟨g, 5, none⟩) hg _).setCell (p := ⟨g, 6, none⟩) hg _).setCell (p := ⟨g, 7, none⟩) hg _)
def roV (o : Option ((Nat × Og.Tk) × List UInt8)) : Value := match o with
  | some ((a, t), r) => .tuple #[.int .u8 (a : Int), .agg (tk8 t), .string ⟨r.toArray⟩, .bool true]
  | none => .tuple #[.int .u8 0, .agg (tk8 Og.Tk.zero), .string ⟨#[]⟩, .bool false]
theorem owner_no (s : ByteArray) (h : s.size < 9) : En.owner s.data.toList = none := by
  rw [Lib.size_eq] at h
  unfold En.owner
  generalize s.data.toList = l at h ⊢
  rcases l with _ | ⟨c, r⟩
  · rfl
  · have : ¬ 8 ≤ r.length := by simp at h; omega
    simp [Cm.rdB, Og.rdT, this]
theorem owner_yes (s : ByteArray) (h : ¬ s.size < 9) : ∃ T : Og.Tk, (s.extract 1 s.size).data.toList.take 8 = T.l ∧ En.owner s.data.toList = some (((s[0]'(by omega)).toNat, T), s.data.toList.drop 9) := by
  have hd := drop_cons s 0 (by omega)
  rw [List.drop_zero] at hd
  have hl := Lib.size_eq s
  have h8 : 8 ≤ (s.data.toList.drop 1).length := by rw [List.length_drop]; omega
  refine ⟨Og.Tk.of ((s.data.toList.drop 1).take 8), ?_, ?_⟩
  · rw [ext_drop, Og.Tk.l_of (by rw [List.length_take]; omega)]
  · unfold En.owner
    conv => lhs; rw [hd]
    simp only [Cm.rdB, Option.bind_some, Og.rdT]
    rw [show (0 + 1 : Nat) = 1 from rfl] at *
    rw [if_pos h8]
    simp
theorem sizeTk : (Tryz.prog.info? 86).map (·.size) = some 8 := by kernel_rfl
set_option maxRecDepth 100000 in
set_option maxHeartbeats 2000000 in
theorem readOwner_any (s : ByteArray) (w : World) (hs : s.size ≤ 100000000) :
    Calls Tryz.prog 257 #[.string s] w fun e w' => e = .returned (roV (En.owner s.data.toList)) ∧ Below w.heap.size w w' := by
  by_cases h9 : s.size < 9
  · have E := Lib.hid (owner_no s h9)
    have d1 : decide ((s.size : Int) < 9) = true := by simp; omega
    clear h9
    go_enter Tryz.func257, Tryz.ntmps257
    go_wp2_with fail
    have hres := results_tctt (P := Tryz.prog) (fn := Tryz.f257) rfl
    refine bodyPost_ret (hres _ _ w.heap.size 86 (tk8 Og.Tk.zero) (0, 0) _ rfl (heap_alloc_new w _) Tryz.underlying86 rfl sizeTk) rfl ⟨by rw [E.out]; rfl, bnew (Below.refl _ _) _⟩
  obtain ⟨T, hT, hE⟩ := owner_yes s h9
  have E := Lib.hid hE
  have HD := Lib.hid (ext_drop s 9)
  clear hE
  have d1 : decide ((s.size : Int) < 9) = false := by simp; omega
  have d2 : (1 : Int) ≤ (s.size : Int) := by omega
  have d3 : (9 : Int) ≤ (s.size : Int) := by omega
  have d4 : (0 : Int) < (s.size : Int) := by omega
  have d5 : 0 < s.size := by omega
  have hx8 : 8 ≤ (s.extract 1 s.size).size := by rw [ByteArray.size_extract]; omega
  obtain ⟨x, hx⟩ : ∃ x, x = s.extract 1 s.size := ⟨_, rfl⟩
  have Hx := Lib.hid hx
  rw [← hx] at hT hx8
  have HT := Lib.hid hT
  have Hx8 := Lib.hid hx8
  clear hx hT hx8
  go_enter Tryz.func257, Tryz.ntmps257
  go_upto_region 3 with (fail)
  refine forget (fun W => Below w.heap.size w W ∧ W.heap[w.heap.size]? = some (.cells (tk8 Og.Tk.zero) 86 (0, 0))) ⟨bnew (Below.refl _ _) _, heap_alloc_new w _⟩ ?_
  rintro W1 ⟨hbW, hrow⟩
  obtain ⟨g, hg⟩ : ∃ g, g = w.heap.size := ⟨_, rfl⟩
  have HG := Lib.hid (And.intro hg hbW)
  rw [← hg] at hrow ⊢
  clear hg
  go_still_tail 3, (by kernel_rfl)
  change wpList _ _ _ _ _ W1.drew
  have hrow2 := row_drew hrow
  have hbW2 := below_drew hbW
  generalize W1.drew = W2 at *
  have hcp := copy8 W2 g x _ 86 hrow2 rfl Hx8.out
  rw [HT.out, show (bc T.l).toArray = tk8 T from rfl] at hcp
  have hr3 := setRow_heap W2 g (tk8 Og.Tk.zero) (tk8 T) 86 (0, 0) hrow2
  have hb3 : Below w.heap.size w (W2.setRow g (tk8 T)) := ⟨hbW2.os, hbW2.tape, hbW2.output, by simpa using hbW2.size, fun k hk => (setRow_other _ _ _ _ (by have := HG.out.1; omega)).trans (hbW2.block k hk)⟩
  obtain ⟨W3, hW3⟩ : ∃ W3, W3 = W2.setRow g (tk8 T) := ⟨_, rfl⟩
  rw [← hW3] at hcp hr3 hb3
  rw [← Hx.out]
  have HR := Lib.hid (And.intro hr3 hb3)
  clear hW3 hrow hrow2 hbW hbW2
  have c0 : W3.cell? ⟨g, 0, none⟩ = some (.int .u8 (T.a0.toNat : Int)) := cell_of_row W3 g 0 _ _ _ hr3
  have c1 : W3.cell? ⟨g, 1, none⟩ = some (.int .u8 (T.a1.toNat : Int)) := cell_of_row W3 g 1 _ _ _ hr3
  have c2 : W3.cell? ⟨g, 2, none⟩ = some (.int .u8 (T.a2.toNat : Int)) := cell_of_row W3 g 2 _ _ _ hr3
  have c3 : W3.cell? ⟨g, 3, none⟩ = some (.int .u8 (T.a3.toNat : Int)) := cell_of_row W3 g 3 _ _ _ hr3
  have c4 : W3.cell? ⟨g, 4, none⟩ = some (.int .u8 (T.a4.toNat : Int)) := cell_of_row W3 g 4 _ _ _ hr3
  have c5 : W3.cell? ⟨g, 5, none⟩ = some (.int .u8 (T.a5.toNat : Int)) := cell_of_row W3 g 5 _ _ _ hr3
  have c6 : W3.cell? ⟨g, 6, none⟩ = some (.int .u8 (T.a6.toNat : Int)) := cell_of_row W3 g 6 _ _ _ hr3
  have c7 : W3.cell? ⟨g, 7, none⟩ = some (.int .u8 (T.a7.toNat : Int)) := cell_of_row W3 g 7 _ _ _ hr3
  have z0 := frozen_of_row W3 g 0 _ _ hr3
  have z1 := frozen_of_row W3 g 1 _ _ hr3
  have z2 := frozen_of_row W3 g 2 _ _ hr3
  have z3 := frozen_of_row W3 g 3 _ _ hr3
  have z4 := frozen_of_row W3 g 4 _ _ hr3
  have z5 := frozen_of_row W3 g 5 _ _ hr3
  have z6 := frozen_of_row W3 g 6 _ _ hr3
  have z7 := frozen_of_row W3 g 7 _ _ hr3
  clear hr3 hb3
  go_upto_region 4 with (fail)
  go_region
  go_wp2
  have hres := results_tctt (P := Tryz.prog) (fn := Tryz.f257) rfl
  refine bodyPost_ret (hres _ _ g 86 (tk8 T) (0, 0) _ rfl (row_drew (tokPut HR.out.1)) Tryz.underlying86 rfl sizeTk) rfl ⟨?_, below_drew (tokBelow HR.out.2 (by have := HG.out.1; omega))⟩
  rw [E.out, roV, ← HD.out]
  rfl
end Go.Proofs.YtjhbpcecdhdnoaaGreatDoor
namespace Go.Proofs.YtjhbpcecdhdnoaaGreatDoor
open Go.RowKit
def rhV (o : Option ((Nat × Nat × Nat) × List UInt8)) : Value := match o with
  | some ((k, i, t), r) => .tuple #[.agg (entC ⟨i, t, k, 0, Og.Tk.zero, Cm.e0⟩), .string ⟨r.toArray⟩, .bool true]
  | none => .tuple #[.agg (entC En.zero), .string ⟨#[]⟩, .bool false]
theorem u8_small (n : Nat) (h : n < 256) : IntKind.u8.wrap (n : Int) = (n : Int) := by
  simp only [IntKind.wrap, IntKind.bits, IntKind.signed]
  simp
  omega
theorem head_no (s : ByteArray) (h : s.size = 0) : En.head s.data.toList = none := by
  rw [Lib.size_eq] at h
  rw [List.eq_nil_of_length_eq_zero h]; rfl
theorem head_yes (s : ByteArray) (h : 0 < s.size) : En.head s.data.toList = (Cm.rdV (s.extract 1 s.size).data.toList).bind fun (i, l) => (Cm.rdV l).bind fun (t, l) => some ((s[0].toNat, i, t), l) := by
  have hd := drop_cons s 0 h
  rw [List.drop_zero] at hd
  unfold En.head
  conv => lhs; rw [hd]
  simp only [Cm.rdB, Option.bind_some]
  rw [ext_drop]
theorem rdV_ext (x : ByteArray) : Cm.rdV x.data.toList = match Nm.readV x.data.toList with | some (n, k) => some (n, (x.extract k x.size).data.toList) | none => none := by
  unfold Cm.rdV
  rcases Nm.readV x.data.toList with _ | ⟨n, k⟩
  · rfl
  · simp only [ext_drop]
theorem val8_one (s : ByteArray) (h : 0 < s.size) : Nm.val8 (s.data.toList.take 1) = s[0].toNat := by
  have := take_snoc s 0 h
  rw [List.take_zero, List.nil_append] at this
  rw [this]; simp [Nm.val8]
set_option maxRecDepth 100000 in
set_option maxHeartbeats 4000000 in
theorem readHead_any (s : ByteArray) (w : World) (hs : s.size ≤ 100000000) :
    Calls Tryz.prog 256 #[.string s] w fun e w' => e = .returned (rhV (En.head s.data.toList)) ∧ Below w.heap.size w w' := by
  by_cases h0 : s.size = 0
  · have E := Lib.hid (head_no s h0)
    have HU := Lib.hid (fun W => ReadU_no s 1 W (by omega))
    clear h0
    go_enter Tryz.func256, Tryz.ntmps256
    go_wp2_with fail
    refine (HU.out _).mono ?_
    rintro e w1 ⟨rfl, rfl⟩
    go_wp2_with fail
    have hres := results_ctt (P := Tryz.prog) (fn := Tryz.f256) rfl
    refine bodyPost_ret (hres _ _ w.heap.size 88 (entC En.zero) (0, 0) _ rfl (heap_alloc_new w _) Tryz.underlying88 rfl sizeEnt) rfl ⟨by rw [E.out]; rfl, bnew (Below.refl _ _) _⟩
  have hp : 0 < s.size := by omega
  have HU : Hid (∀ W, Calls Tryz.prog 149 #[.string s, .int .i64 1] W fun e w' => e = .returned (.tuple #[.int .u64 (s[0].toNat : Int), .bool true]) ∧ W = w') := Lib.hid (fun W => by
    have := ReadU_any s 1 W (by omega) (by omega) (by omega) (by omega)
    rw [val8_one s hp] at this
    exact this)
  have hh := head_yes s hp
  have p1 : (1 : Int) ≤ (s.size : Int) := by omega
  obtain ⟨x, hx⟩ : ∃ x, x = s.extract 1 s.size := ⟨_, rfl⟩
  have zx : x.size ≤ 100000000 := by rw [hx, ByteArray.size_extract]; omega
  rw [← hx, rdV_ext] at hh
  have Hx := Lib.hid hx
  have HV := Lib.hid (fun W => ReadV_any x W (by omega))
  clear hx h0
  rcases hv : Nm.readV x.data.toList with _ | ⟨i, k1⟩
  · rw [hv] at hh
    have E : Hid (En.head s.data.toList = none) := Lib.hid hh
    have Hv := Lib.hid hv
    clear hh hv
    go_enter Tryz.func256, Tryz.ntmps256
    go_wp2_with fail
    refine (HU.out _).mono ?_
    rintro e w1 ⟨rfl, rfl⟩
    go_wp2_with fail
    rw [← Hx.out]
    refine (HV.out _).mono ?_
    rw [Hv.out, rv]
    rintro e w1 ⟨rfl, rfl⟩
    go_wp2_with fail
    have hres := results_ctt (P := Tryz.prog) (fn := Tryz.f256) rfl
    refine bodyPost_ret (hres _ _ w.heap.size 88 (entC En.zero) (0, 0) _ rfl (heap_alloc_new w _) Tryz.underlying88 rfl sizeEnt) rfl ⟨by rw [E.out]; rfl, bnew (Below.refl _ _) _⟩
  obtain ⟨hi, hk11, hk12, _⟩ := Nm.readV_le hv
  rw [← Lib.size_eq] at hk12
  rw [hv] at hh
  simp only [Option.bind_some] at hh
  have q0 : (0 : Int) ≤ (k1 : Int) := by omega
  have q1 : (k1 : Int) ≤ (x.size : Int) := by omega
  obtain ⟨y, hy⟩ : ∃ y, y = x.extract k1 x.size := ⟨_, rfl⟩
  have zy : y.size ≤ 100000000 := by rw [hy, ByteArray.size_extract]; omega
  rw [← hy, rdV_ext] at hh
  have Hy := Lib.hid hy
  have HV2 := Lib.hid (fun W => ReadV_any y W (by omega))
  have Hv := Lib.hid hv
  clear hy hv
  rcases hv : Nm.readV y.data.toList with _ | ⟨t, k2⟩
  · rw [hv] at hh
    have E : Hid (En.head s.data.toList = none) := Lib.hid hh
    have Hv2 := Lib.hid hv
    clear hh hv
    go_enter Tryz.func256, Tryz.ntmps256
    go_wp2_with fail
    refine (HU.out _).mono ?_
    rintro e w1 ⟨rfl, rfl⟩
    go_wp2_with fail
    rw [← Hx.out]
    refine (HV.out _).mono ?_
    rw [Hv.out, rv]
    rintro e w1 ⟨rfl, rfl⟩
    go_wp2_with fail
    rw [← Hy.out]
    refine (HV2.out _).mono ?_
    rw [Hv2.out, rv]
    rintro e w1 ⟨rfl, rfl⟩
    go_wp2_with fail
    have hres := results_ctt (P := Tryz.prog) (fn := Tryz.f256) rfl
    refine bodyPost_ret (hres _ _ w.heap.size 88 (entC En.zero) (0, 0) _ rfl (heap_alloc_new w _) Tryz.underlying88 rfl sizeEnt) rfl ⟨by rw [E.out]; rfl, bnew (Below.refl _ _) _⟩
  obtain ⟨ht, hk21, hk22, _⟩ := Nm.readV_le hv
  rw [← Lib.size_eq] at hk22
  rw [hv] at hh
  simp only [Option.bind_some] at hh
  have q2 : (0 : Int) ≤ (k2 : Int) := by omega
  have q3 : (k2 : Int) ≤ (y.size : Int) := by omega
  have q4 : k2 ≤ y.size := by omega
  have wk : IntKind.u8.wrap (s[0].toNat : Int) = (s[0].toNat : Int) := u8_small _ s[0].toNat_lt
  have E : Hid (En.head s.data.toList = some ((s[0].toNat, i, t), (y.extract k2 y.size).data.toList)) := Lib.hid hh
  have Hv2 := Lib.hid hv
  clear hh hv hi ht hk11 hk21
  go_enter Tryz.func256, Tryz.ntmps256
  go_wp2_with fail
  refine (HU.out _).mono ?_
  rintro e w1 ⟨rfl, rfl⟩
  go_wp2_with fail
  rw [← Hx.out]
  refine (HV.out _).mono ?_
  rw [Hv.out, rv]
  rintro e w1 ⟨rfl, rfl⟩
  go_wp2_with fail
  rw [← Hy.out]
  refine (HV2.out _).mono ?_
  rw [Hv2.out, rv]
  rintro e w1 ⟨rfl, rfl⟩
  go_upto_region 12 with (fail)
  refine forget (fun W => Below w.heap.size w W ∧ W.heap[w.heap.size]? = some (.cells (entC En.zero) 88 (0, 0))) ⟨bnew (Below.refl _ _) _, heap_alloc_new w _⟩ ?_
  rintro W1 ⟨hbW, hrow⟩
  obtain ⟨g, hg⟩ : ∃ g, g = w.heap.size := ⟨_, rfl⟩
  have HG := Lib.hid (And.intro hg hbW)
  rw [← hg] at hrow ⊢
  have HR := Lib.hid hrow
  obtain ⟨c0, c1, c2, c3, c4, c5, c6, c7, c8, c9, c10, c11, c12, _⟩ := entAt hrow
  have z0 := frozen_of_row W1 g 0 _ _ hrow
  have z1 := frozen_of_row W1 g 1 _ _ hrow
  have z2 := frozen_of_row W1 g 2 _ _ hrow
  have z3 := frozen_of_row W1 g 3 _ _ hrow
  have z4 := frozen_of_row W1 g 4 _ _ hrow
  have z5 := frozen_of_row W1 g 5 _ _ hrow
  have z6 := frozen_of_row W1 g 6 _ _ hrow
  have z7 := frozen_of_row W1 g 7 _ _ hrow
  have z8 := frozen_of_row W1 g 8 _ _ hrow
  have z9 := frozen_of_row W1 g 9 _ _ hrow
  have z10 := frozen_of_row W1 g 10 _ _ hrow
  have z11 := frozen_of_row W1 g 11 _ _ hrow
  have z12 := frozen_of_row W1 g 12 _ _ hrow
  clear hg hbW hrow
  go_region
  go_wp2
  have hres := results_ctt (P := Tryz.prog) (fn := Tryz.f256) rfl
  refine bodyPost_ret (hres _ _ g 88 (entC ⟨i, t, s[0].toNat, 0, Og.Tk.zero, Cm.e0⟩) (0, 0) _ rfl (row_drew (entPut (e := ⟨i, t, s[0].toNat, 0, Og.Tk.zero, Cm.e0⟩) HR.out)) Tryz.underlying88 rfl sizeEnt) rfl ⟨?_, below_drew (entBelow (e := ⟨i, t, s[0].toNat, 0, Og.Tk.zero, Cm.e0⟩) HG.out.2 (by have := HG.out.1; omega))⟩
  rw [E.out, rhV]
  rfl
end Go.Proofs.YtjhbpcecdhdnoaaGreatDoor
namespace Go.Proofs.YtjhbpcecdhdnoaaGreatDoor
open Go.RowKit
def reV (o : Option En.E) : Value := match o with
  | some e => .tuple #[.agg (entC e), .bool true]
  | none => .tuple #[.agg (entC En.zero), .bool false]
structure RdS (w W : World) (q : Nat) (X : Array Value) : Prop where
  b : Below w.heap.size w W
  lt : w.heap.size < q
  z : W.heap[w.heap.size]? = some (.cells (entC En.zero) 88 (0, 0))
  r : W.heap[q]? = some (.cells X 88 (0, 0))
theorem RdS.grow {w W W' : World} {q : Nat} {X : Array Value} (h : RdS w W q X) (hb : Below W.heap.size W W') : RdS w W' q X :=
  ⟨h.b.trans (hb.mono h.b.size), h.lt, (hb.block _ (Array.getElem?_eq_some_iff.1 h.z).1).trans h.z, (hb.block _ (Array.getElem?_eq_some_iff.1 h.r).1).trans h.r⟩
theorem RdS.drew {w W : World} {q : Nat} {X : Array Value} (h : RdS w W q X) : RdS w W.drew q X := ⟨below_drew h.b, h.lt, h.z, h.r⟩
theorem RdS.put {w W : World} {q : Nat} {X : Array Value} (h : RdS w W q X) (i : Nat) (v : Value) : RdS w (W.setCell ⟨q, i, none⟩ v) q (X.setIfInBounds i v) :=
  ⟨h.b.setCell (p := ⟨q, i, none⟩) (Nat.le_of_lt h.lt) v, h.lt, (Below.heap_setCell _ _ _ _ (by have := h.lt; simp; omega)).trans h.z, heap_setCell_same W q i _ _ v h.r⟩
theorem RdS.owner {w W : World} {q : Nat} {e : En.E} (h : RdS w W q (entC e)) (sl : Nat) (tk : Og.Tk) : RdS w (((((((((W.setCell ⟨q, 3, none⟩ (.int .u8 (sl : Int))).setCell ⟨q, 4, none⟩ (.int .u8 (tk.a0.toNat : Int))).setCell ⟨q, 5, none⟩ (.int .u8 (tk.a1.toNat : Int))).setCell ⟨q, 6, none⟩ (.int .u8 (tk.a2.toNat : Int))).setCell ⟨q, 7, none⟩ (.int .u8 (tk.a3.toNat : Int))).setCell ⟨q, 8, none⟩ (.int .u8 (tk.a4.toNat : Int))).setCell ⟨q, 9, none⟩ (.int .u8 (tk.a5.toNat : Int))).setCell ⟨q, 10, none⟩ (.int .u8 (tk.a6.toNat : Int))).setCell ⟨q, 11, none⟩ (.int .u8 (tk.a7.toNat : Int))) q (entC ⟨e.idx, e.trm, e.kind, sl, tk, e.body⟩) := by
  have h9 := (((((((((h.put 3 (.int .u8 (sl : Int))).put 4 (.int .u8 (tk.a0.toNat : Int))).put 5 (.int .u8 (tk.a1.toNat : Int))).put 6 (.int .u8 (tk.a2.toNat : Int))).put 7 (.int .u8 (tk.a3.toNat : Int))).put 8 (.int .u8 (tk.a4.toNat : Int))).put 9 (.int .u8 (tk.a5.toNat : Int))).put 10 (.int .u8 (tk.a6.toNat : Int))).put 11 (.int .u8 (tk.a7.toNat : Int)))
  rw [show ((((((((((entC e).setIfInBounds 3 (.int .u8 (sl : Int))).setIfInBounds 4 (.int .u8 (tk.a0.toNat : Int))).setIfInBounds 5 (.int .u8 (tk.a1.toNat : Int))).setIfInBounds 6 (.int .u8 (tk.a2.toNat : Int))).setIfInBounds 7 (.int .u8 (tk.a3.toNat : Int))).setIfInBounds 8 (.int .u8 (tk.a4.toNat : Int))).setIfInBounds 9 (.int .u8 (tk.a5.toNat : Int))).setIfInBounds 10 (.int .u8 (tk.a6.toNat : Int))).setIfInBounds 11 (.int .u8 (tk.a7.toNat : Int))) = entC ⟨e.idx, e.trm, e.kind, sl, tk, e.body⟩ by simp [entC]] at h9
  exact h9
theorem RdS.body {w W : World} {q : Nat} {e : En.E} (h : RdS w W q (entC e)) (b : ByteArray) : RdS w (W.setCell ⟨q, 12, none⟩ (.string b)) q (entC ⟨e.idx, e.trm, e.kind, e.slot, e.tok, b⟩) := by
  have h9 := h.put 12 (.string b)
  rw [show (entC e).setIfInBounds 12 (.string b) = entC ⟨e.idx, e.trm, e.kind, e.slot, e.tok, b⟩ by simp [entC]] at h9
  exact h9
theorem rdS_eq (l : List UInt8) : Cm.rdS l = match Nm.readS l with | some (x, n) => some (⟨x.toArray⟩, l.drop n) | none => none := rfl
theorem fin_some (e : En.E) (r : List UInt8) : En.fin (some (e, r)) = if r = [] ∧ En.may e = true then some e else none := rfl
theorem head_short {l : List UInt8} {k i t : Nat} {r : List UInt8} (h : En.head l = some ((k, i, t), r)) : k < 256 ∧ r.length ≤ l.length := by
  obtain ⟨⟨hk, _, _⟩, hl⟩ := (En.head_iff _ _ _ _ _).1 h
  refine ⟨hk, ?_⟩
  rw [hl]; simp only [List.length_append]; omega
theorem owner_short {l : List UInt8} {s : Nat} {x : Og.Tk} {r : List UInt8} (h : En.owner l = some ((s, x), r)) : r.length ≤ l.length := by
  obtain ⟨_, hl⟩ := (En.owner_iff _ _ _ _).1 h
  rw [hl]; simp only [List.length_append]; omega
set_option maxRecDepth 100000 in
set_option maxHeartbeats 8000000 in
theorem enRead_any (s : ByteArray) (w : World) (hs : s.size ≤ 100000000) :
    Calls Tryz.prog 243 #[.string s] w fun e w' => e = .returned (reV (En.read s.data.toList)) ∧ Below w.heap.size w w' := by
  have hH := fun W => readHead_any s W hs
  have hread : En.read s.data.toList = En.fin (En.parse s.data.toList) := rfl
  have hpar : En.parse s.data.toList = (En.head s.data.toList).bind fun ((k, i, t), l) => (En.rdO k l).bind fun ((s, x), l) => (En.rdY k l).bind fun (b, l) => some (⟨i, t, k, s, x, b⟩, l) := rfl
  have hls := Lib.size_eq s
  rcases hh : En.head s.data.toList with _ | ⟨⟨k, i, t⟩, r⟩
  · have EE : Hid (En.read s.data.toList = none) := Lib.hid (by rw [hread, hpar, hh]; rfl)
    rw [hh] at hH
    have HH := Lib.hid hH
    clear hH hread hpar hh hls hs
    go_enter Tryz.func243, Tryz.ntmps243
    go_wp2_with fail
    refine (HH.out _).mono ?_
    rintro e w1 ⟨rfl, hb1⟩
    have F1 := entF En.zero
    obtain ⟨P1, hP1⟩ : ∃ P, P = entC En.zero := ⟨_, rfl⟩
    unfold rhV
    rw [← hP1] at F1 ⊢
    have H1 := Lib.hid (And.intro hP1 hb1)
    have s1 := F1.size
    have hst1 := storeEnt P1 s1 F1.one
    clear hP1 hb1 F1
    go_upto_region 2 with (fail)
    have S0 : RdS w (w1.alloc (.cells P1 88)) w1.heap.size P1 := by
      have hb1 := H1.out.2
      have hs1 := hb1.size
      simp only [World.size_alloc] at hs1
      exact ⟨bnew (bnext (bnew (Below.refl _ _) _) hb1) _, by omega, (Below.heap_alloc _ _ _ (by omega)).trans ((hb1.block _ (by simp)).trans (heap_alloc_new w _)), heap_alloc_new w1 _⟩
    have HS := Lib.hid S0
    clear S0
    go_upto_region 7 with (fail)
    refine forget (fun W => Below w.heap.size w W ∧ W.heap[w.heap.size]? = some (.cells (entC En.zero) 88 (0, 0))) ⟨HS.out.b, HS.out.z⟩ ?_
    rintro W7 ⟨hb7, hz7⟩
    have H7 := Lib.hid (And.intro hb7 hz7)
    obtain ⟨g, hg⟩ : ∃ g, g = w.heap.size := ⟨_, rfl⟩
    rw [← hg] at H7 hz7 ⊢
    have HG := Lib.hid hg
    obtain ⟨n0, n1, n2, n3, n4, n5, n6, n7, n8, n9, n10, n11, n12, _⟩ := entAt hz7
    have v0 := frozen_of_row W7 g 0 _ _ hz7
    have v1 := frozen_of_row W7 g 1 _ _ hz7
    have v2 := frozen_of_row W7 g 2 _ _ hz7
    have v3 := frozen_of_row W7 g 3 _ _ hz7
    have v4 := frozen_of_row W7 g 4 _ _ hz7
    have v5 := frozen_of_row W7 g 5 _ _ hz7
    have v6 := frozen_of_row W7 g 6 _ _ hz7
    have v7 := frozen_of_row W7 g 7 _ _ hz7
    have v8 := frozen_of_row W7 g 8 _ _ hz7
    have v9 := frozen_of_row W7 g 9 _ _ hz7
    have v10 := frozen_of_row W7 g 10 _ _ hz7
    have v11 := frozen_of_row W7 g 11 _ _ hz7
    have v12 := frozen_of_row W7 g 12 _ _ hz7
    clear hb7 hz7 hg
    go_wp2_with fail
    have hres := results_ct (P := Tryz.prog) (fn := Tryz.f243) rfl
    refine bodyPost_ret (hres _ _ g 88 (entC En.zero) (0, 0) _ rfl (entPut (e := En.zero) H7.out.2) Tryz.underlying88 rfl sizeEnt) rfl ⟨by rw [EE.out]; rfl, by rw [← HG.out]; exact entBelow (e := En.zero) H7.out.1 (Nat.le_refl _)⟩
  obtain ⟨hk, hrl⟩ := head_short hh
  rw [hh] at hH hpar
  simp only [Option.bind_some] at hpar
  obtain ⟨x, hx⟩ : ∃ x : ByteArray, x = ⟨r.toArray⟩ := ⟨_, rfl⟩
  have hxl : x.data.toList = r := by rw [hx]
  have zx : x.size ≤ 100000000 := by rw [Lib.size_eq, hxl]; omega
  have hH2 : ∀ W, Calls Tryz.prog 256 #[.string s] W fun e w' => e = .returned (.tuple #[.agg (entC ⟨i, t, k, 0, Og.Tk.zero, Cm.e0⟩), .string x, .bool true]) ∧ Below W.heap.size W w' := fun W => by
    have := hH W
    simp only [rhV] at this
    rw [← hx] at this; exact this
  have HH := Lib.hid hH2
  clear hH hH2 hh hls hs hrl hx
  by_cases k3 : k = 3
  · have q3 : ((k : Int) == 3) = true := by simp; omega
    have HBv : Hid (decide (En.hasB k) = true) := Lib.hid (by rw [decide_eq_true_iff]; unfold En.hasB; omega)
    have hpO : En.rdO k r = En.owner r := by unfold En.rdO; rw [if_pos k3]
    rw [hpO] at hpar
    have hpY : ∀ l, En.rdY k l = Cm.rdS l := fun l => by unfold En.rdY; rw [if_pos (by unfold En.hasB; omega)]
    simp only [hpY] at hpar
    have HO := Lib.hid (fun W => readOwner_any x W zx)
    rcases ho : En.owner r with _ | ⟨⟨sl, tk⟩, r2⟩
    · have EE : Hid (En.read s.data.toList = none) := Lib.hid (by rw [hread, hpar, ho]; rfl)
      have Ho := Lib.hid ho
      have Hxl := Lib.hid hxl
      clear ho hread hpar hpO hpY k3 hxl hk zx
      go_enter Tryz.func243, Tryz.ntmps243
      go_wp2_with fail
      refine (HH.out _).mono ?_
      rintro e w1 ⟨rfl, hb1⟩
      have F1 := entF ⟨i, t, k, 0, Og.Tk.zero, Cm.e0⟩
      obtain ⟨P1, hP1⟩ : ∃ P, P = entC ⟨i, t, k, 0, Og.Tk.zero, Cm.e0⟩ := ⟨_, rfl⟩
      rw [← hP1] at F1 ⊢
      have H1 := Lib.hid (And.intro hP1 hb1)
      have s1 := F1.size
      have hst1 := storeEnt P1 s1 F1.one
      clear hP1 hb1 F1
      go_upto_region 2 with (fail)
      have S0 : RdS w (w1.alloc (.cells P1 88)) w1.heap.size P1 := by
        have hb1 := H1.out.2
        have hs1 := hb1.size
        simp only [World.size_alloc] at hs1
        exact ⟨bnew (bnext (bnew (Below.refl _ _) _) hb1) _, by omega, (Below.heap_alloc _ _ _ (by omega)).trans ((hb1.block _ (by simp)).trans (heap_alloc_new w _)), heap_alloc_new w1 _⟩
      rw [H1.out.1] at S0
      rw [H1.out.1]
      refine forget (fun W => RdS w W w1.heap.size (entC ⟨i, t, k, 0, Og.Tk.zero, Cm.e0⟩)) S0 ?_
      intro W2 S
      obtain ⟨q, hq⟩ : ∃ q, q = w1.heap.size := ⟨_, rfl⟩
      rw [← hq] at S ⊢
      clear hq H1 hst1 s1 S0 HH
      obtain ⟨c0, c1, c2, c3, c4, c5, c6, c7, c8, c9, c10, c11, c12, _⟩ := entAt S.r
      have HS := Lib.hid S
      clear S c12
      go_wp2_with fail
      refine (HO.out _).mono ?_
      rw [Hxl.out, Ho.out, roV]
      unfold tk8 t8
      rintro rr w3 ⟨rfl, hb3⟩
      have HS3 := Lib.hid (HS.out.grow hb3)
      have hr3 := HS3.out.r
      clear hb3 c0 c1 c2 c3 c4 c5 c6 c7 c8 c9 c10 c11
      obtain ⟨c0, c1, c2, c3, c4, c5, c6, c7, c8, c9, c10, c11, c12, _⟩ := entAt hr3
      have z3 := frozen_of_row w3 q 3 _ _ hr3
      have z4 := frozen_of_row w3 q 4 _ _ hr3
      have z5 := frozen_of_row w3 q 5 _ _ hr3
      have z6 := frozen_of_row w3 q 6 _ _ hr3
      have z7 := frozen_of_row w3 q 7 _ _ hr3
      have z8 := frozen_of_row w3 q 8 _ _ hr3
      have z9 := frozen_of_row w3 q 9 _ _ hr3
      have z10 := frozen_of_row w3 q 10 _ _ hr3
      have z11 := frozen_of_row w3 q 11 _ _ hr3
      clear hr3
      go_upto_region 6 with (fail)
      have HS5 := Lib.hid (((((((((HS3.out.put 3 (.int .u8 (0 : Int))).put 4 (.int .u8 0)).put 5 (.int .u8 0)).put 6 (.int .u8 0)).put 7 (.int .u8 0)).put 8 (.int .u8 0)).put 9 (.int .u8 0)).put 10 (.int .u8 0)).put 11 (.int .u8 0))
      go_upto_region 7 with (fail)
      refine forget (fun W => Below w.heap.size w W ∧ W.heap[w.heap.size]? = some (.cells (entC En.zero) 88 (0, 0))) ⟨HS5.out.b, HS5.out.z⟩ ?_
      rintro W7 ⟨hb7, hz7⟩
      have H7 := Lib.hid (And.intro hb7 hz7)
      obtain ⟨g, hg⟩ : ∃ g, g = w.heap.size := ⟨_, rfl⟩
      rw [← hg] at H7 hz7 ⊢
      have HG := Lib.hid hg
      obtain ⟨n0, n1, n2, n3, n4, n5, n6, n7, n8, n9, n10, n11, n12, _⟩ := entAt hz7
      have v0 := frozen_of_row W7 g 0 _ _ hz7
      have v1 := frozen_of_row W7 g 1 _ _ hz7
      have v2 := frozen_of_row W7 g 2 _ _ hz7
      have v3 := frozen_of_row W7 g 3 _ _ hz7
      have v4 := frozen_of_row W7 g 4 _ _ hz7
      have v5 := frozen_of_row W7 g 5 _ _ hz7
      have v6 := frozen_of_row W7 g 6 _ _ hz7
      have v7 := frozen_of_row W7 g 7 _ _ hz7
      have v8 := frozen_of_row W7 g 8 _ _ hz7
      have v9 := frozen_of_row W7 g 9 _ _ hz7
      have v10 := frozen_of_row W7 g 10 _ _ hz7
      have v11 := frozen_of_row W7 g 11 _ _ hz7
      have v12 := frozen_of_row W7 g 12 _ _ hz7
      clear hb7 hz7 hg
      go_wp2_with fail
      have hres := results_ct (P := Tryz.prog) (fn := Tryz.f243) rfl
      refine bodyPost_ret (hres _ _ g 88 (entC En.zero) (0, 0) _ rfl (entPut (e := En.zero) H7.out.2) Tryz.underlying88 rfl sizeEnt) rfl ⟨by rw [EE.out]; rfl, by rw [← HG.out]; exact entBelow (e := En.zero) H7.out.1 (Nat.le_refl _)⟩
    · have hos := owner_short ho
      rw [ho] at hpar
      simp only [Option.bind_some] at hpar
      have HP : En.read s.data.toList = En.fin ((Cm.rdS r2).bind fun (b, l) => some (⟨i, t, k, sl, tk, b⟩, l)) := by rw [hread, hpar]
      obtain ⟨x2, hx2⟩ : ∃ x : ByteArray, x = ⟨r2.toArray⟩ := ⟨_, rfl⟩
      have hxx : x2.data.toList = r2 := by rw [hx2]
      have zx2 : x2.size ≤ 100000000 := by rw [Lib.size_eq, hxx]; rw [Lib.size_eq, hxl] at zx; omega
      have Ho := Lib.hid ho
      have Hxl := Lib.hid hxl
      have Hx2 := Lib.hid hx2
      clear ho hread hpar hpO hpY k3 hxl hk zx hos hx2
      go_enter Tryz.func243, Tryz.ntmps243
      go_wp2_with fail
      refine (HH.out _).mono ?_
      rintro e w1 ⟨rfl, hb1⟩
      have F1 := entF ⟨i, t, k, 0, Og.Tk.zero, Cm.e0⟩
      obtain ⟨P1, hP1⟩ : ∃ P, P = entC ⟨i, t, k, 0, Og.Tk.zero, Cm.e0⟩ := ⟨_, rfl⟩
      rw [← hP1] at F1 ⊢
      have H1 := Lib.hid (And.intro hP1 hb1)
      have s1 := F1.size
      have hst1 := storeEnt P1 s1 F1.one
      clear hP1 hb1 F1
      go_upto_region 2 with (fail)
      have S0 : RdS w (w1.alloc (.cells P1 88)) w1.heap.size P1 := by
        have hb1 := H1.out.2
        have hs1 := hb1.size
        simp only [World.size_alloc] at hs1
        exact ⟨bnew (bnext (bnew (Below.refl _ _) _) hb1) _, by omega, (Below.heap_alloc _ _ _ (by omega)).trans ((hb1.block _ (by simp)).trans (heap_alloc_new w _)), heap_alloc_new w1 _⟩
      rw [H1.out.1] at S0
      rw [H1.out.1]
      refine forget (fun W => RdS w W w1.heap.size (entC ⟨i, t, k, 0, Og.Tk.zero, Cm.e0⟩)) S0 ?_
      intro W2 S
      obtain ⟨q, hq⟩ : ∃ q, q = w1.heap.size := ⟨_, rfl⟩
      rw [← hq] at S ⊢
      clear hq H1 hst1 s1 S0 HH
      obtain ⟨c0, c1, c2, c3, c4, c5, c6, c7, c8, c9, c10, c11, c12, _⟩ := entAt S.r
      have HS := Lib.hid S
      clear S c12
      go_wp2_with fail
      refine (HO.out _).mono ?_
      rw [Hxl.out, Ho.out, roV, ← Hx2.out]
      unfold tk8 t8
      rintro rr w3 ⟨rfl, hb3⟩
      have HS3 := Lib.hid (HS.out.grow hb3)
      have hr3 := HS3.out.r
      clear hb3 c0 c1 c2 c3 c4 c5 c6 c7 c8 c9 c10 c11
      obtain ⟨c0, c1, c2, c3, c4, c5, c6, c7, c8, c9, c10, c11, c12, _⟩ := entAt hr3
      have z3 := frozen_of_row w3 q 3 _ _ hr3
      have z4 := frozen_of_row w3 q 4 _ _ hr3
      have z5 := frozen_of_row w3 q 5 _ _ hr3
      have z6 := frozen_of_row w3 q 6 _ _ hr3
      have z7 := frozen_of_row w3 q 7 _ _ hr3
      have z8 := frozen_of_row w3 q 8 _ _ hr3
      have z9 := frozen_of_row w3 q 9 _ _ hr3
      have z10 := frozen_of_row w3 q 10 _ _ hr3
      have z11 := frozen_of_row w3 q 11 _ _ hr3
      clear hr3
      go_upto_region 4 with (fail)
      refine forget (fun W => RdS w W q (entC ⟨i, t, k, sl, tk, Cm.e0⟩)) (HS3.out.owner sl tk) ?_
      clear HS HS3 c0 c1 c2 c3 c4 c5 c6 c7 c8 c9 c10 c11 c12 z3 z4 z5 z6 z7 z8 z9 z10 z11 HO
      intro W4 S
      obtain ⟨c0, c1, c2, c3, c4, c5, c6, c7, c8, c9, c10, c11, c12, _⟩ := entAt S.r
      have HS := Lib.hid S
      clear S
      have HBo := Lib.hid (fun W => readBody_any x2 W (by omega))
      have HBk := Lib.hid (fun W => hasB_any k W)
      rcases hv : Nm.readS r2 with _ | ⟨y, n⟩
      · have EE : Hid (En.read s.data.toList = none) := Lib.hid (by rw [HP, rdS_eq, hv]; rfl)
        have Hv := Lib.hid hv
        clear hv HP
        go_wp2_with fail
        refine (HBk.out _).mono ?_
        rw [HBv.out]
        rintro rr w3 ⟨rfl, rfl⟩
        go_wp2_with fail
        refine (HBo.out _).mono ?_
        rw [hxx, Hv.out, rbV]
        rintro rr w4 ⟨rfl, hb4⟩
        have HS4 := Lib.hid (HS.out.grow hb4)
        have hr4 := HS4.out.r
        obtain ⟨_, _, _, _, _, _, _, _, _, _, _, _, k12, _⟩ := entAt hr4
        have z12 := frozen_of_row w4 q 12 _ _ hr4
        clear hb4 hr4 HBo HBk
        go_upto_region 6 with (fail)
        have HS5 := Lib.hid (HS4.out.put 12 (.string ⟨#[]⟩))
        go_upto_region 7 with (fail)
        refine forget (fun W => Below w.heap.size w W ∧ W.heap[w.heap.size]? = some (.cells (entC En.zero) 88 (0, 0))) ⟨HS5.out.b, HS5.out.z⟩ ?_
        rintro W7 ⟨hb7, hz7⟩
        have H7 := Lib.hid (And.intro hb7 hz7)
        obtain ⟨g, hg⟩ : ∃ g, g = w.heap.size := ⟨_, rfl⟩
        rw [← hg] at H7 hz7 ⊢
        have HG := Lib.hid hg
        obtain ⟨n0, n1, n2, n3, n4, n5, n6, n7, n8, n9, n10, n11, n12, _⟩ := entAt hz7
        have v0 := frozen_of_row W7 g 0 _ _ hz7
        have v1 := frozen_of_row W7 g 1 _ _ hz7
        have v2 := frozen_of_row W7 g 2 _ _ hz7
        have v3 := frozen_of_row W7 g 3 _ _ hz7
        have v4 := frozen_of_row W7 g 4 _ _ hz7
        have v5 := frozen_of_row W7 g 5 _ _ hz7
        have v6 := frozen_of_row W7 g 6 _ _ hz7
        have v7 := frozen_of_row W7 g 7 _ _ hz7
        have v8 := frozen_of_row W7 g 8 _ _ hz7
        have v9 := frozen_of_row W7 g 9 _ _ hz7
        have v10 := frozen_of_row W7 g 10 _ _ hz7
        have v11 := frozen_of_row W7 g 11 _ _ hz7
        have v12 := frozen_of_row W7 g 12 _ _ hz7
        clear hb7 hz7 hg
        go_wp2_with fail
        have hres := results_ct (P := Tryz.prog) (fn := Tryz.f243) rfl
        refine bodyPost_ret (hres _ _ g 88 (entC En.zero) (0, 0) _ rfl (entPut (e := En.zero) H7.out.2) Tryz.underlying88 rfl sizeEnt) rfl ⟨by rw [EE.out]; rfl, by rw [← HG.out]; exact entBelow (e := En.zero) H7.out.1 (Nat.le_refl _)⟩
      · have HF : En.read s.data.toList = En.fin (some (⟨i, t, k, sl, tk, ⟨y.toArray⟩⟩, r2.drop n)) := by rw [HP, rdS_eq, hv]; rfl
        have Hv := Lib.hid hv
        have HED := Lib.hid (ext_drop x2 n)
        have hyl : (x2.extract n x2.size).data.toList = r2.drop n := by rw [ext_drop, hxx]
        obtain ⟨x3, hx3⟩ : ∃ x3, x3 = x2.extract n x2.size := ⟨_, rfl⟩
        rw [← hx3] at hyl
        have Hx3 := Lib.hid hx3
        obtain ⟨yb, hyb⟩ : ∃ yb : ByteArray, yb = ⟨y.toArray⟩ := ⟨_, rfl⟩
        rw [← hyb] at HF
        rw [← hyl] at HF
        have Hyb := Lib.hid hyb
        clear hv HP hx3 hyb hyl
        go_wp2_with fail
        refine (HBk.out _).mono ?_
        rw [HBv.out]
        rintro rr w3 ⟨rfl, rfl⟩
        go_wp2_with fail
        refine (HBo.out _).mono ?_
        rw [hxx, Hv.out, rbV, ← Hx3.out, ← Hyb.out]
        rintro rr w4 ⟨rfl, hb4⟩
        have HS4 := Lib.hid (HS.out.grow hb4)
        have hr4 := HS4.out.r
        obtain ⟨_, _, _, _, _, _, _, _, _, _, _, _, k12, _⟩ := entAt hr4
        have z12 := frozen_of_row w4 q 12 _ _ hr4
        have HS5 : Hid (RdS w (w4.setCell ⟨q, 12, none⟩ (.string yb)) q (entC ⟨i, t, k, sl, tk, yb⟩)) := Lib.hid (HS4.out.body yb)
        clear hb4 hr4 HBo HBk
        obtain ⟨e, he⟩ : ∃ e : En.E, e = ⟨i, t, k, sl, tk, yb⟩ := ⟨_, rfl⟩
        rw [← he] at HS5 HF
        have HR := Lib.hid (fun W => right_any e W)
        unfold RetTr entC at HR
        rw [fin_some] at HF
        clear he
        go_upto_region 6 with (fail)
        refine forget (fun W => RdS w W q (entC e)) HS5.out ?_
        intro W6 S6
        have HS6 := Lib.hid S6
        obtain ⟨m0, m1, m2, m3, m4, m5, m6, m7, m8, m9, m10, m11, m12, _⟩ := entAt S6.r
        clear S6
        have hem := body_empty x3
        have hrl : x3.size = x3.data.toList.length := by rw [Lib.size_eq]
        by_cases hr0 : x3.size = 0
        · have em : x3.toList.isEmpty = true := by rw [hem, hr0]; rfl
          have hnil : x3.data.toList = [] := List.eq_nil_of_length_eq_zero (by omega)
          have Hnil := Lib.hid hnil
          clear hem hr0 hrl hnil
          rcases hm : En.may e with _ | _
          · have EE : Hid (En.read s.data.toList = none) := Lib.hid (by rw [HF, hm]; simp)
            have HM := Lib.hid hm
            clear hm HF
            go_wp2_with fail
            refine (HR.out _).mono ?_
            rw [HM.out]
            rintro rr w6 ⟨rfl, hb6⟩
            have HS7 := Lib.hid (HS6.out.grow hb6)
            clear hb6
            go_upto_region 7 with (fail)
            refine forget (fun W => Below w.heap.size w W ∧ W.heap[w.heap.size]? = some (.cells (entC En.zero) 88 (0, 0))) ⟨HS7.out.b, HS7.out.z⟩ ?_
            rintro W7 ⟨hb7, hz7⟩
            have H7 := Lib.hid (And.intro hb7 hz7)
            obtain ⟨g, hg⟩ : ∃ g, g = w.heap.size := ⟨_, rfl⟩
            rw [← hg] at H7 hz7 ⊢
            have HG := Lib.hid hg
            obtain ⟨n0, n1, n2, n3, n4, n5, n6, n7, n8, n9, n10, n11, n12, _⟩ := entAt hz7
            have v0 := frozen_of_row W7 g 0 _ _ hz7
            have v1 := frozen_of_row W7 g 1 _ _ hz7
            have v2 := frozen_of_row W7 g 2 _ _ hz7
            have v3 := frozen_of_row W7 g 3 _ _ hz7
            have v4 := frozen_of_row W7 g 4 _ _ hz7
            have v5 := frozen_of_row W7 g 5 _ _ hz7
            have v6 := frozen_of_row W7 g 6 _ _ hz7
            have v7 := frozen_of_row W7 g 7 _ _ hz7
            have v8 := frozen_of_row W7 g 8 _ _ hz7
            have v9 := frozen_of_row W7 g 9 _ _ hz7
            have v10 := frozen_of_row W7 g 10 _ _ hz7
            have v11 := frozen_of_row W7 g 11 _ _ hz7
            have v12 := frozen_of_row W7 g 12 _ _ hz7
            clear hb7 hz7 hg
            go_wp2_with fail
            have hres := results_ct (P := Tryz.prog) (fn := Tryz.f243) rfl
            refine bodyPost_ret (hres _ _ g 88 (entC En.zero) (0, 0) _ rfl (entPut (e := En.zero) H7.out.2) Tryz.underlying88 rfl sizeEnt) rfl ⟨by rw [EE.out]; rfl, by rw [← HG.out]; exact entBelow (e := En.zero) H7.out.1 (Nat.le_refl _)⟩
          · have EE : Hid (En.read s.data.toList = some e) := Lib.hid (by rw [HF, hm, if_pos ⟨Hnil.out, rfl⟩])
            have HM := Lib.hid hm
            clear hm HF
            go_wp2_with fail
            refine (HR.out _).mono ?_
            rw [HM.out]
            rintro rr w6 ⟨rfl, hb6⟩
            have HS7 := Lib.hid (HS6.out.grow hb6)
            clear hb6 m0 m1 m2 m3 m4 m5 m6 m7 m8 m9 m10 m11 m12
            go_upto_region 8 with (fail)
            refine forget (fun W => RdS w W q (entC e)) HS7.out ?_
            intro W8 S8
            have H8 := Lib.hid S8
            obtain ⟨m0, m1, m2, m3, m4, m5, m6, m7, m8, m9, m10, m11, m12, _⟩ := entAt S8.r
            obtain ⟨g, hg⟩ : ∃ g, g = w.heap.size := ⟨_, rfl⟩
            have hz8 := S8.z
            rw [← hg] at hz8 ⊢
            have HG := Lib.hid hg
            obtain ⟨n0, n1, n2, n3, n4, n5, n6, n7, n8, n9, n10, n11, n12, _⟩ := entAt hz8
            have v0 := frozen_of_row W8 g 0 _ _ hz8
            have v1 := frozen_of_row W8 g 1 _ _ hz8
            have v2 := frozen_of_row W8 g 2 _ _ hz8
            have v3 := frozen_of_row W8 g 3 _ _ hz8
            have v4 := frozen_of_row W8 g 4 _ _ hz8
            have v5 := frozen_of_row W8 g 5 _ _ hz8
            have v6 := frozen_of_row W8 g 6 _ _ hz8
            have v7 := frozen_of_row W8 g 7 _ _ hz8
            have v8 := frozen_of_row W8 g 8 _ _ hz8
            have v9 := frozen_of_row W8 g 9 _ _ hz8
            have v10 := frozen_of_row W8 g 10 _ _ hz8
            have v11 := frozen_of_row W8 g 11 _ _ hz8
            have v12 := frozen_of_row W8 g 12 _ _ hz8
            have Hz8 := Lib.hid hz8
            clear S8 hg hz8
            go_wp2_with fail
            have hres := results_ct (P := Tryz.prog) (fn := Tryz.f243) rfl
            refine bodyPost_ret (hres _ _ g 88 (entC e) (0, 0) _ rfl (entPut (e := e) Hz8.out) Tryz.underlying88 rfl sizeEnt) rfl ⟨by rw [EE.out]; rfl, by rw [← HG.out]; exact entBelow (e := e) (by rw [HG.out]; exact H8.out.b) (Nat.le_refl _)⟩
        · have em : x3.toList.isEmpty = false := by rw [hem]; simpa using hr0
          have EE : Hid (En.read s.data.toList = none) := Lib.hid (by
            rw [HF, if_neg]
            rintro ⟨h1, _⟩
            rw [h1] at hrl
            exact hr0 hrl)
          clear hem hr0 hrl HF
          go_upto_region 7 with (fail)
          refine forget (fun W => Below w.heap.size w W ∧ W.heap[w.heap.size]? = some (.cells (entC En.zero) 88 (0, 0))) ⟨HS6.out.b, HS6.out.z⟩ ?_
          rintro W7 ⟨hb7, hz7⟩
          have H7 := Lib.hid (And.intro hb7 hz7)
          obtain ⟨g, hg⟩ : ∃ g, g = w.heap.size := ⟨_, rfl⟩
          rw [← hg] at H7 hz7 ⊢
          have HG := Lib.hid hg
          obtain ⟨n0, n1, n2, n3, n4, n5, n6, n7, n8, n9, n10, n11, n12, _⟩ := entAt hz7
          have v0 := frozen_of_row W7 g 0 _ _ hz7
          have v1 := frozen_of_row W7 g 1 _ _ hz7
          have v2 := frozen_of_row W7 g 2 _ _ hz7
          have v3 := frozen_of_row W7 g 3 _ _ hz7
          have v4 := frozen_of_row W7 g 4 _ _ hz7
          have v5 := frozen_of_row W7 g 5 _ _ hz7
          have v6 := frozen_of_row W7 g 6 _ _ hz7
          have v7 := frozen_of_row W7 g 7 _ _ hz7
          have v8 := frozen_of_row W7 g 8 _ _ hz7
          have v9 := frozen_of_row W7 g 9 _ _ hz7
          have v10 := frozen_of_row W7 g 10 _ _ hz7
          have v11 := frozen_of_row W7 g 11 _ _ hz7
          have v12 := frozen_of_row W7 g 12 _ _ hz7
          clear hb7 hz7 hg
          go_wp2_with fail
          have hres := results_ct (P := Tryz.prog) (fn := Tryz.f243) rfl
          refine bodyPost_ret (hres _ _ g 88 (entC En.zero) (0, 0) _ rfl (entPut (e := En.zero) H7.out.2) Tryz.underlying88 rfl sizeEnt) rfl ⟨by rw [EE.out]; rfl, by rw [← HG.out]; exact entBelow (e := En.zero) H7.out.1 (Nat.le_refl _)⟩
  have q3 : ((k : Int) == 3) = false := by simp; omega
  have hpO : En.rdO k r = some ((0, Og.Tk.zero), r) := by unfold En.rdO; rw [if_neg k3]
  rw [hpO] at hpar
  simp only [Option.bind_some] at hpar
  by_cases kb : En.hasB k
  · have HBv : Hid (decide (En.hasB k) = true) := Lib.hid (decide_eq_true kb)
    have hpY : ∀ l, En.rdY k l = Cm.rdS l := fun l => by unfold En.rdY; rw [if_pos kb]
    simp only [hpY] at hpar
    have HP : En.read s.data.toList = En.fin ((Cm.rdS r).bind fun (b, l) => some (⟨i, t, k, 0, Og.Tk.zero, b⟩, l)) := by rw [hread, hpar]
    have hxx := hxl
    clear hread hpar hpO hpY k3 hxl hk kb
    go_enter Tryz.func243, Tryz.ntmps243
    go_wp2_with fail
    refine (HH.out _).mono ?_
    rintro e w1 ⟨rfl, hb1⟩
    have F1 := entF ⟨i, t, k, 0, Og.Tk.zero, Cm.e0⟩
    obtain ⟨P1, hP1⟩ : ∃ P, P = entC ⟨i, t, k, 0, Og.Tk.zero, Cm.e0⟩ := ⟨_, rfl⟩
    rw [← hP1] at F1 ⊢
    have H1 := Lib.hid (And.intro hP1 hb1)
    have s1 := F1.size
    have hst1 := storeEnt P1 s1 F1.one
    clear hP1 hb1 F1
    go_upto_region 2 with (fail)
    have S0 : RdS w (w1.alloc (.cells P1 88)) w1.heap.size P1 := by
      have hb1 := H1.out.2
      have hs1 := hb1.size
      simp only [World.size_alloc] at hs1
      exact ⟨bnew (bnext (bnew (Below.refl _ _) _) hb1) _, by omega, (Below.heap_alloc _ _ _ (by omega)).trans ((hb1.block _ (by simp)).trans (heap_alloc_new w _)), heap_alloc_new w1 _⟩
    rw [H1.out.1] at S0
    rw [H1.out.1]
    refine forget (fun W => RdS w W w1.heap.size (entC ⟨i, t, k, 0, Og.Tk.zero, Cm.e0⟩)) S0 ?_
    intro W2 S
    obtain ⟨q, hq⟩ : ∃ q, q = w1.heap.size := ⟨_, rfl⟩
    rw [← hq] at S ⊢
    clear hq H1 hst1 s1 S0 HH
    obtain ⟨c0, c1, c2, c3, c4, c5, c6, c7, c8, c9, c10, c11, c12, _⟩ := entAt S.r
    have HS := Lib.hid S
    clear S
    have HBo := Lib.hid (fun W => readBody_any x W (by omega))
    have HBk := Lib.hid (fun W => hasB_any k W)
    rcases hv : Nm.readS r with _ | ⟨y, n⟩
    · have EE : Hid (En.read s.data.toList = none) := Lib.hid (by rw [HP, rdS_eq, hv]; rfl)
      have Hv := Lib.hid hv
      clear hv HP
      go_wp2_with fail
      refine (HBk.out _).mono ?_
      rw [HBv.out]
      rintro rr w3 ⟨rfl, rfl⟩
      go_wp2_with fail
      refine (HBo.out _).mono ?_
      rw [hxx, Hv.out, rbV]
      rintro rr w4 ⟨rfl, hb4⟩
      have HS4 := Lib.hid (HS.out.grow hb4)
      have hr4 := HS4.out.r
      obtain ⟨_, _, _, _, _, _, _, _, _, _, _, _, k12, _⟩ := entAt hr4
      have z12 := frozen_of_row w4 q 12 _ _ hr4
      clear hb4 hr4 HBo HBk
      go_upto_region 6 with (fail)
      have HS5 := Lib.hid (HS4.out.put 12 (.string ⟨#[]⟩))
      go_upto_region 7 with (fail)
      refine forget (fun W => Below w.heap.size w W ∧ W.heap[w.heap.size]? = some (.cells (entC En.zero) 88 (0, 0))) ⟨HS5.out.b, HS5.out.z⟩ ?_
      rintro W7 ⟨hb7, hz7⟩
      have H7 := Lib.hid (And.intro hb7 hz7)
      obtain ⟨g, hg⟩ : ∃ g, g = w.heap.size := ⟨_, rfl⟩
      rw [← hg] at H7 hz7 ⊢
      have HG := Lib.hid hg
      obtain ⟨n0, n1, n2, n3, n4, n5, n6, n7, n8, n9, n10, n11, n12, _⟩ := entAt hz7
      have v0 := frozen_of_row W7 g 0 _ _ hz7
      have v1 := frozen_of_row W7 g 1 _ _ hz7
      have v2 := frozen_of_row W7 g 2 _ _ hz7
      have v3 := frozen_of_row W7 g 3 _ _ hz7
      have v4 := frozen_of_row W7 g 4 _ _ hz7
      have v5 := frozen_of_row W7 g 5 _ _ hz7
      have v6 := frozen_of_row W7 g 6 _ _ hz7
      have v7 := frozen_of_row W7 g 7 _ _ hz7
      have v8 := frozen_of_row W7 g 8 _ _ hz7
      have v9 := frozen_of_row W7 g 9 _ _ hz7
      have v10 := frozen_of_row W7 g 10 _ _ hz7
      have v11 := frozen_of_row W7 g 11 _ _ hz7
      have v12 := frozen_of_row W7 g 12 _ _ hz7
      clear hb7 hz7 hg
      go_wp2_with fail
      have hres := results_ct (P := Tryz.prog) (fn := Tryz.f243) rfl
      refine bodyPost_ret (hres _ _ g 88 (entC En.zero) (0, 0) _ rfl (entPut (e := En.zero) H7.out.2) Tryz.underlying88 rfl sizeEnt) rfl ⟨by rw [EE.out]; rfl, by rw [← HG.out]; exact entBelow (e := En.zero) H7.out.1 (Nat.le_refl _)⟩
    · have HF : En.read s.data.toList = En.fin (some (⟨i, t, k, 0, Og.Tk.zero, ⟨y.toArray⟩⟩, r.drop n)) := by rw [HP, rdS_eq, hv]; rfl
      have Hv := Lib.hid hv
      have HED := Lib.hid (ext_drop x n)
      have hyl : (x.extract n x.size).data.toList = r.drop n := by rw [ext_drop, hxx]
      obtain ⟨x3, hx3⟩ : ∃ x3, x3 = x.extract n x.size := ⟨_, rfl⟩
      rw [← hx3] at hyl
      have Hx3 := Lib.hid hx3
      obtain ⟨yb, hyb⟩ : ∃ yb : ByteArray, yb = ⟨y.toArray⟩ := ⟨_, rfl⟩
      rw [← hyb] at HF
      rw [← hyl] at HF
      have Hyb := Lib.hid hyb
      clear hv HP hx3 hyb hyl
      go_wp2_with fail
      refine (HBk.out _).mono ?_
      rw [HBv.out]
      rintro rr w3 ⟨rfl, rfl⟩
      go_wp2_with fail
      refine (HBo.out _).mono ?_
      rw [hxx, Hv.out, rbV, ← Hx3.out, ← Hyb.out]
      rintro rr w4 ⟨rfl, hb4⟩
      have HS4 := Lib.hid (HS.out.grow hb4)
      have hr4 := HS4.out.r
      obtain ⟨_, _, _, _, _, _, _, _, _, _, _, _, k12, _⟩ := entAt hr4
      have z12 := frozen_of_row w4 q 12 _ _ hr4
      have HS5 : Hid (RdS w (w4.setCell ⟨q, 12, none⟩ (.string yb)) q (entC ⟨i, t, k, 0, Og.Tk.zero, yb⟩)) := Lib.hid (HS4.out.body yb)
      clear hb4 hr4 HBo HBk
      obtain ⟨e, he⟩ : ∃ e : En.E, e = ⟨i, t, k, 0, Og.Tk.zero, yb⟩ := ⟨_, rfl⟩
      rw [← he] at HS5 HF
      have HR := Lib.hid (fun W => right_any e W)
      unfold RetTr entC at HR
      rw [fin_some] at HF
      clear he
      go_upto_region 6 with (fail)
      refine forget (fun W => RdS w W q (entC e)) HS5.out ?_
      intro W6 S6
      have HS6 := Lib.hid S6
      obtain ⟨m0, m1, m2, m3, m4, m5, m6, m7, m8, m9, m10, m11, m12, _⟩ := entAt S6.r
      clear S6
      have hem := body_empty x3
      have hrl : x3.size = x3.data.toList.length := by rw [Lib.size_eq]
      by_cases hr0 : x3.size = 0
      · have em : x3.toList.isEmpty = true := by rw [hem, hr0]; rfl
        have hnil : x3.data.toList = [] := List.eq_nil_of_length_eq_zero (by omega)
        have Hnil := Lib.hid hnil
        clear hem hr0 hrl hnil
        rcases hm : En.may e with _ | _
        · have EE : Hid (En.read s.data.toList = none) := Lib.hid (by rw [HF, hm]; simp)
          have HM := Lib.hid hm
          clear hm HF
          go_wp2_with fail
          refine (HR.out _).mono ?_
          rw [HM.out]
          rintro rr w6 ⟨rfl, hb6⟩
          have HS7 := Lib.hid (HS6.out.grow hb6)
          clear hb6
          go_upto_region 7 with (fail)
          refine forget (fun W => Below w.heap.size w W ∧ W.heap[w.heap.size]? = some (.cells (entC En.zero) 88 (0, 0))) ⟨HS7.out.b, HS7.out.z⟩ ?_
          rintro W7 ⟨hb7, hz7⟩
          have H7 := Lib.hid (And.intro hb7 hz7)
          obtain ⟨g, hg⟩ : ∃ g, g = w.heap.size := ⟨_, rfl⟩
          rw [← hg] at H7 hz7 ⊢
          have HG := Lib.hid hg
          obtain ⟨n0, n1, n2, n3, n4, n5, n6, n7, n8, n9, n10, n11, n12, _⟩ := entAt hz7
          have v0 := frozen_of_row W7 g 0 _ _ hz7
          have v1 := frozen_of_row W7 g 1 _ _ hz7
          have v2 := frozen_of_row W7 g 2 _ _ hz7
          have v3 := frozen_of_row W7 g 3 _ _ hz7
          have v4 := frozen_of_row W7 g 4 _ _ hz7
          have v5 := frozen_of_row W7 g 5 _ _ hz7
          have v6 := frozen_of_row W7 g 6 _ _ hz7
          have v7 := frozen_of_row W7 g 7 _ _ hz7
          have v8 := frozen_of_row W7 g 8 _ _ hz7
          have v9 := frozen_of_row W7 g 9 _ _ hz7
          have v10 := frozen_of_row W7 g 10 _ _ hz7
          have v11 := frozen_of_row W7 g 11 _ _ hz7
          have v12 := frozen_of_row W7 g 12 _ _ hz7
          clear hb7 hz7 hg
          go_wp2_with fail
          have hres := results_ct (P := Tryz.prog) (fn := Tryz.f243) rfl
          refine bodyPost_ret (hres _ _ g 88 (entC En.zero) (0, 0) _ rfl (entPut (e := En.zero) H7.out.2) Tryz.underlying88 rfl sizeEnt) rfl ⟨by rw [EE.out]; rfl, by rw [← HG.out]; exact entBelow (e := En.zero) H7.out.1 (Nat.le_refl _)⟩
        · have EE : Hid (En.read s.data.toList = some e) := Lib.hid (by rw [HF, hm, if_pos ⟨Hnil.out, rfl⟩])
          have HM := Lib.hid hm
          clear hm HF
          go_wp2_with fail
          refine (HR.out _).mono ?_
          rw [HM.out]
          rintro rr w6 ⟨rfl, hb6⟩
          have HS7 := Lib.hid (HS6.out.grow hb6)
          clear hb6 m0 m1 m2 m3 m4 m5 m6 m7 m8 m9 m10 m11 m12
          go_upto_region 8 with (fail)
          refine forget (fun W => RdS w W q (entC e)) HS7.out ?_
          intro W8 S8
          have H8 := Lib.hid S8
          obtain ⟨m0, m1, m2, m3, m4, m5, m6, m7, m8, m9, m10, m11, m12, _⟩ := entAt S8.r
          obtain ⟨g, hg⟩ : ∃ g, g = w.heap.size := ⟨_, rfl⟩
          have hz8 := S8.z
          rw [← hg] at hz8 ⊢
          have HG := Lib.hid hg
          obtain ⟨n0, n1, n2, n3, n4, n5, n6, n7, n8, n9, n10, n11, n12, _⟩ := entAt hz8
          have v0 := frozen_of_row W8 g 0 _ _ hz8
          have v1 := frozen_of_row W8 g 1 _ _ hz8
          have v2 := frozen_of_row W8 g 2 _ _ hz8
          have v3 := frozen_of_row W8 g 3 _ _ hz8
          have v4 := frozen_of_row W8 g 4 _ _ hz8
          have v5 := frozen_of_row W8 g 5 _ _ hz8
          have v6 := frozen_of_row W8 g 6 _ _ hz8
          have v7 := frozen_of_row W8 g 7 _ _ hz8
          have v8 := frozen_of_row W8 g 8 _ _ hz8
          have v9 := frozen_of_row W8 g 9 _ _ hz8
          have v10 := frozen_of_row W8 g 10 _ _ hz8
          have v11 := frozen_of_row W8 g 11 _ _ hz8
          have v12 := frozen_of_row W8 g 12 _ _ hz8
          have Hz8 := Lib.hid hz8
          clear S8 hg hz8
          go_wp2_with fail
          have hres := results_ct (P := Tryz.prog) (fn := Tryz.f243) rfl
          refine bodyPost_ret (hres _ _ g 88 (entC e) (0, 0) _ rfl (entPut (e := e) Hz8.out) Tryz.underlying88 rfl sizeEnt) rfl ⟨by rw [EE.out]; rfl, by rw [← HG.out]; exact entBelow (e := e) (by rw [HG.out]; exact H8.out.b) (Nat.le_refl _)⟩
      · have em : x3.toList.isEmpty = false := by rw [hem]; simpa using hr0
        have EE : Hid (En.read s.data.toList = none) := Lib.hid (by
          rw [HF, if_neg]
          rintro ⟨h1, _⟩
          rw [h1] at hrl
          exact hr0 hrl)
        clear hem hr0 hrl HF
        go_upto_region 7 with (fail)
        refine forget (fun W => Below w.heap.size w W ∧ W.heap[w.heap.size]? = some (.cells (entC En.zero) 88 (0, 0))) ⟨HS6.out.b, HS6.out.z⟩ ?_
        rintro W7 ⟨hb7, hz7⟩
        have H7 := Lib.hid (And.intro hb7 hz7)
        obtain ⟨g, hg⟩ : ∃ g, g = w.heap.size := ⟨_, rfl⟩
        rw [← hg] at H7 hz7 ⊢
        have HG := Lib.hid hg
        obtain ⟨n0, n1, n2, n3, n4, n5, n6, n7, n8, n9, n10, n11, n12, _⟩ := entAt hz7
        have v0 := frozen_of_row W7 g 0 _ _ hz7
        have v1 := frozen_of_row W7 g 1 _ _ hz7
        have v2 := frozen_of_row W7 g 2 _ _ hz7
        have v3 := frozen_of_row W7 g 3 _ _ hz7
        have v4 := frozen_of_row W7 g 4 _ _ hz7
        have v5 := frozen_of_row W7 g 5 _ _ hz7
        have v6 := frozen_of_row W7 g 6 _ _ hz7
        have v7 := frozen_of_row W7 g 7 _ _ hz7
        have v8 := frozen_of_row W7 g 8 _ _ hz7
        have v9 := frozen_of_row W7 g 9 _ _ hz7
        have v10 := frozen_of_row W7 g 10 _ _ hz7
        have v11 := frozen_of_row W7 g 11 _ _ hz7
        have v12 := frozen_of_row W7 g 12 _ _ hz7
        clear hb7 hz7 hg
        go_wp2_with fail
        have hres := results_ct (P := Tryz.prog) (fn := Tryz.f243) rfl
        refine bodyPost_ret (hres _ _ g 88 (entC En.zero) (0, 0) _ rfl (entPut (e := En.zero) H7.out.2) Tryz.underlying88 rfl sizeEnt) rfl ⟨by rw [EE.out]; rfl, by rw [← HG.out]; exact entBelow (e := En.zero) H7.out.1 (Nat.le_refl _)⟩
  · have HBv : Hid (decide (En.hasB k) = false) := Lib.hid (decide_eq_false kb)
    have hpY : ∀ l, En.rdY k l = some (Cm.e0, l) := fun l => by unfold En.rdY; rw [if_neg kb]
    simp only [hpY, Option.bind_some] at hpar
    have HF : En.read s.data.toList = En.fin (some (⟨i, t, k, 0, Og.Tk.zero, Cm.e0⟩, r)) := by rw [hread, hpar]
    rw [← hxl] at HF
    have HBk := Lib.hid (fun W => hasB_any k W)
    clear hread hpar hpO hpY k3 hxl hk kb
    go_enter Tryz.func243, Tryz.ntmps243
    go_wp2_with fail
    refine (HH.out _).mono ?_
    rintro e w1 ⟨rfl, hb1⟩
    have F1 := entF ⟨i, t, k, 0, Og.Tk.zero, Cm.e0⟩
    obtain ⟨P1, hP1⟩ : ∃ P, P = entC ⟨i, t, k, 0, Og.Tk.zero, Cm.e0⟩ := ⟨_, rfl⟩
    rw [← hP1] at F1 ⊢
    have H1 := Lib.hid (And.intro hP1 hb1)
    have s1 := F1.size
    have hst1 := storeEnt P1 s1 F1.one
    clear hP1 hb1 F1
    go_upto_region 2 with (fail)
    have S0 : RdS w (w1.alloc (.cells P1 88)) w1.heap.size P1 := by
      have hb1 := H1.out.2
      have hs1 := hb1.size
      simp only [World.size_alloc] at hs1
      exact ⟨bnew (bnext (bnew (Below.refl _ _) _) hb1) _, by omega, (Below.heap_alloc _ _ _ (by omega)).trans ((hb1.block _ (by simp)).trans (heap_alloc_new w _)), heap_alloc_new w1 _⟩
    rw [H1.out.1] at S0
    rw [H1.out.1]
    refine forget (fun W => RdS w W w1.heap.size (entC ⟨i, t, k, 0, Og.Tk.zero, Cm.e0⟩)) S0 ?_
    intro W2 S
    obtain ⟨q, hq⟩ : ∃ q, q = w1.heap.size := ⟨_, rfl⟩
    rw [← hq] at S ⊢
    clear hq H1 hst1 s1 S0 HH
    obtain ⟨c0, c1, c2, c3, c4, c5, c6, c7, c8, c9, c10, c11, c12, _⟩ := entAt S.r
    have HS := Lib.hid S
    clear S
    go_wp2_with fail
    refine (HBk.out _).mono ?_
    rw [HBv.out]
    rintro rr w3 ⟨rfl, rfl⟩
    obtain ⟨e, he⟩ : ∃ e : En.E, e = ⟨i, t, k, 0, Og.Tk.zero, Cm.e0⟩ := ⟨_, rfl⟩
    rw [← he] at HS HF
    have HR := Lib.hid (fun W => right_any e W)
    unfold RetTr entC at HR
    rw [fin_some] at HF
    clear he
    go_upto_region 6 with (fail)
    refine forget (fun W => RdS w W q (entC e)) HS.out ?_
    intro W6 S6
    have HS6 := Lib.hid S6
    obtain ⟨m0, m1, m2, m3, m4, m5, m6, m7, m8, m9, m10, m11, m12, _⟩ := entAt S6.r
    clear S6
    have hem := body_empty x
    have hrl : x.size = x.data.toList.length := by rw [Lib.size_eq]
    by_cases hr0 : x.size = 0
    · have em : x.toList.isEmpty = true := by rw [hem, hr0]; rfl
      have hnil : x.data.toList = [] := List.eq_nil_of_length_eq_zero (by omega)
      have Hnil := Lib.hid hnil
      clear hem hr0 hrl hnil
      rcases hm : En.may e with _ | _
      · have EE : Hid (En.read s.data.toList = none) := Lib.hid (by rw [HF, hm]; simp)
        have HM := Lib.hid hm
        clear hm HF
        go_wp2_with fail
        refine (HR.out _).mono ?_
        rw [HM.out]
        rintro rr w6 ⟨rfl, hb6⟩
        have HS7 := Lib.hid (HS6.out.grow hb6)
        clear hb6
        go_upto_region 7 with (fail)
        refine forget (fun W => Below w.heap.size w W ∧ W.heap[w.heap.size]? = some (.cells (entC En.zero) 88 (0, 0))) ⟨HS7.out.b, HS7.out.z⟩ ?_
        rintro W7 ⟨hb7, hz7⟩
        have H7 := Lib.hid (And.intro hb7 hz7)
        obtain ⟨g, hg⟩ : ∃ g, g = w.heap.size := ⟨_, rfl⟩
        rw [← hg] at H7 hz7 ⊢
        have HG := Lib.hid hg
        obtain ⟨n0, n1, n2, n3, n4, n5, n6, n7, n8, n9, n10, n11, n12, _⟩ := entAt hz7
        have v0 := frozen_of_row W7 g 0 _ _ hz7
        have v1 := frozen_of_row W7 g 1 _ _ hz7
        have v2 := frozen_of_row W7 g 2 _ _ hz7
        have v3 := frozen_of_row W7 g 3 _ _ hz7
        have v4 := frozen_of_row W7 g 4 _ _ hz7
        have v5 := frozen_of_row W7 g 5 _ _ hz7
        have v6 := frozen_of_row W7 g 6 _ _ hz7
        have v7 := frozen_of_row W7 g 7 _ _ hz7
        have v8 := frozen_of_row W7 g 8 _ _ hz7
        have v9 := frozen_of_row W7 g 9 _ _ hz7
        have v10 := frozen_of_row W7 g 10 _ _ hz7
        have v11 := frozen_of_row W7 g 11 _ _ hz7
        have v12 := frozen_of_row W7 g 12 _ _ hz7
        clear hb7 hz7 hg
        go_wp2_with fail
        have hres := results_ct (P := Tryz.prog) (fn := Tryz.f243) rfl
        refine bodyPost_ret (hres _ _ g 88 (entC En.zero) (0, 0) _ rfl (entPut (e := En.zero) H7.out.2) Tryz.underlying88 rfl sizeEnt) rfl ⟨by rw [EE.out]; rfl, by rw [← HG.out]; exact entBelow (e := En.zero) H7.out.1 (Nat.le_refl _)⟩
      · have EE : Hid (En.read s.data.toList = some e) := Lib.hid (by rw [HF, hm, if_pos ⟨Hnil.out, rfl⟩])
        have HM := Lib.hid hm
        clear hm HF
        go_wp2_with fail
        refine (HR.out _).mono ?_
        rw [HM.out]
        rintro rr w6 ⟨rfl, hb6⟩
        have HS7 := Lib.hid (HS6.out.grow hb6)
        clear hb6 m0 m1 m2 m3 m4 m5 m6 m7 m8 m9 m10 m11 m12
        go_upto_region 8 with (fail)
        refine forget (fun W => RdS w W q (entC e)) HS7.out ?_
        intro W8 S8
        have H8 := Lib.hid S8
        obtain ⟨m0, m1, m2, m3, m4, m5, m6, m7, m8, m9, m10, m11, m12, _⟩ := entAt S8.r
        obtain ⟨g, hg⟩ : ∃ g, g = w.heap.size := ⟨_, rfl⟩
        have hz8 := S8.z
        rw [← hg] at hz8 ⊢
        have HG := Lib.hid hg
        obtain ⟨n0, n1, n2, n3, n4, n5, n6, n7, n8, n9, n10, n11, n12, _⟩ := entAt hz8
        have v0 := frozen_of_row W8 g 0 _ _ hz8
        have v1 := frozen_of_row W8 g 1 _ _ hz8
        have v2 := frozen_of_row W8 g 2 _ _ hz8
        have v3 := frozen_of_row W8 g 3 _ _ hz8
        have v4 := frozen_of_row W8 g 4 _ _ hz8
        have v5 := frozen_of_row W8 g 5 _ _ hz8
        have v6 := frozen_of_row W8 g 6 _ _ hz8
        have v7 := frozen_of_row W8 g 7 _ _ hz8
        have v8 := frozen_of_row W8 g 8 _ _ hz8
        have v9 := frozen_of_row W8 g 9 _ _ hz8
        have v10 := frozen_of_row W8 g 10 _ _ hz8
        have v11 := frozen_of_row W8 g 11 _ _ hz8
        have v12 := frozen_of_row W8 g 12 _ _ hz8
        have Hz8 := Lib.hid hz8
        clear S8 hg hz8
        go_wp2_with fail
        have hres := results_ct (P := Tryz.prog) (fn := Tryz.f243) rfl
        refine bodyPost_ret (hres _ _ g 88 (entC e) (0, 0) _ rfl (entPut (e := e) Hz8.out) Tryz.underlying88 rfl sizeEnt) rfl ⟨by rw [EE.out]; rfl, by rw [← HG.out]; exact entBelow (e := e) (by rw [HG.out]; exact H8.out.b) (Nat.le_refl _)⟩
    · have em : x.toList.isEmpty = false := by rw [hem]; simpa using hr0
      have EE : Hid (En.read s.data.toList = none) := Lib.hid (by
        rw [HF, if_neg]
        rintro ⟨h1, _⟩
        rw [h1] at hrl
        exact hr0 hrl)
      clear hem hr0 hrl HF
      go_upto_region 7 with (fail)
      refine forget (fun W => Below w.heap.size w W ∧ W.heap[w.heap.size]? = some (.cells (entC En.zero) 88 (0, 0))) ⟨HS6.out.b, HS6.out.z⟩ ?_
      rintro W7 ⟨hb7, hz7⟩
      have H7 := Lib.hid (And.intro hb7 hz7)
      obtain ⟨g, hg⟩ : ∃ g, g = w.heap.size := ⟨_, rfl⟩
      rw [← hg] at H7 hz7 ⊢
      have HG := Lib.hid hg
      obtain ⟨n0, n1, n2, n3, n4, n5, n6, n7, n8, n9, n10, n11, n12, _⟩ := entAt hz7
      have v0 := frozen_of_row W7 g 0 _ _ hz7
      have v1 := frozen_of_row W7 g 1 _ _ hz7
      have v2 := frozen_of_row W7 g 2 _ _ hz7
      have v3 := frozen_of_row W7 g 3 _ _ hz7
      have v4 := frozen_of_row W7 g 4 _ _ hz7
      have v5 := frozen_of_row W7 g 5 _ _ hz7
      have v6 := frozen_of_row W7 g 6 _ _ hz7
      have v7 := frozen_of_row W7 g 7 _ _ hz7
      have v8 := frozen_of_row W7 g 8 _ _ hz7
      have v9 := frozen_of_row W7 g 9 _ _ hz7
      have v10 := frozen_of_row W7 g 10 _ _ hz7
      have v11 := frozen_of_row W7 g 11 _ _ hz7
      have v12 := frozen_of_row W7 g 12 _ _ hz7
      clear hb7 hz7 hg
      go_wp2_with fail
      have hres := results_ct (P := Tryz.prog) (fn := Tryz.f243) rfl
      refine bodyPost_ret (hres _ _ g 88 (entC En.zero) (0, 0) _ rfl (entPut (e := En.zero) H7.out.2) Tryz.underlying88 rfl sizeEnt) rfl ⟨by rw [EE.out]; rfl, by rw [← HG.out]; exact entBelow (e := En.zero) H7.out.1 (Nat.le_refl _)⟩
end Go.Proofs.YtjhbpcecdhdnoaaGreatDoor
