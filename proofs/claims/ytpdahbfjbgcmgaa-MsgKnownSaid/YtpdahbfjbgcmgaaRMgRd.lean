/-
  msg.reader walked: fail, take, octet, groups, text, truth, ended, entry.
  msg.reader walked: truth, entry.
  msg.reader's entries walked.
  What the steps of a message's reader come to. WRITTEN BY wip/tools/gen_mgread.py.
-/
import Derived.Test.YtpdahbfjbgcmgaaRMgA
import Derived.Test.YtpdahbfjbgcmgaaREnR
import Derived.Test.YtpdahbfjbgcmgaaRNum
import Derived.Laws.MakeOwn
import Derived.Laws.CopyRow
set_option linter.unusedSimpArgs false
set_option linter.unusedVariables false
namespace Go.Proofs.Ytpdahbfjbgcmgaa
open Go.RowKit
/-- A reader's state: the bytes that are left, or none, where a field did not fit. -/
abbrev RSt := Option (List UInt8)
def rst (s : RSt) : List UInt8 := s.getD []
/-- Of the blocks that were there only g may have turned. -/
structure Kp (g : Nat) (w w' : World) : Prop where
  os : w'.os = w.os
  tape : w'.tape = w.tape
  output : w'.output = w.output
  size : w.heap.size ≤ w'.heap.size
  block : ∀ k, k < w.heap.size → k ≠ g → w'.heap[k]? = w.heap[k]?
theorem Kp.refl (g : Nat) (w : World) : Kp g w w := ⟨rfl, rfl, rfl, Nat.le_refl _, fun _ _ _ => rfl⟩
theorem Kp.trans {g : Nat} {a b c : World} (h : Kp g a b) (k : Kp g b c) : Kp g a c :=
  ⟨k.os.trans h.os, k.tape.trans h.tape, k.output.trans h.output, Nat.le_trans h.size k.size, fun i hi hg => (k.block i (Nat.lt_of_lt_of_le hi h.size) hg).trans (h.block i hi hg)⟩
theorem Kp.bel {g : Nat} {a b c : World} (h : Kp g a b) (k : Below b.heap.size b c) : Kp g a c :=
  ⟨k.os.trans h.os, k.tape.trans h.tape, k.output.trans h.output, Nat.le_trans h.size k.size, fun i hi hg => (k.block i (Nat.lt_of_lt_of_le hi h.size)).trans (h.block i hi hg)⟩
theorem Kp.setg {g : Nat} {a b : World} (h : Kp g a b) (i : Nat) (v : Value) : Kp g a (b.setCell ⟨g, i, none⟩ v) :=
  ⟨h.os, h.tape, h.output, by simpa using h.size, fun j hj hg => (Below.heap_setCell _ _ _ _ (by simpa using hg)).trans (h.block j hj hg)⟩
theorem Kp.below {g B : Nat} {w a b : World} (hb : Below B w a) (h : Kp g a b) (hB : B ≤ a.heap.size) (hg : B ≤ g) : Below B w b :=
  ⟨h.os.trans hb.os, h.tape.trans hb.tape, h.output.trans hb.output, Nat.le_trans hb.size h.size, fun k hk => (h.block k (by omega) (by omega)).trans (hb.block k hk)⟩
theorem Kp.row {g k : Nat} {a b : World} {o : Obj} (h : Kp g a b) (hk : k ≠ g) (hr : a.heap[k]? = some o) : b.heap[k]? = some o := (h.block k (Array.getElem?_eq_some_iff.1 hr).1 hk).trans hr
/-- A reader in block g. -/
structure RrAt (W : World) (g : Nat) (s : RSt) : Prop where
  row : W.heap[g]? = some (.cells #[.string ⟨(rst s).toArray⟩, .bool s.isNone] 120 (0, 0))
  len : (rst s).length ≤ 100000000
theorem RrAt.c0 {W : World} {g : Nat} {s : RSt} (h : RrAt W g s) : W.cell? ⟨g, 0, none⟩ = some (.string ⟨(rst s).toArray⟩) := cell_of_row W g 0 _ _ _ h.row
theorem RrAt.c1 {W : World} {g : Nat} {s : RSt} (h : RrAt W g s) : W.cell? ⟨g, 1, none⟩ = some (.bool s.isNone) := cell_of_row W g 1 _ _ _ h.row
theorem RrAt.fz {W : World} {g : Nat} {s : RSt} (h : RrAt W g s) (i : Nat) : W.frozen? ⟨g, i, none⟩ = false := frozen_of_row W g i _ _ h.row
theorem RrAt.lt {W : World} {g : Nat} {s : RSt} (h : RrAt W g s) : g < W.heap.size := (Array.getElem?_eq_some_iff.1 h.row).1
theorem RrAt.bel {W W' : World} {g : Nat} {s : RSt} (h : RrAt W g s) (hb : Below W.heap.size W W') : RrAt W' g s := ⟨(hb.block g h.lt).trans h.row, h.len⟩
/-- What is read, and what is left. -/
def Got {α : Type} (o : Option (α × List UInt8)) (v : α) (t : RSt) : Prop := match o with
  | some (x, l) => v = x ∧ t = some l
  | none => t = none
/-- What a reader's method answers: a value of a kind. -/
def RetG {α : Type} (f : α → Value) (o : Option (α × List UInt8)) (g : Nat) (w : World) (e : Ending) (w' : World) : Prop :=
  ∃ v t, e = .returned (f v) ∧ RrAt w' g t ∧ Got o v t ∧ Kp g w w'
set_option maxRecDepth 100000 in
theorem rrFail_any (W : World) (g : Nat) (s : RSt) (h : RrAt W g s) :
    Calls Try.prog 114 #[.pointer (some ⟨g, 0, none⟩)] W fun e w' => e = .returned (.tuple #[]) ∧ RrAt w' g none ∧ Kp g W w' := by
  have f0 := h.fz 0
  have f1 := h.fz 1
  have c0 := h.c0
  have c1 := h.c1
  have HF : Hid (RrAt ((W.setCell ⟨g, 1, none⟩ (.bool true)).setCell ⟨g, 0, none⟩ (.string ⟨#[]⟩)) g none ∧ Kp g W ((W.setCell ⟨g, 1, none⟩ (.bool true)).setCell ⟨g, 0, none⟩ (.string ⟨#[]⟩))) := Lib.hid
    ⟨⟨heap_setCell_same _ g 0 _ _ _ (heap_setCell_same W g 1 _ _ _ h.row), Nat.zero_le _⟩, ((Kp.refl _ _).setg 1 _).setg 0 _⟩
  clear h
  go_enter Try.func114, Try.ntmps114
  go_wp2_with fail
  go_end0
  exact ⟨rfl, HF.out.1, HF.out.2⟩
set_option maxRecDepth 100000 in
theorem rrTake_no (W : World) (g : Nat) (s : RSt) (k : Int) (h : RrAt W g s) :
    Calls Try.prog 112 #[.pointer (some ⟨g, 0, none⟩), .int .i64 k, .bool false] W fun e w' => e = .returned (.tuple #[]) ∧ RrAt w' g none ∧ Kp g W w' := by
  have HF := Lib.hid (rrFail_any W g s h)
  clear h
  go_enter Try.func112, Try.ntmps112
  go_wp2_with fail
  refine HF.out.mono ?_
  rintro e w1 ⟨rfl, h1, h2⟩
  go_wp2_with fail
  (try simp only [Exit.inBlock, Exit.then])
  refine bodyPost_ret (results_none rfl _ _ _) rfl ?_
  exact ⟨rfl, h1, h2⟩
set_option maxRecDepth 100000 in
theorem rrTake_yes (W : World) (g : Nat) (l : List UInt8) (k : Nat) (h : RrAt W g (some l)) (hk : k ≤ l.length) :
    Calls Try.prog 112 #[.pointer (some ⟨g, 0, none⟩), .int .i64 (k : Int), .bool true] W fun e w' => e = .returned (.tuple #[]) ∧ RrAt w' g (some (l.drop k)) ∧ Kp g W w' := by
  have c0 := h.c0
  have f0 := h.fz 0
  have hl := h.len
  unfold rst Option.getD at c0 hl
  have HG : Hid (∀ x : ByteArray, x = ⟨(l.drop k).toArray⟩ → RrAt (W.setCell ⟨g, 0, none⟩ (.string x)) g (some (l.drop k)) ∧ Kp g W (W.setCell ⟨g, 0, none⟩ (.string x))) := Lib.hid fun x hx => by
    subst hx
    exact ⟨⟨heap_setCell_same W g 0 _ _ _ h.row, by simp [rst]; simp at hl; omega⟩, (Kp.refl _ _).setg 0 _⟩
  obtain ⟨t, ht⟩ : ∃ t : ByteArray, t = ⟨l.toArray⟩ := ⟨_, rfl⟩
  have hz : t.size = l.length := by rw [ht, Lib.size_eq]
  have hxk : t.extract k t.size = ⟨(l.drop k).toArray⟩ := by
    rw [ht]; apply ByteArray.ext; apply Array.toList_inj.1; rw [Lib.extract_data]; simp [Lib.size_eq]
    exact List.take_of_length_le (by simp)
  have hk2 : k ≤ t.size := by omega
  have hsz : t.size ≤ 100000000 := by rw [hz]; simpa using hl
  simp only [] at c0
  rw [← ht] at c0
  have Hx := Lib.hid hxk
  clear h hxk hz ht hk hl
  go_enter Try.func112, Try.ntmps112
  go_wp2_with fail
  go_end0
  exact ⟨rfl, (HG.out _ Hx.out).1, (HG.out _ Hx.out).2⟩
set_option maxRecDepth 100000 in
theorem rrEnded_any (W : World) (g : Nat) (s : RSt) (h : RrAt W g s) :
    Calls Try.prog 88 #[.pointer (some ⟨g, 0, none⟩)] W fun e w' => e = .returned (.bool (!s.isNone && (rst s).isEmpty)) ∧ W = w' := by
  have c1 := h.c1
  have c0 := h.c0
  obtain ⟨t, ht⟩ : ∃ t : ByteArray, t = ⟨(rst s).toArray⟩ := ⟨_, rfl⟩
  rw [← ht] at c0
  have he : t.toList.isEmpty = (rst s).isEmpty := by rw [ht, ByteArray.toList_eq]
  have He := Lib.hid he
  obtain ⟨b, hb⟩ : ∃ b, b = s.isNone := ⟨_, rfl⟩
  rw [← hb] at c1 ⊢
  clear h he ht hb
  cases b
  · go_enter Try.func88, Try.ntmps88
    go_wp2_with fail
    go_ret
    exact ⟨by rw [← He.out]; rfl, rfl⟩
  · go_enter Try.func88, Try.ntmps88
    go_wp2_with fail
    go_ret
    exact ⟨rfl, rfl⟩
theorem bind_rst {α : Type} (f : List UInt8 → Option α) (hf : f [] = none) (s : RSt) : s.bind f = f (rst s) := by
  cases s with
  | none => simp [rst, hf]
  | some l => rfl
theorem rst_some {s : RSt} (h : rst s ≠ []) : s = some (rst s) := by
  cases s with
  | none => exact absurd rfl h
  | some l => rfl
theorem u8_of (c : UInt8) : IntKind.u8.wrap (c.toNat : Int) = (c.toNat : Int) := by
  have := c.toNat_lt
  have e : IntKind.u8.wrap (c.toNat : Int) = (c.toNat : Int) % 256 := by simp [IntKind.wrap, IntKind.bits, IntKind.signed]
  rw [e]; omega
theorem val8_1 (c : UInt8) (l : List UInt8) : Nm.val8 ((c :: l).take 1) = c.toNat := by simp [Nm.val8]
def u8v (n : Nat) : Value := .int .u8 (n : Int)
def u64v (n : Nat) : Value := .int .u64 (n : Int)
set_option maxRecDepth 100000 in
set_option maxHeartbeats 1000000 in
theorem rrOctet_any (W : World) (g : Nat) (s : RSt) (h : RrAt W g s) :
    Calls Try.prog 83 #[.pointer (some ⟨g, 0, none⟩)] W (fun e w' => RetG u8v (s.bind Cm.rdB) g W e w' ∧ ∃ n, n < 256 ∧ e = .returned (u8v n)) := by
  rw [bind_rst _ rfl]
  have c0 := h.c0
  have hlen := h.len
  obtain ⟨t, ht⟩ : ∃ t : ByteArray, t = ⟨(rst s).toArray⟩ := ⟨_, rfl⟩
  have hz : t.size = (rst s).length := by rw [ht, Lib.size_eq]
  rw [← ht] at c0
  rcases hs : rst s with _ | ⟨c, r⟩
  · have Hc := Lib.hid (ReadU_no t 1 W (by rw [hz, hs]; simp))
    have HT := Lib.hid (rrTake_no W g s 1 h)
    clear h hs hz ht hlen
    go_enter Try.func83, Try.ntmps83
    go_wp2_with fail
    refine Hc.out.mono ?_
    rintro e w1 ⟨rfl, rfl⟩
    go_wp2_with fail
    refine HT.out.mono ?_
    rintro e w2 ⟨rfl, h1, h2⟩
    go_wp2_with fail
    go_ret
    exact ⟨⟨0, none, rfl, h1, rfl, h2⟩, 0, by decide, rfl⟩
  · have hcall := ReadU_any t 1 W (by rw [hz]; omega) (by omega) (by omega) (by rw [hz, hs]; simp)
    have hv : Nm.val8 (t.data.toList.take 1) = c.toNat := by
      rw [ht]; simp only []
      rw [hs]; exact val8_1 c r
    rw [hv] at hcall
    have Hc := Lib.hid hcall
    have hsome : s = some (c :: r) := by rw [← hs]; exact rst_some (by rw [hs]; simp)
    have HT := Lib.hid (rrTake_yes W g (c :: r) 1 (by rw [← hsome]; exact h) (by simp))
    have hw8 := u8_of c
    clear h hs hz ht hlen hcall hv hsome
    go_enter Try.func83, Try.ntmps83
    go_wp2_with fail
    refine Hc.out.mono ?_
    rintro e w1 ⟨rfl, rfl⟩
    go_wp2_with fail
    refine HT.out.mono ?_
    rintro e w2 ⟨rfl, h1, h2⟩
    go_wp2_with fail
    go_ret
    exact ⟨⟨c.toNat, some r, rfl, h1, ⟨rfl, rfl⟩, h2⟩, c.toNat, c.toNat_lt, rfl⟩
set_option maxRecDepth 100000 in
set_option maxHeartbeats 1000000 in
theorem rrGroups_any (W : World) (g : Nat) (s : RSt) (h : RrAt W g s) :
    Calls Try.prog 84 #[.pointer (some ⟨g, 0, none⟩)] W (RetG u64v (s.bind Cm.rdV) g W) := by
  rw [bind_rst _ rfl]
  have c0 := h.c0
  have hlen := h.len
  have hcall := ReadV_any ⟨(rst s).toArray⟩ W (by rw [Lib.size_eq]; simp only; omega)
  simp only [] at hcall
  obtain ⟨t, ht⟩ : ∃ t : ByteArray, t = ⟨(rst s).toArray⟩ := ⟨_, rfl⟩
  rw [← ht] at c0 hcall
  unfold Cm.rdV
  rcases hr : Nm.readV (rst s) with _ | ⟨n, k⟩
  · rw [hr, rv] at hcall
    have Hc := Lib.hid hcall
    have HT := Lib.hid (rrTake_no W g s 0 h)
    clear h hr ht hlen hcall
    go_enter Try.func84, Try.ntmps84
    go_wp2_with fail
    refine Hc.out.mono ?_
    rintro e w1 ⟨rfl, rfl⟩
    go_wp2_with fail
    refine HT.out.mono ?_
    rintro e w2 ⟨rfl, h1, h2⟩
    go_wp2_with fail
    go_ret
    exact ⟨0, none, rfl, h1, rfl, h2⟩
  · rw [hr, rv] at hcall
    have hk := (Nm.readV_le hr).2.2.1
    have hk1 := (Nm.readV_le hr).2.1
    have Hc := Lib.hid hcall
    have hsome : s = some (rst s) := rst_some (fun e => by rw [e] at hk; simp at hk; omega)
    have HT := Lib.hid (rrTake_yes W g (rst s) k (by rw [← hsome]; exact h) hk)
    clear h hr ht hlen hcall hk hk1 hsome
    go_enter Try.func84, Try.ntmps84
    go_wp2_with fail
    refine Hc.out.mono ?_
    rintro e w1 ⟨rfl, rfl⟩
    go_wp2_with fail
    refine HT.out.mono ?_
    rintro e w2 ⟨rfl, h1, h2⟩
    go_wp2_with fail
    go_ret
    exact ⟨n, _, rfl, h1, ⟨rfl, rfl⟩, h2⟩
set_option maxRecDepth 100000 in
set_option maxHeartbeats 1000000 in
theorem rrText_any (W : World) (g : Nat) (s : RSt) (h : RrAt W g s) :
    Calls Try.prog 87 #[.pointer (some ⟨g, 0, none⟩)] W (fun e w' => RetG (fun x => .string x) (s.bind Cm.rdS) g W e w' ∧ ∃ x, x.size ≤ 100000000 ∧ e = .returned (.string x) ∧ (s.bind Cm.rdS = none → x = Cm.e0)) := by
  rw [bind_rst _ rfl]
  have c0 := h.c0
  have hlen := h.len
  have hcall := ReadS_any ⟨(rst s).toArray⟩ W (by rw [Lib.size_eq]; simp only; omega)
  simp only [] at hcall
  obtain ⟨t, ht⟩ : ∃ t : ByteArray, t = ⟨(rst s).toArray⟩ := ⟨_, rfl⟩
  rw [← ht] at c0 hcall
  unfold Cm.rdS
  have H := Lib.hid h
  rcases hr : Nm.readS (rst s) with _ | ⟨x, k⟩
  · rw [hr, rs] at hcall
    have Hc := Lib.hid hcall
    have HT : Hid (∀ w1, Below W.heap.size W w1 → _) := Lib.hid fun w1 hb => rrTake_no w1 g s 0 (H.out.bel hb)
    clear h hr ht hlen hcall
    go_enter Try.func87, Try.ntmps87
    go_wp2_with fail
    refine Hc.out.mono ?_
    rintro e w1 ⟨rfl, hb1⟩
    have HB1 := Lib.hid hb1
    clear hb1
    go_wp2_with fail
    refine (HT.out w1 HB1.out).mono ?_
    rintro e w2 ⟨rfl, h1, h2⟩
    go_wp2_with fail
    go_ret
    exact ⟨⟨Cm.e0, none, rfl, h1, rfl, ((Kp.refl _ _).bel HB1.out).trans h2⟩, Cm.e0, by decide, rfl, fun _ => rfl⟩
  · rw [hr, rs] at hcall
    obtain ⟨hx1, hx2, hx3⟩ := Cm.readS_some hr
    have hx4 := congrArg List.length hx2
    rw [List.length_append] at hx4
    have hk : k ≤ (rst s).length := by omega
    have hxl : x.length ≤ 100000000 := by
      have : (row x).length = (Nm.grp x.length).length + x.length := by unfold row; rw [List.length_append]
      omega
    have Hc := Lib.hid hcall
    have hsome : s = some (rst s) := rst_some (fun e => by
      have : (row x).length ≠ 0 := by
        unfold row
        rw [List.length_append, Nm.grp_length]; omega
      rw [e] at hx4; simp at hx4; omega)
    have HT : Hid (∀ w1, Below W.heap.size W w1 → _) := Lib.hid fun w1 hb => rrTake_yes w1 g (rst s) k (by rw [← hsome]; exact H.out.bel hb) hk
    have Hxl := Lib.hid hxl
    clear h hr ht hlen hcall hk hsome hx1 hx2 hx3 hx4 hxl
    go_enter Try.func87, Try.ntmps87
    go_wp2_with fail
    refine Hc.out.mono ?_
    rintro e w1 ⟨rfl, hb1⟩
    have HB1 := Lib.hid hb1
    clear hb1
    go_wp2_with fail
    refine (HT.out w1 HB1.out).mono ?_
    rintro e w2 ⟨rfl, h1, h2⟩
    go_wp2_with fail
    go_ret
    exact ⟨⟨⟨x.toArray⟩, _, rfl, h1, ⟨rfl, rfl⟩, ((Kp.refl _ _).bel HB1.out).trans h2⟩, ⟨x.toArray⟩, by rw [Lib.size_eq]; exact Hxl.out, rfl, fun h => by cases h⟩
end Go.Proofs.Ytpdahbfjbgcmgaa
namespace Go.Proofs.Ytpdahbfjbgcmgaa
open Go.RowKit
theorem truth_got {s : RSt} {n : Nat} {t : RSt} (h : Got (s.bind Cm.rdB) n t) : (n ≤ 1 → Got (s.bind Mg.rdT) (n == 1) t) ∧ (¬ n ≤ 1 → ∀ b, Got (s.bind Mg.rdT) b none) := by
  rw [bind_rst _ rfl] at h ⊢
  unfold Mg.rdT
  rcases hr : Cm.rdB (rst s) with _ | ⟨m, l⟩
  · rw [hr] at h
    exact ⟨fun _ => h, fun _ _ => rfl⟩
  · rw [hr] at h
    obtain ⟨rfl, rfl⟩ := h
    refine ⟨fun h1 => ?_, fun h1 b => ?_⟩
    · show Got (if n ≤ 1 then some (n == 1, l) else none) _ _
      rw [if_pos h1]; exact ⟨rfl, rfl⟩
    · show Got (if n ≤ 1 then some (n == 1, l) else none) _ _
      rw [if_neg h1]; rfl
def boolv (b : Bool) : Value := .bool b
set_option maxRecDepth 100000 in
set_option maxHeartbeats 1000000 in
theorem rrTruth_any (W : World) (g : Nat) (s : RSt) (h : RrAt W g s) :
    Calls Try.prog 85 #[.pointer (some ⟨g, 0, none⟩)] W (RetG boolv (s.bind Mg.rdT) g W) := by
  have HO := Lib.hid (rrOctet_any W g s h)
  unfold RetG u8v at HO
  clear h
  go_enter Try.func85, Try.ntmps85
  go_wp2_with fail
  refine HO.out.mono ?_
  rintro e w1 ⟨⟨n, t, rfl, hR, hG, hK⟩, _⟩
  have hT := truth_got hG
  have HR := Lib.hid (And.intro hR hK)
  clear hR hK hG HO
  by_cases hn : n ≤ 1
  · have d1 : decide ((1 : Int) < (n : Int)) = false := by simp; omega
    have d2 : decide (1 < n) = false := by simp; omega
    have d3 : ((1 : Int) < (n : Int)) = False := by simp; omega
    have hb : ((n : Int) == 1) = (n == 1) := by rw [Bool.eq_iff_iff, beq_iff_eq, beq_iff_eq]; omega
    have HT := Lib.hid (hT.1 hn)
    clear hT hn
    go_wp2_with fail
    go_ret
    exact ⟨(n == 1), t, by first | rfl | (unfold boolv; rw [← hb]; rfl), HR.out.1, HT.out, HR.out.2⟩
  · have d1 : decide ((1 : Int) < (n : Int)) = true := by simp; omega
    have d2 : decide (1 < n) = true := by simp; omega
    have d3 : ((1 : Int) < (n : Int)) = True := by simp; omega
    have hb : ((n : Int) == 1) = (n == 1) := by rw [Bool.eq_iff_iff, beq_iff_eq, beq_iff_eq]; omega
    have HT := Lib.hid (hT.2 hn)
    have HF := Lib.hid (rrFail_any w1 g t HR.out.1)
    clear hT hn
    go_wp2_with fail
    refine HF.out.mono ?_
    rintro e w2 ⟨rfl, h1, h2⟩
    go_wp2_with fail
    go_ret
    exact ⟨(n == 1), none, by first | rfl | (unfold boolv; rw [← hb]; rfl), h1, HT.out _, HR.out.2.trans h2⟩
theorem entry_got {s : RSt} {x : ByteArray} {t : RSt} (h : Got (s.bind Cm.rdS) x t) (h0 : s.bind Cm.rdS = none → x = Cm.e0) :
    (∀ e, En.read x.data.toList = some e → Got (s.bind Mg.rd1E) e t) ∧ (En.read x.data.toList = none → ∀ e, Got (s.bind Mg.rd1E) e none) := by
  rw [bind_rst _ rfl] at h h0 ⊢
  unfold Mg.rd1E
  rcases hr : Cm.rdS (rst s) with _ | ⟨y, l⟩
  · rw [hr] at h
    have hx := h0 hr
    subst hx
    refine ⟨fun e he => ?_, fun _ _ => rfl⟩
    have : En.read Cm.e0.data.toList = none := rfl
    rw [this] at he; cases he
  · rw [hr] at h
    obtain ⟨rfl, rfl⟩ := h
    refine ⟨fun e he => ?_, fun he e => ?_⟩
    · show Got ((En.read x.data.toList).bind fun e => some (e, l)) _ _
      rw [he]; exact ⟨rfl, rfl⟩
    · show Got ((En.read x.data.toList).bind fun e => some (e, l)) _ _
      rw [he]; rfl
/-- What a reader's entry answers. -/
def RetE (o : Option (En.E × List UInt8)) (g : Nat) (w : World) (e : Ending) (w' : World) : Prop :=
  ∃ v t, e = .returned (.agg (entC v)) ∧ En.Fits v ∧ RrAt w' g t ∧ Got o v t ∧ Kp g w w'
theorem Kp.alloc {g : Nat} {a b : World} (h : Kp g a b) (x : Obj) : Kp g a (b.alloc x) := h.bel (bnew (Below.refl _ _) _)
theorem RrAt.alloc {W : World} {g : Nat} {s : RSt} (h : RrAt W g s) (x : Obj) : RrAt (W.alloc x) g s := h.bel (bnew (Below.refl _ _) _)
theorem Kp.set {g : Nat} {a b : World} (h : Kp g a b) (k : Nat) (hk : a.heap.size ≤ k) (i : Nat) (v : Value) : Kp g a (b.setCell ⟨k, i, none⟩ v) :=
  ⟨h.os, h.tape, h.output, by simpa using h.size, fun j hj hg => (Below.heap_setCell _ _ _ _ (by simp; omega)).trans (h.block j hj hg)⟩
theorem RrAt.set {W : World} {g : Nat} {s : RSt} (h : RrAt W g s) (k i : Nat) (v : Value) (hk : k ≠ g) : RrAt (W.setCell ⟨k, i, none⟩ v) g s :=
  ⟨(Below.heap_setCell _ _ _ _ (by simp; omega)).trans h.row, h.len⟩
theorem RrAt.kp {W W' : World} {g k : Nat} {s : RSt} (h : RrAt W g s) (hk : Kp k W W') (hg : g ≠ k) : RrAt W' g s := ⟨(hk.block g h.lt hg).trans h.row, h.len⟩
set_option maxRecDepth 100000 in
set_option maxHeartbeats 4000000 in
theorem rrEntry_any (W : World) (g : Nat) (s : RSt) (h : RrAt W g s) :
    Calls Try.prog 115 #[.pointer (some ⟨g, 0, none⟩)] W (RetE (s.bind Mg.rd1E) g W) := by
  have hlt := h.lt
  have HO : Hid (∀ o, Calls Try.prog 87 #[.pointer (some ⟨g, 0, none⟩)] (W.alloc o) _) := Lib.hid (fun o => rrText_any (W.alloc o) g s (h.alloc o))
  unfold RetG at HO
  clear h
  go_enter Try.func115, Try.ntmps115
  go_wp2_with fail
  refine (HO.out _).mono ?_
  rintro r w1 ⟨⟨x, t, rfl, hR, hG, hK⟩, x', hz, hx', h0⟩
  obtain rfl : x = x' := by simpa using hx'
  have hrow : w1.heap[W.heap.size]? = some (.cells (entC En.zero) 65 (0, 0)) := hK.row (by omega) (heap_alloc_new W _)
  have hT := entry_got hG h0
  have hKW : Kp g W w1 := ((Kp.refl g W).alloc _).trans hK
  have hrd := enRead_any x w1 hz
  have HR := Lib.hid (And.intro hR (And.intro hKW (And.intro hrow hlt)))
  clear hR hK hG HO h0 hx' hrow hKW hz
  rcases hre : En.read x.data.toList with _ | e
  · rw [hre] at hrd
    have Hrd := Lib.hid hrd
    have HT := Lib.hid (hT.2 hre)
    have hps := storeEnt (entC En.zero) rfl (entF _).one
    clear hT hrd hre
    go_wp2_with fail
    refine Hrd.out.mono ?_
    rintro r w2 ⟨rfl, hb2⟩
    obtain ⟨C, hC⟩ : ∃ C, C = entC En.zero := ⟨_, rfl⟩
    have hzz : (reV none : Value) = .tuple #[.agg C, .bool false] := by rw [hC]; rfl
    have FC := entF En.zero
    rw [← hC] at hps FC
    rw [hzz]
    have hsz := FC.size
    have HC := Lib.hid hC
    have HF : Hid (∀ o, Calls Try.prog 114 #[.pointer (some ⟨g, 0, none⟩)] (w2.alloc o) _) := Lib.hid (fun o => rrFail_any (w2.alloc o) g t ((HR.out.1.bel hb2).alloc o))
    have HB2 := Lib.hid hb2
    clear hC hb2 hzz FC
    go_wp2_with fail
    refine (HF.out _).mono ?_
    rintro r w3 ⟨rfl, h1, h2⟩
    have hC3 : w3.heap[w2.heap.size]? = some (.cells (entC En.zero) 65 (0, 0)) := by
      rw [← HC.out]
      exact h2.row (by have := HR.out.1.lt; have := HB2.out.size; omega) (heap_alloc_new w2 _)
    have hK3 : Kp g W w3 := ((HR.out.2.1.bel HB2.out).alloc _).trans h2
    have hr3 : w3.heap[W.heap.size]? = some (.cells (entC En.zero) 65 (0, 0)) := h2.row (by omega) ((Below.heap_alloc _ _ _ (Nat.lt_of_lt_of_le (Array.getElem?_eq_some_iff.1 HR.out.2.2.1).1 HB2.out.size)).trans ((HB2.out.block _ (Array.getElem?_eq_some_iff.1 HR.out.2.2.1).1).trans HR.out.2.2.1))
    obtain ⟨q0, q1, q2, q3, q4, q5, q6, q7, q8, q9, q10, q11, q12, _⟩ := entAt hC3
    obtain ⟨p0, p1, p2, p3, p4, p5, p6, p7, p8, p9, p10, p11, p12, pz⟩ := entAt hr3
    have z0 := pz 0
    have z1 := pz 1
    have z2 := pz 2
    have z3 := pz 3
    have z4 := pz 4
    have z5 := pz 5
    have z6 := pz 6
    have z7 := pz 7
    have z8 := pz 8
    have z9 := pz 9
    have z10 := pz 10
    have z11 := pz 11
    have z12 := pz 12
    have H3 := Lib.hid (And.intro h1 (And.intro hK3 hr3))
    clear h1 h2 hK3 hr3 hC3 pz
    go_wp2_with fail
    refine bodyPost_ret (results_cell_row (P := Try.prog) (fn := Try.f115) rfl _ _ W.heap.size 65 (entC En.zero) (0, 0) _ rfl (entPut (e := En.zero) H3.out.2.2) Try.underlying65 rfl sizeEnt) rfl ?_
    exact ⟨En.zero, none, rfl, En.zero_fits, ((((((((((((H3.out.1.set _ 0 _ (by omega)).set _ 1 _ (by omega)).set _ 2 _ (by omega)).set _ 3 _ (by omega)).set _ 4 _ (by omega)).set _ 5 _ (by omega)).set _ 6 _ (by omega)).set _ 7 _ (by omega)).set _ 8 _ (by omega)).set _ 9 _ (by omega)).set _ 10 _ (by omega)).set _ 11 _ (by omega)).set _ 12 _ (by omega), HT.out _, ((((((((((((H3.out.2.1.set _ (by omega) 0 _).set _ (by omega) 1 _).set _ (by omega) 2 _).set _ (by omega) 3 _).set _ (by omega) 4 _).set _ (by omega) 5 _).set _ (by omega) 6 _).set _ (by omega) 7 _).set _ (by omega) 8 _).set _ (by omega) 9 _).set _ (by omega) 10 _).set _ (by omega) 11 _).set _ (by omega) 12 _⟩
  · rw [hre] at hrd
    have hfit := ((En.read_iff _ _).1 hre).1.1
    have Hrd := Lib.hid hrd
    have HT := Lib.hid (hT.1 e hre)
    have hps := storeEnt (entC e) rfl (entF _).one
    have Hfit := Lib.hid hfit
    clear hT hrd hre hfit
    go_wp2_with fail
    refine Hrd.out.mono ?_
    rintro r w2 ⟨rfl, hb2⟩
    obtain ⟨C, hC⟩ : ∃ C, C = entC e := ⟨_, rfl⟩
    have hzz : (reV (some e) : Value) = .tuple #[.agg C, .bool true] := by rw [hC]; rfl
    have FC := entF e
    rw [← hC] at hps FC
    rw [hzz]
    have hsz := FC.size
    have HC := Lib.hid hC
    have HB2 := Lib.hid hb2
    clear hC hb2 hzz FC
    go_upto_region 4 with (fail)
    refine forget (fun W3 => RrAt W3 g t ∧ Kp g W W3 ∧ W3.heap[w2.heap.size]? = some (.cells (entC e) 65 (0, 0)) ∧ W3.heap[W.heap.size]? = some (.cells (entC En.zero) 65 (0, 0))) ?_ ?_
    · have hl := (Array.getElem?_eq_some_iff.1 HR.out.2.2.1).1
      exact ⟨(HR.out.1.bel HB2.out).alloc _, (HR.out.2.1.bel HB2.out).alloc _, by rw [← HC.out]; exact heap_alloc_new w2 _, (Below.heap_alloc _ _ _ (Nat.lt_of_lt_of_le hl HB2.out.size)).trans ((HB2.out.block _ hl).trans HR.out.2.2.1)⟩
    rintro w3 ⟨h1, hK3, hC3, hr3⟩
    obtain ⟨q0, q1, q2, q3, q4, q5, q6, q7, q8, q9, q10, q11, q12, _⟩ := entAt hC3
    obtain ⟨p0, p1, p2, p3, p4, p5, p6, p7, p8, p9, p10, p11, p12, pz⟩ := entAt hr3
    have z0 := pz 0
    have z1 := pz 1
    have z2 := pz 2
    have z3 := pz 3
    have z4 := pz 4
    have z5 := pz 5
    have z6 := pz 6
    have z7 := pz 7
    have z8 := pz 8
    have z9 := pz 9
    have z10 := pz 10
    have z11 := pz 11
    have z12 := pz 12
    have H3 := Lib.hid (And.intro h1 (And.intro hK3 hr3))
    clear h1 hK3 hr3 hC3 pz
    go_wp2_with fail
    refine bodyPost_ret (results_cell_row (P := Try.prog) (fn := Try.f115) rfl _ _ W.heap.size 65 (entC e) (0, 0) _ rfl (entPut (e := e) H3.out.2.2) Try.underlying65 rfl sizeEnt) rfl ?_
    exact ⟨e, t, rfl, Hfit.out, ((((((((((((H3.out.1.set _ 0 _ (by omega)).set _ 1 _ (by omega)).set _ 2 _ (by omega)).set _ 3 _ (by omega)).set _ 4 _ (by omega)).set _ 5 _ (by omega)).set _ 6 _ (by omega)).set _ 7 _ (by omega)).set _ 8 _ (by omega)).set _ 9 _ (by omega)).set _ 10 _ (by omega)).set _ 11 _ (by omega)).set _ 12 _ (by omega), HT.out, ((((((((((((H3.out.2.1.set _ (by omega) 0 _).set _ (by omega) 1 _).set _ (by omega) 2 _).set _ (by omega) 3 _).set _ (by omega) 4 _).set _ (by omega) 5 _).set _ (by omega) 6 _).set _ (by omega) 7 _).set _ (by omega) 8 _).set _ (by omega) 9 _).set _ (by omega) 10 _).set _ (by omega) 11 _).set _ (by omega) 12 _⟩
end Go.Proofs.Ytpdahbfjbgcmgaa
namespace Go.Proofs.Ytpdahbfjbgcmgaa
open Go.RowKit
theorem Try.infoEnt : (Try.prog.info? 65).map (fun i => (i.zero, i.size, i.bytes)) = some (some (.agg (entC En.zero)), 13, 48) := by kernel_rfl
theorem ec_append (a b : List En.E) : ec (a ++ b) = ec a ++ ec b := by unfold ec; rw [List.map_append, List.flatten_append]
theorem ec_set (fs : List En.E) (k : Nat) (hk : k < fs.length) (e : En.E) : (ec fs).take (k * 13) ++ ec1 e ++ (ec fs).drop (k * 13 + 13) = ec (fs.set k e) := by
  have h1 : fs = fs.take k ++ fs[k] :: fs.drop (k + 1) := by rw [List.getElem_cons_drop, List.take_append_drop]
  have h2 : ec fs = ec (fs.take k) ++ (ec1 fs[k] ++ ec (fs.drop (k + 1))) := by
    conv => lhs; rw [h1]
    rw [ec_append]; rfl
  have hl : (ec (fs.take k)).length = k * 13 := by rw [ec_length, List.length_take]; omega
  rw [h2, List.take_left' hl, ← List.append_assoc (ec (fs.take k)), List.drop_left' (by rw [List.length_append, hl, ec1_length]), List.set_eq_take_append_cons_drop, if_pos hk, ec_append]
  show _ = ec (fs.take k) ++ (ec1 e ++ ec (fs.drop (k + 1)))
  rw [List.append_assoc]
theorem ec_one (es : List En.E) : ∀ v ∈ ec es, v.oneCell' = true := by
  intro v hv
  unfold ec at hv
  obtain ⟨l, hl, hv⟩ := List.mem_flatten.1 hv
  obtain ⟨e, _, rfl⟩ := List.mem_map.1 hl
  have := (entF e).one
  rw [Array.all_eq_true_iff_forall_mem] at this
  exact this v (Array.mem_def.2 hv)
theorem ec1_one (e : En.E) : ∀ v ∈ ec1 e, v.oneCell' = true := fun v hv => ec_one [e] v (by simpa [ec] using hv)
/-- An entry stored at its place in a row of entries. -/
theorem storeAtE (W : World) (q k : Nat) (fs : List En.E) (e : En.E) (hr : W.heap[q]? = some (.cells (ec fs).toArray 65 (0, 0))) (hk : k < fs.length) :
    (storeCells ⟨q, k * 13, none⟩ (ec1 e) 0).run Try.prog W = .ok () (W.setRow q (ec (fs.set k e)).toArray) := by
  have := run_storeCells_at Try.prog q (k * 13) 65 (ec1 e) 0 (ec fs).toArray W hr (by
    have := ec_length fs
    rw [ec1_length]; simp; omega) (ec1_one e)
  rw [this]
  rw [ec1_length, Nat.add_zero, show (ec fs).toArray.toList = ec fs from rfl, ec_set fs k hk e]
theorem made_ec (n : Nat) : madeCells (entC En.zero) (n * 13) = (ec (List.replicate n En.zero)).toArray := by
  apply Array.ext
  · rw [size_madeCells]; simp [ec_length]; omega
  · intro j h1 h2
    rw [size_madeCells] at h1
    have hq : j / 13 < (List.replicate n En.zero).length := by rw [List.length_replicate]; omega
    have h3 := ec_at (List.replicate n En.zero) (j / 13) hq (j % 13) (by omega)
    rw [Nat.div_add_mod j 13, List.getElem_replicate] at h3
    have h4 : (ec (List.replicate n En.zero)).toArray[j]? = (ec1 En.zero)[j % 13]? := by simpa using h3
    rw [Array.getElem?_eq_getElem h2] at h4
    have h5 : (madeCells (entC En.zero) (n * 13))[j]'(by rw [size_madeCells]; exact h1) = (entC En.zero)[j % 13]! := by
      simp only [madeCells, Array.getElem_map, Array.getElem_range]; rfl
    rw [h5]
    have hj : j % 13 < (ec1 En.zero).length := by rw [ec1_length]; omega
    rw [List.getElem?_eq_getElem hj] at h4
    injection h4 with h4
    have h6 : (entC En.zero)[j % 13]! = (entC En.zero)[j % 13]'(show j % 13 < 13 by omega) := getElem!_pos (entC En.zero) (j % 13) (show j % 13 < 13 by omega)
    rw [h4, h6]
    rfl
theorem rdE_snoc : ∀ (n : Nat) (l : List UInt8), Mg.rdE (n + 1) l = (Mg.rdE n l).bind fun (es, l) => (Mg.rd1E l).bind fun (e, l) => some (es ++ [e], l)
  | 0, l => by
    rw [Mg.rdE]
    simp only [Mg.rdE, Option.bind_some]
    cases Mg.rd1E l with
    | none => rfl
    | some p => rfl
  | n + 1, l => by
    rw [Mg.rdE]
    conv => rhs; rw [Mg.rdE]
    cases Mg.rd1E l with
    | none => rfl
    | some p =>
      simp only [Option.bind_some]
      rw [rdE_snoc n p.2]
      cases Mg.rdE n p.2 with
      | none => rfl
      | some q =>
        simp only [Option.bind_some]
        cases Mg.rd1E q.2 with
        | none => rfl
        | some r => rfl
theorem got_snoc {s t t2 : RSt} {k : Nat} {es : List En.E} {e : En.E} (h : Got (s.bind (Mg.rdE k)) es t) (h2 : Got (t.bind Mg.rd1E) e t2) : Got (s.bind (Mg.rdE (k + 1))) (es ++ [e]) t2 := by
  cases s with
  | none =>
    have : t = none := h
    subst this; exact h2
  | some l =>
    show Got (Mg.rdE (k + 1) l) _ _
    rw [rdE_snoc]
    replace h : Got (Mg.rdE k l) es t := h
    rcases hr : Mg.rdE k l with _ | ⟨xs, r⟩
    · rw [hr] at h
      have : t = none := h
      subst this; exact h2
    · rw [hr] at h
      obtain ⟨rfl, rfl⟩ := h
      replace h2 : Got (Mg.rd1E r) e t2 := h2
      simp only [Option.bind_some]
      rcases hr2 : Mg.rd1E r with _ | ⟨y, r2⟩
      · rw [hr2] at h2; exact h2
      · rw [hr2] at h2
        obtain ⟨rfl, rfl⟩ := h2
        exact ⟨rfl, rfl⟩
theorem got_ents {s s1 t : RSt} {n : Nat} {es : List En.E} (h : Got (s.bind Cm.rdB) n s1) (h2 : Got (s1.bind (Mg.rdE n)) es t) : Got (s.bind Mg.rdEs) es t := by
  rw [bind_rst _ rfl] at h ⊢
  unfold Mg.rdEs
  rcases hr : Cm.rdB (rst s) with _ | ⟨m, l⟩
  · rw [hr] at h
    have : s1 = none := h
    subst this; exact h2
  · rw [hr] at h
    obtain ⟨rfl, rfl⟩ := h
    exact h2
theorem RrAt.setRow {W : World} {g : Nat} {s : RSt} (h : RrAt W g s) (q : Nat) (cs : Array Value) (hq : q ≠ g) : RrAt (W.setRow q cs) g s := ⟨(setRow_other _ _ _ _ (by omega)).trans h.row, h.len⟩
theorem Kp.setRow {g : Nat} {a b : World} (h : Kp g a b) (q : Nat) (hq : a.heap.size ≤ q) (cs : Array Value) : Kp g a (b.setRow q cs) :=
  ⟨h.os, h.tape, h.output, by simpa using h.size, fun k hk hg => (setRow_other _ _ _ _ (by omega)).trans (h.block k hk hg)⟩
theorem set_rep (es : List En.E) (m : Nat) (e : En.E) : (es ++ List.replicate (m + 1) En.zero).set es.length e = es ++ e :: List.replicate m En.zero := by
  rw [List.set_append_right _ _ (Nat.le_refl _), Nat.sub_self, List.replicate_succ]; rfl
/-- What a reader's entries answer. -/
def RetEs (o : Option (List En.E × List UInt8)) (g : Nat) (w : World) (e : Ending) (w' : World) : Prop :=
  ∃ es q t, e = .returned (.slice (some ⟨q, 0, none⟩) es.length es.length) ∧ w.heap.size ≤ q ∧ w'.heap[q]? = some (.cells (ec es).toArray 65 (0, 0)) ∧ es.length < 256 ∧ (∀ e ∈ es, En.Fits e) ∧ RrAt w' g t ∧ Got o es t ∧ Kp g w w'
set_option maxRecDepth 100000 in
set_option maxHeartbeats 4000000 in
theorem rrEntries_any (W : World) (g : Nat) (s : RSt) (h : RrAt W g s) :
    Calls Try.prog 86 #[.pointer (some ⟨g, 0, none⟩)] W (RetEs (s.bind Mg.rdEs) g W) := by
  have HO := Lib.hid (rrOctet_any W g s h)
  unfold RetG u8v at HO
  have hlt := h.lt
  obtain ⟨i0, hi, hz0, hz1, hz2⟩ := info_parts Try.infoEnt
  clear h
  go_enter Try.func86, Try.ntmps86
  go_wp2_with fail
  refine HO.out.mono ?_
  rintro r w1 ⟨⟨n, s1, rfl, hR, hG, hK⟩, n', hn, hn'⟩
  obtain rfl : n = n' := by
    injection hn' with h1
    injection h1 with _ h2
    omega
  have hmk : (Instr.makeSlice 61 (.int .u8 (n : Int)) (.int .u8 (n : Int))).run Try.prog w1 = .ok (.slice (some ⟨w1.heap.size, 0, none⟩) n n) (w1.alloc (.cells (ec (List.replicate n En.zero)).toArray 65)) := by
    have := run_make (P := Try.prog) w1 61 65 i0 _ Try.underlying61 hi hz0 .u8 .u8 (n : Int) (n : Int) (by omega) (by omega) (by rw [hz2]; omega) (by omega)
    rw [hz1] at this
    simp only [Int.toNat_natCast, Value.cells] at this
    rw [this, ← made_ec]
  have HG := Lib.hid (And.intro hR (And.intro hK hG))
  have HN := Lib.hid hn
  clear hR hK hG hn' hn HO hi hz0 hz1 hz2
  go_wp2_with fail
  have h1 : RrAt (w1.alloc (.cells (ec (List.replicate n En.zero)).toArray 65)) g s1 := HG.out.1.alloc _
  have h2 : Kp g W (w1.alloc (.cells (ec (List.replicate n En.zero)).toArray 65)) := HG.out.2.1.alloc _
  have h3 := heap_alloc_new w1 (.cells (ec (List.replicate n En.zero)).toArray 65)
  have h4 := HG.out.2.1.size
  generalize w1.alloc (.cells (ec (List.replicate n En.zero)).toArray 65) = w2 at *
  obtain ⟨q, hq⟩ : ∃ q, q = w1.heap.size := ⟨_, rfl⟩
  rw [← hq] at h3 h4 ⊢
  have H0 := Lib.hid (And.intro h1 (And.intro h2 h3))
  clear h1 h2 h3 hq hmk
  have hqg : q ≠ g := by omega
  go_loopw [10] (fun i wr => ∃ (k : Nat) (es : List En.E) (t : RSt), k ≤ n ∧ i = .int .i64 (k : Int) ∧ es.length = k ∧ (∀ e ∈ es, En.Fits e) ∧ RrAt wr g t ∧ Kp g W wr ∧ wr.heap[q]? = some (.cells (ec (es ++ List.replicate (n - k) En.zero)).toArray 65 (0, 0)) ∧ Got (s1.bind (Mg.rdE k)) es t) (fun i _ => n - (intOf i).toNat)
  case atStart => exact ⟨0, [], s1, Nat.zero_le _, rfl, rfl, fun e he => (by cases he), H0.out.1, H0.out.2.1, H0.out.2.2, by cases s1 <;> simp [Got, Mg.rdE]⟩
  case round =>
    obtain ⟨k, es, t, hk, rfl, hl, hfit, hR, hK, hrow, hg⟩ := hrel
    have hn256 := HN.out
    by_cases hlt2 : k < n
    · have HE := Lib.hid (rrEntry_any wr g t hR)
      unfold RetE at HE
      have HH := Lib.hid (And.intro hl (And.intro hfit (And.intro hR (And.intro hK (And.intro hrow hg)))))
      clear hl hfit hR hK hrow hg
      go_wp2_with fail
      refine HE.out.mono ?_
      rintro r w3 ⟨e, t2, rfl, hf3, hR3, hG3, hK3⟩
      have hr3 := hK3.row hqg HH.out.2.2.2.2.1
      obtain ⟨m, hm⟩ : ∃ m, n - k = m + 1 := ⟨n - k - 1, by omega⟩
      have hst := storeAtE w3 q k _ e hr3 (by rw [List.length_append, HH.out.1, List.length_replicate]; omega)
      rw [hm] at hr3 hst
      have hsr := set_rep es m e
      rw [HH.out.1] at hsr
      rw [hsr] at hst
      have hrow4 := setRow_heap w3 q _ (ec (es ++ e :: List.replicate m En.zero)).toArray 65 (0, 0) hr3
      have hsz := (entF e).size
      obtain ⟨C, hC⟩ : ∃ C, C = entC e := ⟨_, rfl⟩
      rw [← ec1_toList, ← hC] at hst
      rw [← hC] at hsz ⊢
      have H4 := Lib.hid (And.intro hrow4 (And.intro hf3 (And.intro hR3 (And.intro hG3 (And.intro hK3 hm)))))
      clear hrow4 hf3 hR3 hG3 hK3 hm hr3 hsr hC
      go_wp2_with fail
      go_roundw
      case rel =>
        obtain ⟨a1, a2, a3, a4, a5, a6⟩ := HH.out
        obtain ⟨b1, b2, b3, b4, b5, b6⟩ := H4.out
        refine ⟨k + 1, es ++ [e], t2, by omega, by go_num, by rw [List.length_append, a1]; rfl, fun x hx => ?_, b3.setRow q _ hqg, (a4.trans b5).setRow q (by omega) _, ?_, got_snoc a6 b4⟩
        · rcases List.mem_append.1 hx with hx | hx
          · exact a2 x hx
          · rw [List.mem_singleton.1 hx]; exact b2
        · rw [show n - (k + 1) = m by omega, List.append_assoc]; exact b1
      case measure => simp [intOf]; omega
    · obtain rfl : k = n := by omega
      have HH := Lib.hid (And.intro hl (And.intro hfit (And.intro hR (And.intro hK (And.intro hrow hg)))))
      clear hl hfit hR hK hrow hg
      go_wp2_with fail
      go_ret
      obtain ⟨a1, a2, a3, a4, a5, a6⟩ := HH.out
      rw [Nat.sub_self, List.replicate_zero, List.append_nil] at a5
      exact ⟨es, q, t, by rw [a1]; rfl, by omega, a5, by omega, a2, a3, got_ents HG.out.2.2 a6, a4⟩
end Go.Proofs.Ytpdahbfjbgcmgaa
namespace Go.Proofs.Ytpdahbfjbgcmgaa
open Go.RowKit
set_option maxHeartbeats 2000000 in
theorem got_parse {l0 : List UInt8} {v1 : Nat} {v2 : Nat} {v3 : Nat} {v4 : Nat} {v5 : Nat} {v6 : Nat} {v7 : Nat} {v8 : Nat} {v9 : Bool} {v10 : Nat} {v11 : Nat} {v12 : List En.E} {v13 : ByteArray} {s1 s2 s3 s4 s5 s6 s7 s8 s9 s10 s11 s12 s13 : RSt}
    (G1 : Got (Cm.rdB l0) v1 s1) (G2 : Got (s1.bind Cm.rdB) v2 s2) (G3 : Got (s2.bind Cm.rdB) v3 s3) (G4 : Got (s3.bind Cm.rdV) v4 s4) (G5 : Got (s4.bind Cm.rdV) v5 s5) (G6 : Got (s5.bind Cm.rdV) v6 s6) (G7 : Got (s6.bind Cm.rdV) v7 s7) (G8 : Got (s7.bind Cm.rdV) v8 s8) (G9 : Got (s8.bind Mg.rdT) v9 s9) (G10 : Got (s9.bind Cm.rdB) v10 s10) (G11 : Got (s10.bind Cm.rdB) v11 s11) (G12 : Got (s11.bind Mg.rdEs) v12 s12) (G13 : Got (s12.bind Cm.rdS) v13 s13) : Got (Mg.parse l0) ⟨v1, v2, v3, v4, v5, v6, v7, v8, v9, v10, v11, v12, v13⟩ s13 := by
  unfold Mg.parse Mg.rd3 Mg.rd5
  rcases h1 : Cm.rdB l0 with _ | ⟨x1, l1⟩
  · rw [h1] at G1
    have e : s1 = none := G1
    subst e
    have e : s2 = none := G2
    subst e
    have e : s3 = none := G3
    subst e
    have e : s4 = none := G4
    subst e
    have e : s5 = none := G5
    subst e
    have e : s6 = none := G6
    subst e
    have e : s7 = none := G7
    subst e
    have e : s8 = none := G8
    subst e
    have e : s9 = none := G9
    subst e
    have e : s10 = none := G10
    subst e
    have e : s11 = none := G11
    subst e
    have e : s12 = none := G12
    subst e
    have e : s13 = none := G13
    simp only [h1, Option.bind_none, Option.bind_some]
    exact e
  rw [h1] at G1
  obtain ⟨rfl, rfl⟩ := G1
  replace G2 : Got (Cm.rdB l1) _ _ := G2
  rcases h2 : Cm.rdB l1 with _ | ⟨x2, l2⟩
  · rw [h2] at G2
    have e : s2 = none := G2
    subst e
    have e : s3 = none := G3
    subst e
    have e : s4 = none := G4
    subst e
    have e : s5 = none := G5
    subst e
    have e : s6 = none := G6
    subst e
    have e : s7 = none := G7
    subst e
    have e : s8 = none := G8
    subst e
    have e : s9 = none := G9
    subst e
    have e : s10 = none := G10
    subst e
    have e : s11 = none := G11
    subst e
    have e : s12 = none := G12
    subst e
    have e : s13 = none := G13
    simp only [h1, h2, Option.bind_none, Option.bind_some]
    exact e
  rw [h2] at G2
  obtain ⟨rfl, rfl⟩ := G2
  replace G3 : Got (Cm.rdB l2) _ _ := G3
  rcases h3 : Cm.rdB l2 with _ | ⟨x3, l3⟩
  · rw [h3] at G3
    have e : s3 = none := G3
    subst e
    have e : s4 = none := G4
    subst e
    have e : s5 = none := G5
    subst e
    have e : s6 = none := G6
    subst e
    have e : s7 = none := G7
    subst e
    have e : s8 = none := G8
    subst e
    have e : s9 = none := G9
    subst e
    have e : s10 = none := G10
    subst e
    have e : s11 = none := G11
    subst e
    have e : s12 = none := G12
    subst e
    have e : s13 = none := G13
    simp only [h1, h2, h3, Option.bind_none, Option.bind_some]
    exact e
  rw [h3] at G3
  obtain ⟨rfl, rfl⟩ := G3
  replace G4 : Got (Cm.rdV l3) _ _ := G4
  rcases h4 : Cm.rdV l3 with _ | ⟨x4, l4⟩
  · rw [h4] at G4
    have e : s4 = none := G4
    subst e
    have e : s5 = none := G5
    subst e
    have e : s6 = none := G6
    subst e
    have e : s7 = none := G7
    subst e
    have e : s8 = none := G8
    subst e
    have e : s9 = none := G9
    subst e
    have e : s10 = none := G10
    subst e
    have e : s11 = none := G11
    subst e
    have e : s12 = none := G12
    subst e
    have e : s13 = none := G13
    simp only [h1, h2, h3, h4, Option.bind_none, Option.bind_some]
    exact e
  rw [h4] at G4
  obtain ⟨rfl, rfl⟩ := G4
  replace G5 : Got (Cm.rdV l4) _ _ := G5
  rcases h5 : Cm.rdV l4 with _ | ⟨x5, l5⟩
  · rw [h5] at G5
    have e : s5 = none := G5
    subst e
    have e : s6 = none := G6
    subst e
    have e : s7 = none := G7
    subst e
    have e : s8 = none := G8
    subst e
    have e : s9 = none := G9
    subst e
    have e : s10 = none := G10
    subst e
    have e : s11 = none := G11
    subst e
    have e : s12 = none := G12
    subst e
    have e : s13 = none := G13
    simp only [h1, h2, h3, h4, h5, Option.bind_none, Option.bind_some]
    exact e
  rw [h5] at G5
  obtain ⟨rfl, rfl⟩ := G5
  replace G6 : Got (Cm.rdV l5) _ _ := G6
  rcases h6 : Cm.rdV l5 with _ | ⟨x6, l6⟩
  · rw [h6] at G6
    have e : s6 = none := G6
    subst e
    have e : s7 = none := G7
    subst e
    have e : s8 = none := G8
    subst e
    have e : s9 = none := G9
    subst e
    have e : s10 = none := G10
    subst e
    have e : s11 = none := G11
    subst e
    have e : s12 = none := G12
    subst e
    have e : s13 = none := G13
    simp only [h1, h2, h3, h4, h5, h6, Option.bind_none, Option.bind_some]
    exact e
  rw [h6] at G6
  obtain ⟨rfl, rfl⟩ := G6
  replace G7 : Got (Cm.rdV l6) _ _ := G7
  rcases h7 : Cm.rdV l6 with _ | ⟨x7, l7⟩
  · rw [h7] at G7
    have e : s7 = none := G7
    subst e
    have e : s8 = none := G8
    subst e
    have e : s9 = none := G9
    subst e
    have e : s10 = none := G10
    subst e
    have e : s11 = none := G11
    subst e
    have e : s12 = none := G12
    subst e
    have e : s13 = none := G13
    simp only [h1, h2, h3, h4, h5, h6, h7, Option.bind_none, Option.bind_some]
    exact e
  rw [h7] at G7
  obtain ⟨rfl, rfl⟩ := G7
  replace G8 : Got (Cm.rdV l7) _ _ := G8
  rcases h8 : Cm.rdV l7 with _ | ⟨x8, l8⟩
  · rw [h8] at G8
    have e : s8 = none := G8
    subst e
    have e : s9 = none := G9
    subst e
    have e : s10 = none := G10
    subst e
    have e : s11 = none := G11
    subst e
    have e : s12 = none := G12
    subst e
    have e : s13 = none := G13
    simp only [h1, h2, h3, h4, h5, h6, h7, h8, Option.bind_none, Option.bind_some]
    exact e
  rw [h8] at G8
  obtain ⟨rfl, rfl⟩ := G8
  replace G9 : Got (Mg.rdT l8) _ _ := G9
  rcases h9 : Mg.rdT l8 with _ | ⟨x9, l9⟩
  · rw [h9] at G9
    have e : s9 = none := G9
    subst e
    have e : s10 = none := G10
    subst e
    have e : s11 = none := G11
    subst e
    have e : s12 = none := G12
    subst e
    have e : s13 = none := G13
    simp only [h1, h2, h3, h4, h5, h6, h7, h8, h9, Option.bind_none, Option.bind_some]
    exact e
  rw [h9] at G9
  obtain ⟨rfl, rfl⟩ := G9
  replace G10 : Got (Cm.rdB l9) _ _ := G10
  rcases h10 : Cm.rdB l9 with _ | ⟨x10, l10⟩
  · rw [h10] at G10
    have e : s10 = none := G10
    subst e
    have e : s11 = none := G11
    subst e
    have e : s12 = none := G12
    subst e
    have e : s13 = none := G13
    simp only [h1, h2, h3, h4, h5, h6, h7, h8, h9, h10, Option.bind_none, Option.bind_some]
    exact e
  rw [h10] at G10
  obtain ⟨rfl, rfl⟩ := G10
  replace G11 : Got (Cm.rdB l10) _ _ := G11
  rcases h11 : Cm.rdB l10 with _ | ⟨x11, l11⟩
  · rw [h11] at G11
    have e : s11 = none := G11
    subst e
    have e : s12 = none := G12
    subst e
    have e : s13 = none := G13
    simp only [h1, h2, h3, h4, h5, h6, h7, h8, h9, h10, h11, Option.bind_none, Option.bind_some]
    exact e
  rw [h11] at G11
  obtain ⟨rfl, rfl⟩ := G11
  replace G12 : Got (Mg.rdEs l11) _ _ := G12
  rcases h12 : Mg.rdEs l11 with _ | ⟨x12, l12⟩
  · rw [h12] at G12
    have e : s12 = none := G12
    subst e
    have e : s13 = none := G13
    simp only [h1, h2, h3, h4, h5, h6, h7, h8, h9, h10, h11, h12, Option.bind_none, Option.bind_some]
    exact e
  rw [h12] at G12
  obtain ⟨rfl, rfl⟩ := G12
  replace G13 : Got (Cm.rdS l12) _ _ := G13
  rcases h13 : Cm.rdS l12 with _ | ⟨x13, l13⟩
  · rw [h13] at G13
    have e : s13 = none := G13
    simp only [h1, h2, h3, h4, h5, h6, h7, h8, h9, h10, h11, h12, h13, Option.bind_none, Option.bind_some]
    exact e
  rw [h13] at G13
  obtain ⟨rfl, rfl⟩ := G13
  simp only [h1, h2, h3, h4, h5, h6, h7, h8, h9, h10, h11, h12, h13, Option.bind_some]
  exact ⟨rfl, rfl⟩
/-- A message under way: the reader lies in block g, the result's row, zero, in q2, the message's in qm. -/
structure RS (w W : World) (g q2 qm : Nat) (t : RSt) (X : Array Value) : Prop where
  b : Below w.heap.size w W
  lg : w.heap.size ≤ g
  l2 : w.heap.size ≤ q2
  lm : w.heap.size ≤ qm
  n1 : g ≠ q2
  n2 : g ≠ qm
  n3 : q2 ≠ qm
  rd : RrAt W g t
  z : W.heap[q2]? = some (.cells (msgC Mg.zero none 0) 63 (0, 0))
  r : W.heap[qm]? = some (.cells X 63 (0, 0))
theorem RS.lt2 {w W : World} {g q2 qm : Nat} {t : RSt} {X : Array Value} (h : RS w W g q2 qm t X) : q2 < W.heap.size := (Array.getElem?_eq_some_iff.1 h.z).1
theorem RS.ltm {w W : World} {g q2 qm : Nat} {t : RSt} {X : Array Value} (h : RS w W g q2 qm t X) : qm < W.heap.size := (Array.getElem?_eq_some_iff.1 h.r).1
theorem RS.kp {w W W' : World} {g q2 qm : Nat} {t t' : RSt} {X : Array Value} (h : RS w W g q2 qm t X) (k : Kp g W W') (hr : RrAt W' g t') : RS w W' g q2 qm t' X :=
  ⟨k.below h.b h.b.size h.lg, h.lg, h.l2, h.lm, h.n1, h.n2, h.n3, hr, k.row h.n1.symm h.z, k.row h.n2.symm h.r⟩
theorem RS.grow {w W W' : World} {g q2 qm : Nat} {t : RSt} {X : Array Value} (h : RS w W g q2 qm t X) (k : Below W.heap.size W W') : RS w W' g q2 qm t X :=
  ⟨bnext h.b k, h.lg, h.l2, h.lm, h.n1, h.n2, h.n3, h.rd.bel k, (k.block _ h.lt2).trans h.z, (k.block _ h.ltm).trans h.r⟩
theorem RS.put {w W : World} {g q2 qm : Nat} {t : RSt} {X : Array Value} (h : RS w W g q2 qm t X) (i : Nat) (v : Value) : RS w (W.setCell ⟨qm, i, none⟩ v) g q2 qm t (X.setIfInBounds i v) :=
  ⟨h.b.setCell (p := ⟨qm, i, none⟩) h.lm v, h.lg, h.l2, h.lm, h.n1, h.n2, h.n3, h.rd.set qm i v h.n2.symm, (Below.heap_setCell _ _ _ _ (by simp; exact h.n3)).trans h.z, heap_setCell_same W qm i X _ v h.r⟩
/-- What msg.Read answers. -/
def RetMs (o : Option Mg.M) (w : World) (e : Ending) (w' : World) : Prop := match o with
  | some m => ∃ A cap, e = .returned (.tuple #[.agg (msgC m A cap), .bool true]) ∧ Lies w' A (ec m.ents) ∧ Below w.heap.size w w'
  | none => e = .returned (.tuple #[.agg (msgC Mg.zero none 0), .bool false]) ∧ Below w.heap.size w w'
theorem lies_row {W : World} {q : Nat} {es : List En.E} (h : W.heap[q]? = some (.cells (ec es).toArray 65 (0, 0))) : Lies W (some ⟨q, 0, none⟩) (ec es) :=
  .inr ⟨q, 0, rfl, (Array.getElem?_eq_some_iff.1 h).1, fun i u hu => by rw [Nat.zero_add, cell_of_row W q i _ _ _ h]; simpa using hu⟩
theorem read_no {l : List UInt8} {m : Mg.M} {s : RSt} (h : Got (Mg.parse l) m s) (hn : (!s.isNone && (rst s).isEmpty) = false ∨ Mg.may m = false) : Mg.read l = none := by
  unfold Mg.read Mg.fin
  rcases hp : Mg.parse l with _ | ⟨x, r⟩
  · rfl
  · rw [hp] at h
    obtain ⟨rfl, rfl⟩ := h
    simp only [Option.bind_some]
    rw [if_neg]
    rintro ⟨h1, h2⟩
    subst h1
    rcases hn with hn | hn
    · simp [rst] at hn
    · rw [h2] at hn; cases hn
theorem read_yes {l : List UInt8} {m : Mg.M} {s : RSt} (h : Got (Mg.parse l) m s) (hs : (!s.isNone && (rst s).isEmpty) = true) (hm : Mg.may m = true) : Mg.read l = some m := by
  unfold Mg.read Mg.fin
  rcases hp : Mg.parse l with _ | ⟨x, r⟩
  · rw [hp] at h
    have : s = none := h
    subst this; simp at hs
  · rw [hp] at h
    obtain ⟨rfl, rfl⟩ := h
    simp only [Option.bind_some]
    have hr : r = [] := by simpa [rst] using hs
    rw [if_pos ⟨hr, hm⟩]
end Go.Proofs.Ytpdahbfjbgcmgaa
