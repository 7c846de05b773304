/-
  cmd.writer walked: what its steps write; it is a walker.
  cmd.reader walked: what its steps read; it is a walker.
  cmd.reader.octet walked.
  cmd.writer and cmd.reader are walkers.
-/
import Derived.Test.YtlcgjlganmblpaaRBld
import Derived.Test.YtlcgjlganmblpaaRRows
import Derived.Test.YtlcgjlganmblpaaRWkCmd
import Derived.Test.YtlcgjlganmblpaaRNum
set_option linter.unusedSimpArgs false
set_option linter.unusedVariables false
namespace Go.Proofs.Ytlcgjlganmblpaa
open Go.RowKit
theorem lies_drew (w : World) (vs : List Value) (t : TypeId) : Lies (w.alloc (.cells vs.toArray t)).drew (some ⟨w.heap.size, 0, none⟩) vs := Lies.new w vs t
namespace Wk
def wO (s : St) (n a b : Nat) : Nat × St := if n < a ∨ b < n then (0, ⟨s.l, true⟩) else (n, ⟨s.l ++ [Nm.b8 n], s.bad⟩)
def wG (s : St) (n m : Nat) : Nat × St := if m < n then (0, ⟨s.l, true⟩) else (n, ⟨s.l ++ Nm.grp n, s.bad⟩)
def wT (s : St) (x : ByteArray) : ByteArray × St := (x, ⟨s.l ++ row x.data.toList, s.bad⟩)
def wK (s : St) (t : List UInt8) : List UInt8 × St := (t, ⟨s.l ++ t, s.bad⟩)
def wA : Alg where
  oct := wO
  grp := wG
  txt := wT
  tok := wK
  lenO := fun s n a b => by unfold wO; split <;> simp
  lenG := fun s n m hn => by
    have := grp_len n hn
    unfold wG; split
    · simp
    · simp only [List.length_append]; omega
  lenT := fun s x hx => by
    have := grp_len x.size hx
    have e : x.data.toList.length = x.size := (Lib.size_eq x).symm
    unfold wT row; simp only [List.length_append]; rw [e]; omega
  lenK := fun s t ht => by unfold wK; simp [ht]
  ltO := fun s n a b hn => by unfold wO; split <;> simp [hn]
  ltG := fun s n m hn => by
    unfold wG; split
    · simp [Nm.top]
    · exact hn
  leG := fun s n m => by unfold wG; split <;> simp <;> omega
  szT := fun s x => by unfold wT; simp
  szK := fun s t ht => by unfold wK; exact ht
end Wk
set_option maxRecDepth 100000 in
theorem wrO_any (B : Nat) (W : World) (g : Nat) (o : Option Nat) (s : Wk.St) (n a b : Nat) (h : WrAt B W g o s) (hl : s.l.length ≤ 1000000000) (hn : n < 256) (ha : a < 256) (hb : b < 256) :
    Calls Try.prog 104 #[.pointer (some ⟨g, 0, none⟩), .int .u8 (n : Int), .int .u8 (a : Int), .int .u8 (b : Int)] W fun e w' => e = .returned (.int .u8 ((Wk.wO s n a b).1 : Int)) ∧ ∃ o', WrAt B w' g o' (Wk.wO s n a b).2 ∧ Kept g o o' W w' := by
  unfold Wk.wO
  by_cases h1 : n < a ∨ b < n
  · rw [if_pos h1]
    obtain ⟨p, v, hP, rfl⟩ := h
    have c2 := hP.c2
    have f2 := hP.fz 2
    have HP := Lib.hid hP
    have hfin : WrAt B (W.setCell ⟨g, 2, none⟩ (.bool true)) g v.ownBlock ⟨s.l, true⟩ ∧ Kept g v.ownBlock v.ownBlock W (W.setCell ⟨g, 2, none⟩ (.bool true)) :=
      ⟨⟨p, v, ⟨hP.hp, heap_setCell_same W g 2 _ _ _ hP.row, own_by hP.own fun k e => Below.heap_setCell _ _ _ _ (by simp; intro h2; exact hP.sep (by rw [e, h2])), hP.lo⟩, rfl⟩, (Kept.refl _ _ _).setg 2 _⟩
    have HF := Lib.hid hfin
    clear hP hfin
    rcases h1 with h1 | h1
    · have e1 : ((n : Int) < (a : Int)) := by omega
      go_enter Try.func104, Try.ntmps104
      go_wp2_with fail
      go_ret
      exact ⟨rfl, _, HF.out.1, HF.out.2⟩
    · by_cases h2 : n < a
      · have e1 : ((n : Int) < (a : Int)) := by omega
        go_enter Try.func104, Try.ntmps104
        go_wp2_with fail
        go_ret
        exact ⟨rfl, _, HF.out.1, HF.out.2⟩
      · have e1 : ¬ ((n : Int) < (a : Int)) := by omega
        have e2 : ((b : Int) < (n : Int)) := by omega
        go_enter Try.func104, Try.ntmps104
        go_wp2_with fail
        go_ret
        exact ⟨rfl, _, HF.out.1, HF.out.2⟩
  · rw [if_neg h1]
    have e1 : ¬ ((n : Int) < (a : Int)) := by omega
    have e2 : ¬ ((b : Int) < (n : Int)) := by omega
    have Hc := Lib.hid (bbyte_any B W g o s n h hl hn)
    clear h h1
    go_enter Try.func104, Try.ntmps104
    go_wp2_with fail
    refine Hc.out.mono ?_
    rintro e w1 ⟨rfl, o', hA, hK⟩
    have HA := Lib.hid (And.intro hA hK)
    clear hA hK Hc
    go_wp2_with fail
    go_ret
    exact ⟨rfl, o', HA.out.1, HA.out.2⟩
set_option maxRecDepth 100000 in
theorem wrS_any (B : Nat) (W : World) (g : Nat) (o : Option Nat) (s : Wk.St) (h : WrAt B W g o s) :
    Calls Try.prog 105 #[.pointer (some ⟨g, 0, none⟩)] W fun e w' => e = .returned (.bool (!s.bad)) ∧ W = w' := by
  obtain ⟨p, v, hP, rfl⟩ := h
  have c2 := hP.c2
  have f2 := hP.fz 2
  clear hP
  go_enter Try.func105, Try.ntmps105
  go_wp2_with fail
  go_ret
  exact ⟨rfl, rfl⟩
set_option maxRecDepth 100000 in
set_option maxHeartbeats 2000000 in
theorem wrG_any (B : Nat) (W : World) (g : Nat) (o : Option Nat) (s : Wk.St) (n m : Nat) (h : WrAt B W g o s) (hl : s.l.length ≤ 1000000000) (hn : n < Nm.top) :
    Calls Try.prog 103 #[.pointer (some ⟨g, 0, none⟩), .int .u64 (n : Int), .int .u64 (m : Int)] W fun e w' => e = .returned (.int .u64 ((Wk.wG s n m).1 : Int)) ∧ ∃ o', WrAt B w' g o' (Wk.wG s n m).2 ∧ Kept g o o' W w' := by
  unfold Wk.wG
  by_cases h1 : m < n
  · rw [if_pos h1]
    obtain ⟨p, v, hP, rfl⟩ := h
    have c2 := hP.c2
    have f2 := hP.fz 2
    have hfin : WrAt B (W.setCell ⟨g, 2, none⟩ (.bool true)) g v.ownBlock ⟨s.l, true⟩ ∧ Kept g v.ownBlock v.ownBlock W (W.setCell ⟨g, 2, none⟩ (.bool true)) :=
      ⟨⟨p, v, ⟨hP.hp, heap_setCell_same W g 2 _ _ _ hP.row, own_by hP.own fun k e => Below.heap_setCell _ _ _ _ (by simp; intro h2; exact hP.sep (by rw [e, h2])), hP.lo⟩, rfl⟩, (Kept.refl _ _ _).setg 2 _⟩
    have HF := Lib.hid hfin
    clear hP hfin
    have e1 : ((m : Int) < (n : Int)) := by omega
    go_enter Try.func103, Try.ntmps103
    go_wp2_with fail
    go_ret
    exact ⟨rfl, _, HF.out.1, HF.out.2⟩
  · rw [if_neg h1]
    have e1 : ¬ ((m : Int) < (n : Int)) := by omega
    have HV : Hid (∀ (W' : World) (A : Option Addr), Lies W' A (uc [n]) → Calls Try.prog 28 #[.slice A 1 1] W' (RetS (Nm.grp n) W')) := Lib.hid fun W' A hA => by
      have := V_any [n] (by simpa using hn) A 1 W' hA (by simp)
      simpa [vs] using this
    have hz : (⟨(Nm.grp n).toArray⟩ : ByteArray).size ≤ 10 := by rw [Lib.size_eq]; exact grp_len n hn
    obtain ⟨x, hx⟩ : ∃ x : ByteArray, x = ⟨(Nm.grp n).toArray⟩ := ⟨_, rfl⟩
    have HS : Hid (∀ W' : World, Below W.heap.size W W' → Calls Try.prog 108 #[.pointer (some ⟨g, 0, none⟩), .string x] W' fun e w' => e = .returned (.tuple #[.int .i64 (x.size : Int), .nilIface]) ∧ ∃ o', WrAt B w' g o' ⟨s.l ++ Nm.grp n, s.bad⟩ ∧ Kept g o o' W w') := Lib.hid fun W' hb => by
      obtain ⟨p, v, hP, rfl⟩ := h
      refine (bstr_any B W' g v.ownBlock s x ⟨p, v, hP.bel hb, rfl⟩ hl (by rw [hx]; omega)).mono ?_
      rintro e w' ⟨rfl, o', hA, hK⟩
      refine ⟨rfl, o', by rw [hx] at hA; exact hA, ((Kept.refl _ _ _).bel hb).trans hK⟩
    unfold RetS at HV
    rw [← hx] at HV
    clear h h1 hz hx
    go_enter Try.func103, Try.ntmps103
    go_wp2_with fail
    go_region_with (first | (go_at_call 28; refine (HV.out _ _ (lies_drew _ [Value.int .u64 (n : Int)] _)).mono ?_; rintro e w1 ⟨rfl, hb1⟩) | (go_at_call 108; refine (HS.out _ (bnext (below_drew (bnew (Below.refl _ _) _)) hb1)).mono ?_; rintro e w2 ⟨rfl, o', hA, hK⟩))
    all_goals
      have HA := Lib.hid (And.intro hA hK)
      clear hA hK
      go_wp2_with fail
      go_ret
      exact ⟨rfl, o', HA.out.1, HA.out.2⟩
set_option maxRecDepth 100000 in
set_option maxHeartbeats 2000000 in
theorem wrT_any (B : Nat) (W : World) (g : Nat) (o : Option Nat) (s : Wk.St) (y : ByteArray) (h : WrAt B W g o s) (hl : s.l.length ≤ 1000000000) (hn : y.size ≤ 10000000) :
    Calls Try.prog 106 #[.pointer (some ⟨g, 0, none⟩), .string y] W fun e w' => e = .returned (.string (Wk.wT s y).1) ∧ ∃ o', WrAt B w' g o' (Wk.wT s y).2 ∧ Kept g o o' W w' := by
    unfold Wk.wT
    have hrl : (row y.data.toList).length ≤ 10000010 := by
      have e : y.data.toList.length = y.size := (Lib.size_eq y).symm
      have := grp_len y.size (by unfold Nm.top; omega)
      unfold row; rw [List.length_append, e]; omega
    have HV : Hid (∀ (W' : World) (A : Option Addr), Lies W' A (sc [y]) → Calls Try.prog 110 #[.slice A 1 1] W' (RetS (row y.data.toList) W')) := Lib.hid fun W' A hA => by
      have := S_any [y] A 1 W' hA (by simp) (by simp only [sr, List.map_cons, List.map_nil, List.flatten_cons, List.flatten_nil, List.append_nil]; omega)
      simpa [sr] using this
    have hz : (⟨(row y.data.toList).toArray⟩ : ByteArray).size ≤ 10000010 := by rw [Lib.size_eq]; exact hrl
    obtain ⟨x, hx⟩ : ∃ x : ByteArray, x = ⟨(row y.data.toList).toArray⟩ := ⟨_, rfl⟩
    have HS : Hid (∀ W' : World, Below W.heap.size W W' → Calls Try.prog 108 #[.pointer (some ⟨g, 0, none⟩), .string x] W' fun e w' => e = .returned (.tuple #[.int .i64 (x.size : Int), .nilIface]) ∧ ∃ o', WrAt B w' g o' ⟨s.l ++ row y.data.toList, s.bad⟩ ∧ Kept g o o' W w') := Lib.hid fun W' hb => by
      obtain ⟨p, v, hP, rfl⟩ := h
      refine (bstr_any B W' g v.ownBlock s x ⟨p, v, hP.bel hb, rfl⟩ hl (by rw [hx]; omega)).mono ?_
      rintro e w' ⟨rfl, o', hA, hK⟩
      refine ⟨rfl, o', by rw [hx] at hA; exact hA, ((Kept.refl _ _ _).bel hb).trans hK⟩
    unfold RetS at HV
    rw [← hx] at HV
    clear h hz hx hrl
    go_enter Try.func106, Try.ntmps106
    go_wp2_with fail
    go_region_with (first | (go_at_call 110; refine (HV.out _ _ (lies_drew _ [Value.string y] _)).mono ?_; rintro e w1 ⟨rfl, hb1⟩) | (go_at_call 108; refine (HS.out _ (bnext (below_drew (bnew (Below.refl _ _) _)) hb1)).mono ?_; rintro e w2 ⟨rfl, o', hA, hK⟩))
    all_goals
      have HA := Lib.hid (And.intro hA hK)
      clear hA hK
      go_wp2_with fail
      go_ret
      exact ⟨rfl, o', HA.out.1, HA.out.2⟩
end Go.Proofs.Ytlcgjlganmblpaa
namespace Go.Proofs.Ytlcgjlganmblpaa
open Go.RowKit
namespace Wk
def stop : St := ⟨[], true⟩
def rO (s : St) (_n a b : Nat) : Nat × St := match s.l with
  | [] => (0, stop)
  | c :: r => if a ≤ c.toNat ∧ c.toNat ≤ b then (c.toNat, ⟨r, s.bad⟩) else (0, stop)
def rG (s : St) (_n m : Nat) : Nat × St := match Nm.readV s.l with
  | some (n, k) => if n ≤ m then (n, ⟨s.l.drop k, s.bad⟩) else (0, stop)
  | none => (0, stop)
def rT (s : St) (_x : ByteArray) : ByteArray × St := match Nm.readS s.l with
  | some (x, k) => (⟨x.toArray⟩, ⟨s.l.drop k, s.bad⟩)
  | none => (Cm.e0, stop)
def rK (s : St) (_t : List UInt8) : List UInt8 × St := if 8 ≤ s.l.length then (s.l.take 8, ⟨s.l.drop 8, s.bad⟩) else (List.replicate 8 0, stop)
theorem rO_len (s : St) (n a b : Nat) : (rO s n a b).2.l.length ≤ s.l.length := by
  unfold rO; split
  · simp [stop]
  · rename_i h; rw [h]; split <;> simp [stop]
theorem rG_len (s : St) (n m : Nat) : (rG s n m).2.l.length ≤ s.l.length := by
  unfold rG; split
  · split <;> simp [stop]
  · simp [stop]
theorem rT_len (s : St) (x : ByteArray) : (rT s x).2.l.length ≤ s.l.length := by
  unfold rT; split <;> simp [stop]
theorem rT_size (s : St) (x : ByteArray) : (rT s x).1.size ≤ s.l.length := by
  unfold rT; split
  · rename_i x k h
    obtain ⟨_, hl, hk⟩ := Cm.readS_some h
    have := congrArg List.length hl
    rw [List.length_append] at this
    have h2 : (row x).length = (Nm.grp x.length).length + x.length := by unfold row; rw [List.length_append]
    rw [Lib.size_eq]; simp only; omega
  · show (0 : Nat) ≤ _; omega
def rA : Alg where
  oct := rO
  grp := rG
  txt := rT
  tok := rK
  lenO := fun s n a b => by have := rO_len s n a b; omega
  lenG := fun s n m _ => by have := rG_len s n m; omega
  lenT := fun s x _ => by have := rT_len s x; omega
  lenK := fun s t _ => by unfold rK; split <;> simp [stop]; omega
  ltO := fun s n a b _ => by
    unfold rO; split
    · simp
    · rename_i c r h; split
      · exact UInt8.toNat_lt _
      · simp
  ltG := fun s n m _ => by
    unfold rG; split
    · rename_i n k h; split
      · exact (Nm.readV_le h).1
      · simp [Nm.top]
    · simp [Nm.top]
  leG := fun s n m => by
    unfold rG; split
    · split
      · rename_i h; exact h
      · simp
    · simp
  szT := fun s x => by have := rT_size s x; omega
  szK := fun s t ht => by
    unfold rK; split
    · rename_i h; simp [h]
    · simp
end Wk
/-- A reader in block g. -/
structure RdAt (B : Nat) (W : World) (g : Nat) (o : Option Nat) (s : Wk.St) : Prop where
  row : W.heap[g]? = some (.cells #[.string ⟨s.l.toArray⟩, .bool s.bad] 104 (0, 0))
  no : o = none
  lo : B ≤ g
theorem RdAt.c0 {B : Nat} {W : World} {g : Nat} {o : Option Nat} {s : Wk.St} (h : RdAt B W g o s) : W.cell? ⟨g, 0, none⟩ = some (.string ⟨s.l.toArray⟩) := cell_of_row W g 0 _ _ _ h.row
theorem RdAt.c1 {B : Nat} {W : World} {g : Nat} {o : Option Nat} {s : Wk.St} (h : RdAt B W g o s) : W.cell? ⟨g, 1, none⟩ = some (.bool s.bad) := cell_of_row W g 1 _ _ _ h.row
theorem RdAt.fz {B : Nat} {W : World} {g : Nat} {o : Option Nat} {s : Wk.St} (h : RdAt B W g o s) (i : Nat) : W.frozen? ⟨g, i, none⟩ = false := frozen_of_row W g i _ _ h.row
theorem RdAt.lt {B : Nat} {W : World} {g : Nat} {o : Option Nat} {s : Wk.St} (h : RdAt B W g o s) : g < W.heap.size := (Array.getElem?_eq_some_iff.1 h.row).1
theorem RdAt.bel {B : Nat} {W W' : World} {g : Nat} {o : Option Nat} {s : Wk.St} (h : RdAt B W g o s) (hb : Below W.heap.size W W') : RdAt B W' g o s :=
  ⟨(hb.block g h.lt).trans h.row, h.no, h.lo⟩
/-- What take leaves. -/
def Wk.tk (s : Wk.St) (k : Nat) (b : Bool) : Wk.St := if b then ⟨s.l.drop k, s.bad⟩ else Wk.stop
set_option maxRecDepth 100000 in
theorem rtake_any (B : Nat) (W : World) (g : Nat) (o : Option Nat) (s : Wk.St) (k : Nat) (b : Bool) (h : RdAt B W g o s) (hl : s.l.length ≤ 1000000000) (hk : b = true → k ≤ s.l.length) :
    Calls Try.prog 120 #[.pointer (some ⟨g, 0, none⟩), .int .i64 (k : Int), .bool b] W fun e w' => e = .returned (.bool b) ∧ RdAt B w' g none (Wk.tk s k b) ∧ Kept g none none W w' := by
  have c0 := h.c0
  have c1 := h.c1
  have f0 := h.fz 0
  have f1 := h.fz 1
  have H := Lib.hid h
  have HF : Hid (∀ x y, RdAt B ((W.setCell ⟨g, 1, none⟩ (.bool y)).setCell ⟨g, 0, none⟩ (.string ⟨x.toArray⟩)) g none ⟨x, y⟩ ∧ Kept g none none W ((W.setCell ⟨g, 1, none⟩ (.bool y)).setCell ⟨g, 0, none⟩ (.string ⟨x.toArray⟩))) := Lib.hid fun x y =>
    ⟨⟨heap_setCell_same _ g 0 _ _ _ (heap_setCell_same W g 1 _ _ _ h.row), rfl, h.lo⟩, ((Kept.refl _ _ _).setg 1 _).setg 0 _⟩
  have HG : Hid (∀ x, RdAt B (W.setCell ⟨g, 0, none⟩ (.string ⟨x.toArray⟩)) g none ⟨x, s.bad⟩ ∧ Kept g none none W (W.setCell ⟨g, 0, none⟩ (.string ⟨x.toArray⟩))) := Lib.hid fun x =>
    ⟨⟨heap_setCell_same W g 0 _ _ _ h.row, rfl, h.lo⟩, (Kept.refl _ _ _).setg 0 _⟩
  cases b
  · clear h
    go_enter Try.func120, Try.ntmps120
    go_wp2_with fail
    go_ret
    exact ⟨rfl, (HF.out [] true).1, (HF.out [] true).2⟩
  · have hk := hk rfl
    obtain ⟨t, ht⟩ : ∃ t : ByteArray, t = ⟨s.l.toArray⟩ := ⟨_, rfl⟩
    have hz : t.size = s.l.length := by rw [ht, Lib.size_eq]
    have hxk : t.extract k t.size = ⟨(s.l.drop k).toArray⟩ := by
      rw [ht]; apply ByteArray.ext; apply Array.toList_inj.1; rw [Lib.extract_data]; simp [Lib.size_eq]
      exact List.take_of_length_le (by simp)
    have hk2 : k ≤ t.size := by omega
    have hsz : t.size ≤ 1000000000 := by omega
    rw [← ht] at c0
    have Hx := Lib.hid hxk
    clear h hxk hz ht hk
    go_enter Try.func120, Try.ntmps120
    go_wp2_with fail
    go_ret
    rw [Hx.out]
    exact ⟨rfl, (HG.out (s.l.drop k)).1, (HG.out (s.l.drop k)).2⟩
set_option maxRecDepth 100000 in
theorem rdS_any (B : Nat) (W : World) (g : Nat) (o : Option Nat) (s : Wk.St) (h : RdAt B W g o s) :
    Calls Try.prog 117 #[.pointer (some ⟨g, 0, none⟩)] W fun e w' => e = .returned (.bool (!s.bad)) ∧ W = w' := by
  have c1 := h.c1
  clear h
  go_enter Try.func117, Try.ntmps117
  go_wp2_with fail
  go_ret
  exact ⟨rfl, rfl⟩
set_option maxRecDepth 100000 in
theorem rdE_any (B : Nat) (W : World) (g : Nat) (o : Option Nat) (s : Wk.St) (h : RdAt B W g o s) :
    Calls Try.prog 61 #[.pointer (some ⟨g, 0, none⟩)] W fun e w' => e = .returned (.bool (!s.bad && s.l.isEmpty)) ∧ W = w' := by
  have c1 := h.c1
  have c0 := h.c0
  obtain ⟨t, ht⟩ : ∃ t : ByteArray, t = ⟨s.l.toArray⟩ := ⟨_, rfl⟩
  rw [← ht] at c0
  have he : t.toList.isEmpty = s.l.isEmpty := by rw [ht, ByteArray.toList_eq]
  have He := Lib.hid he
  clear h ht
  cases hb : s.bad
  · rw [hb] at c1
    go_enter Try.func61, Try.ntmps61
    go_wp2_with fail
    go_ret
    rw [← He.out]
    exact ⟨by simp, rfl⟩
  · rw [hb] at c1
    go_enter Try.func61, Try.ntmps61
    go_wp2_with fail
    go_ret
    exact ⟨rfl, rfl⟩
set_option maxRecDepth 100000 in
set_option maxHeartbeats 1000000 in
theorem rdT_any (B : Nat) (W : World) (g : Nat) (o : Option Nat) (s : Wk.St) (y : ByteArray) (h : RdAt B W g o s) (hl : s.l.length ≤ 1000000000) :
    Calls Try.prog 118 #[.pointer (some ⟨g, 0, none⟩), .string y] W fun e w' => e = .returned (.string (Wk.rT s y).1) ∧ ∃ o', RdAt B w' g o' (Wk.rT s y).2 ∧ Kept g o o' W w' := by
  obtain rfl := h.no
  have c0 := h.c0
  have hcall := ReadS_any ⟨s.l.toArray⟩ W (by rw [Lib.size_eq]; simp only; omega)
  simp only [] at hcall
  obtain ⟨t, ht⟩ : ∃ t : ByteArray, t = ⟨s.l.toArray⟩ := ⟨_, rfl⟩
  rw [← ht] at c0 hcall
  have H := Lib.hid h
  unfold Wk.rT
  rcases hr : Nm.readS s.l with _ | ⟨x, k⟩
  · rw [hr, rs] at hcall
    have Hc := Lib.hid hcall
    have HT : Hid (∀ w1, Below W.heap.size W w1 → _) := Lib.hid fun w1 hb => rtake_any B w1 g none s 0 false (H.out.bel hb) hl (fun h => by cases h)
    clear hcall h hr ht
    go_enter Try.func118, Try.ntmps118
    go_wp2_with fail
    refine Hc.out.mono ?_
    rintro e w1 ⟨rfl, hb1⟩
    go_wp2_with fail
    refine (HT.out w1 hb1).mono ?_
    rintro e w2 ⟨rfl, hA, hK⟩
    have HA := Lib.hid (And.intro hA (((Kept.refl _ _ _).bel hb1).trans hK))
    clear hA hK hb1
    go_wp2_with fail
    go_ret
    exact ⟨rfl, none, HA.out.1, HA.out.2⟩
  · rw [hr, rs] at hcall
    have hk : k ≤ s.l.length := by
      obtain ⟨_, hl, hk⟩ := Cm.readS_some hr
      have := congrArg List.length hl
      rw [List.length_append] at this
      omega
    have Hc := Lib.hid hcall
    have HT : Hid (∀ w1, Below W.heap.size W w1 → _) := Lib.hid fun w1 hb => rtake_any B w1 g none s k true (H.out.bel hb) hl (fun _ => hk)
    clear hcall h hr ht
    go_enter Try.func118, Try.ntmps118
    go_wp2_with fail
    refine Hc.out.mono ?_
    rintro e w1 ⟨rfl, hb1⟩
    go_wp2_with fail
    refine (HT.out w1 hb1).mono ?_
    rintro e w2 ⟨rfl, hA, hK⟩
    have HA := Lib.hid (And.intro hA (((Kept.refl _ _ _).bel hb1).trans hK))
    clear hA hK hb1
    go_wp2_with fail
    go_ret
    exact ⟨rfl, none, HA.out.1, HA.out.2⟩
set_option maxRecDepth 100000 in
set_option maxHeartbeats 1000000 in
theorem rdG_any (B : Nat) (W : World) (g : Nat) (o : Option Nat) (s : Wk.St) (n0 m : Nat) (h : RdAt B W g o s) (hl : s.l.length ≤ 1000000000) :
    Calls Try.prog 115 #[.pointer (some ⟨g, 0, none⟩), .int .u64 (n0 : Int), .int .u64 (m : Int)] W fun e w' => e = .returned (.int .u64 ((Wk.rG s n0 m).1 : Int)) ∧ ∃ o', RdAt B w' g o' (Wk.rG s n0 m).2 ∧ Kept g o o' W w' := by
  obtain rfl := h.no
  have c0 := h.c0
  have hcall := ReadV_any ⟨s.l.toArray⟩ W (by rw [Lib.size_eq]; simp only; omega)
  simp only [] at hcall
  obtain ⟨t, ht⟩ : ∃ t : ByteArray, t = ⟨s.l.toArray⟩ := ⟨_, rfl⟩
  rw [← ht] at c0 hcall
  unfold Wk.rG
  rcases hr : Nm.readV s.l with _ | ⟨n, k⟩
  · rw [hr, rv] at hcall
    have Hc := Lib.hid hcall
    have HT := Lib.hid (rtake_any B W g none s 0 false h hl (fun h => by cases h))
    clear hcall h hr ht
    go_enter Try.func115, Try.ntmps115
    go_wp2_with fail
    refine Hc.out.mono ?_
    rintro e w1 ⟨rfl, rfl⟩
    go_wp2_with fail
    refine HT.out.mono ?_
    rintro e w2 ⟨rfl, hA, hK⟩
    have HA := Lib.hid (And.intro hA hK)
    clear hA hK
    go_wp2_with fail
    go_ret
    exact ⟨rfl, none, HA.out.1, HA.out.2⟩
  · rw [hr, rv] at hcall
    have hk : k ≤ s.l.length := (Nm.readV_le hr).2.2.1
    have Hc := Lib.hid hcall
    by_cases hm : n ≤ m
    · have HT := Lib.hid (rtake_any B W g none s k true h hl (fun _ => hk))
      have e1 : ((n : Int) ≤ (m : Int)) := by omega
      simp only [if_pos hm]
      clear hcall h hr ht hk
      go_enter Try.func115, Try.ntmps115
      go_wp2_with fail
      refine Hc.out.mono ?_
      rintro e w1 ⟨rfl, rfl⟩
      go_wp2_with fail
      refine HT.out.mono ?_
      rintro e w2 ⟨rfl, hA, hK⟩
      have HA := Lib.hid (And.intro hA hK)
      clear hA hK
      go_wp2_with fail
      go_ret
      exact ⟨rfl, none, HA.out.1, HA.out.2⟩
    · have HT := Lib.hid (rtake_any B W g none s k false h hl (fun h => by cases h))
      have e1 : ¬ ((n : Int) ≤ (m : Int)) := by omega
      simp only [if_neg hm]
      clear hcall h hr ht hk
      go_enter Try.func115, Try.ntmps115
      go_wp2_with fail
      refine Hc.out.mono ?_
      rintro e w1 ⟨rfl, rfl⟩
      go_wp2_with fail
      refine HT.out.mono ?_
      rintro e w2 ⟨rfl, hA, hK⟩
      have HA := Lib.hid (And.intro hA hK)
      clear hA hK
      go_wp2_with fail
      go_ret
      exact ⟨rfl, none, HA.out.1, HA.out.2⟩
end Go.Proofs.Ytlcgjlganmblpaa
namespace Go.Proofs.Ytlcgjlganmblpaa
open Go.RowKit
set_option maxRecDepth 100000 in
set_option maxHeartbeats 1000000 in
theorem rdO_any (B : Nat) (W : World) (g : Nat) (o : Option Nat) (s : Wk.St) (n0 a b : Nat) (h : RdAt B W g o s) (hl : s.l.length ≤ 1000000000) :
    Calls Try.prog 116 #[.pointer (some ⟨g, 0, none⟩), .int .u8 (n0 : Int), .int .u8 (a : Int), .int .u8 (b : Int)] W fun e w' => e = .returned (.int .u8 ((Wk.rO s n0 a b).1 : Int)) ∧ ∃ o', RdAt B w' g o' (Wk.rO s n0 a b).2 ∧ Kept g o o' W w' := by
  obtain rfl := h.no
  have c0 := h.c0
  obtain ⟨t, ht⟩ : ∃ t : ByteArray, t = ⟨s.l.toArray⟩ := ⟨_, rfl⟩
  have hz : t.size = s.l.length := by rw [ht, Lib.size_eq]
  rw [← ht] at c0
  have H0 := rtake_any B W g none s 1 false h hl (fun h => by cases h)
  rw [show (((1 : Nat) : Int)) = 1 from rfl] at H0
  unfold Wk.rO
  rcases hs : s.l with _ | ⟨c, r⟩
  · have Hc := Lib.hid (ReadU_no t 1 W (by rw [hz, hs]; simp))
    have HT := Lib.hid H0
    clear h ht hz H0 hs
    go_enter Try.func116, Try.ntmps116
    go_wp2_with fail
    refine Hc.out.mono ?_
    rintro e w1 ⟨rfl, rfl⟩
    go_wp2_with fail
    refine HT.out.mono ?_
    rintro e w2 ⟨rfl, hA, hK⟩
    have HA := Lib.hid (And.intro hA hK)
    clear hA hK
    go_wp2_with fail
    go_ret
    exact ⟨rfl, none, HA.out.1, HA.out.2⟩
  · have hc0 := ReadU_any t 1 W (by rw [hz]; omega) (by omega) (by omega) (by rw [hz, hs]; simp)
    have e0 : Nm.val8 (t.data.toList.take 1) = c.toNat := by rw [ht, hs]; simp [Nm.val8]
    rw [e0] at hc0
    rw [show (((1 : Nat) : Int)) = 1 from rfl] at hc0
    obtain ⟨n, hn⟩ : ∃ n, n = c.toNat := ⟨_, rfl⟩
    have hn2 : n < 256 := by rw [hn]; exact UInt8.toNat_lt _
    rw [← hn] at hc0
    simp only [← hn]
    have hw : IntKind.u8.wrap (n : Int) = (n : Int) := by simp [IntKind.wrap, IntKind.bits, IntKind.signed]; omega
    have Hc := Lib.hid hc0
    by_cases hin : a ≤ n ∧ n ≤ b
    · have H1 := rtake_any B W g none s 1 true h hl (fun _ => by rw [hs]; simp)
      rw [show (((1 : Nat) : Int)) = 1 from rfl] at H1
      unfold Wk.tk at H1
      rw [hs] at H1
      simp only [if_pos, List.drop_succ_cons, List.drop_zero] at H1
      have HT := Lib.hid H1
      simp only [if_pos hin]
      obtain ⟨h1, h2⟩ := hin
      have e1 : ((a : Int) ≤ (n : Int)) := by omega
      have e2 : ((n : Int) ≤ (b : Int)) := by omega
      clear h ht hz H0 H1 hs hc0 e0 hn
      go_enter Try.func116, Try.ntmps116
      go_wp2_with fail
      refine Hc.out.mono ?_
      rintro e w1 ⟨rfl, rfl⟩
      go_wp2_with fail
      refine HT.out.mono ?_
      rintro e w2 ⟨rfl, hA, hK⟩
      have HA := Lib.hid (And.intro hA hK)
      clear hA hK
      go_wp2_with fail
      go_ret
      exact ⟨rfl, none, HA.out.1, HA.out.2⟩
    · have HT := Lib.hid H0
      simp only [if_neg hin]
      by_cases h1 : a ≤ n
      · have e1 : ((a : Int) ≤ (n : Int)) := by omega
        have e2 : decide (n ≤ b) = false := decide_eq_false (by omega)
        have e3 : ((n : Int) ≤ (b : Int)) = False := eq_false (by omega)
        clear h ht hz H0 hs hc0 e0 hn hin
        go_enter Try.func116, Try.ntmps116
        go_wp2_with fail
        refine Hc.out.mono ?_
        rintro e w1 ⟨rfl, rfl⟩
        go_wp2_with fail
        refine HT.out.mono ?_
        rintro e w2 ⟨rfl, hA, hK⟩
        have HA := Lib.hid (And.intro hA hK)
        clear hA hK
        go_wp2_with fail
        go_ret
        exact ⟨rfl, none, HA.out.1, HA.out.2⟩
      · have e1 : decide (a ≤ n) = false := decide_eq_false (by omega)
        have e3 : ((a : Int) ≤ (n : Int)) = False := eq_false (by omega)
        clear h ht hz H0 hs hc0 e0 hn hin
        go_enter Try.func116, Try.ntmps116
        go_wp2_with fail
        refine Hc.out.mono ?_
        rintro e w1 ⟨rfl, rfl⟩
        go_wp2_with fail
        refine HT.out.mono ?_
        rintro e w2 ⟨rfl, hA, hK⟩
        have HA := Lib.hid (And.intro hA hK)
        clear hA hK
        go_wp2_with fail
        go_ret
        exact ⟨rfl, none, HA.out.1, HA.out.2⟩
end Go.Proofs.Ytlcgjlganmblpaa
namespace Go.Proofs.Ytlcgjlganmblpaa
open Go.RowKit
theorem entersFn {f : FuncId} {fn : Func} (hf : Try.prog.funcs[f]? = some fn) (hname : (fn.name == "runtime.NumGoroutine") = false) (hb : fn.body.isSome = true) (a : Array Value) (w : World) : (callFunc f a).run Try.prog w = .ok (.enter f a) w := by
  have h1 : fn.name ≠ "runtime.NumGoroutine" := by simpa using hname
  obtain ⟨c, hc⟩ := Option.isSome_iff_exists.1 hb
  simp [callFunc, hf, h1, hc, Sem.run]
set_option maxRecDepth 100000 in
/-- A reader is a walker. -/
def rdK (B : Nat) : Wkr 102 Wk.rA B where
  At := RdAt B
  lo := fun {W g o s} h => by
    have := h.no; subst this
    exact ⟨h.lo, h.lt, by simp, fun k e => by cases e⟩
  ne := fun {W g o s} k cs t fr h hk ht => by
    have := h.no; subst this
    refine ⟨fun e => ?_, by simp⟩
    subst e
    rw [h.row] at hk
    injection hk with hk
    injection hk with _ hk _
    rcases ht with rfl | rfl <;> cases hk
  by_ := fun {W W' g o s} h _ hg _ => ⟨hg.trans h.row, h.no, h.lo⟩
  fO := 116
  fG := 115
  fT := 118
  fK := 119
  fS := 117
  eO := fun _ _ => entersFn Try.func116 (by kernel_rfl) (by kernel_rfl) _ _
  eG := fun _ _ => entersFn Try.func115 (by kernel_rfl) (by kernel_rfl) _ _
  eT := fun _ _ => entersFn Try.func118 (by kernel_rfl) (by kernel_rfl) _ _
  eK := fun _ _ => entersFn Try.func119 (by kernel_rfl) (by kernel_rfl) _ _
  eS := fun _ _ => entersFn Try.func117 (by kernel_rfl) (by kernel_rfl) _ _
  mO := fun _ _ => rfl
  mG := fun _ _ => rfl
  mT := fun _ _ => rfl
  mK := fun _ _ => rfl
  mS := fun _ _ => rfl
  cO := fun W g o s n a b h hl _ _ _ => rdO_any B W g o s n a b h hl
  cG := fun W g o s n m h hl _ _ => rdG_any B W g o s n m h hl
  cT := fun W g o s x h hl _ => rdT_any B W g o s x h hl
  cS := fun W g o s h => rdS_any B W g o s h
set_option maxRecDepth 100000 in
/-- A writer is a walker. -/
def wrK (B : Nat) : Wkr 95 Wk.wA B where
  At := WrAt B
  lo := fun {W g o s} h => by
    obtain ⟨p, v, hP, rfl⟩ := h
    exact ⟨hP.lo, hP.lt, hP.sep, fun k e => hP.own.lt k e⟩
  ne := fun {W g o s} k cs t fr h hk ht => by
    obtain ⟨p, v, hP, rfl⟩ := h
    refine ⟨fun e => ?_, hP.ne hk (by rcases ht with rfl | rfl <;> decide)⟩
    subst e
    rw [hP.row] at hk
    injection hk with hk
    injection hk with _ hk _
    rcases ht with rfl | rfl <;> cases hk
  by_ := fun {W W' g o s} h _ hg ho => by
    obtain ⟨p, v, hP, rfl⟩ := h
    exact ⟨p, v, ⟨hP.hp, hg.trans hP.row, own_by hP.own fun k e => ho k e, hP.lo⟩, rfl⟩
  fO := 104
  fG := 103
  fT := 106
  fK := 107
  fS := 105
  eO := fun _ _ => entersFn Try.func104 (by kernel_rfl) (by kernel_rfl) _ _
  eG := fun _ _ => entersFn Try.func103 (by kernel_rfl) (by kernel_rfl) _ _
  eT := fun _ _ => entersFn Try.func106 (by kernel_rfl) (by kernel_rfl) _ _
  eK := fun _ _ => entersFn Try.func107 (by kernel_rfl) (by kernel_rfl) _ _
  eS := fun _ _ => entersFn Try.func105 (by kernel_rfl) (by kernel_rfl) _ _
  mO := fun _ _ => rfl
  mG := fun _ _ => rfl
  mT := fun _ _ => rfl
  mK := fun _ _ => rfl
  mS := fun _ _ => rfl
  cO := fun W g o s n a b h hl hn ha hb => wrO_any B W g o s n a b h hl hn ha hb
  cG := fun W g o s n m h hl hn _ => wrG_any B W g o s n m h hl hn
  cT := fun W g o s x h hl hx => wrT_any B W g o s x h hl hx
  cS := fun W g o s h => wrS_any B W g o s h
end Go.Proofs.Ytlcgjlganmblpaa
