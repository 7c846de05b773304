/-
  The program's log in memory: the disk, the table, the number, how many records lie behind the base.
  wal's small functions walked: isBegun, power, N, Behind, headText, row.
-/
import Derived.Test.YtdcjhpnakbejkaaGreatDoorRSum
import Derived.Test.YtdcjhpnakbejkaaGreatDoorRWlBase
import Derived.Test.YtdcjhpnakbejkaaGreatDoorRWlM
import Derived.Test.YtdcjhpnakbejkaaGreatDoorRDkP
import Derived.Test.YtdcjhpnakbejkaaGreatDoorRFrW
import Derived.Test.YtdcjhpnakbejkaaGreatDoorRNum
import Derived.Lib.LaidTab
import Derived.Lib.ItoaNum
import Derived.Lib.SmallJoins
set_option linter.unusedSimpArgs false
set_option linter.unusedVariables false
namespace Go.Proofs.YtdcjhpnakbejkaaGreatDoor
open Go.RowKit
def logC (p n b : Nat) : Array Value := (Value.pointer (some ⟨p, 0, none⟩) :: (tabA.toList ++ [Value.int .u64 (n : Int), Value.int .i64 (b : Int)])).toArray
theorem tabL_length : tabA.toList.length = 256 := by rw [Array.length_toList, tabA_size]
theorem logC_size (p n b : Nat) : (logC p n b).size = 259 := by unfold logC; simp [tabA_size]
theorem logC_0 (p n b : Nat) : (logC p n b)[0]? = some (.pointer (some ⟨p, 0, none⟩)) := by unfold logC; simp
theorem logC_tab (p n b i : Nat) (h : i < 256) : (logC p n b)[1 + i]? = some (.int .u32 ((Cr.tab i : Nat) : Int)) := by
  unfold logC
  rw [List.getElem?_toArray, Nat.add_comm, List.getElem?_cons_succ, List.getElem?_append_left (by rw [tabL_length]; exact h), Array.getElem?_toList, tabA_at i h]
theorem logC_n (p n b : Nat) : (logC p n b)[257]? = some (.int .u64 (n : Int)) := by
  unfold logC
  rw [List.getElem?_toArray, List.getElem?_cons_succ, List.getElem?_append_right (by rw [tabL_length]; exact Nat.le_refl _), tabL_length]; rfl
theorem logC_b (p n b : Nat) : (logC p n b)[258]? = some (.int .i64 (b : Int)) := by
  unfold logC
  rw [List.getElem?_toArray, List.getElem?_cons_succ, List.getElem?_append_right (by rw [tabL_length]; decide), tabL_length]; rfl
theorem logC_put (p n b c : Nat) : (logC p n b).setIfInBounds 258 (.int .i64 (c : Int)) = logC p n c := by
  unfold logC
  apply Array.ext'
  rw [Array.toList_setIfInBounds]
  show List.set (_ :: _) 258 _ = _
  rw [List.set_cons_succ, List.set_append_right _ _ (by rw [tabL_length]; decide), tabL_length]
  rfl
attribute [irreducible] logC
theorem sizeLog : (Tryz.prog.info? 74).map (·.size) = some 259 := by kernel_rfl
/-- A log lies at q. -/
def LogAt (W : World) (q p n b : Nat) : Prop := W.heap[q]? = some (.cells (logC p n b) 74 (0, 0))
section
variable {W : World} {q p n b : Nat}
theorem LogAt.lt (h : LogAt W q p n b) : q < W.heap.size := (Array.getElem?_eq_some_iff.1 h).1
theorem LogAt.c0 (h : LogAt W q p n b) : W.cell? ⟨q, 0, none⟩ = some (.pointer (some ⟨p, 0, none⟩)) := by rw [cell_of_row W q 0 _ _ _ h, logC_0]
theorem LogAt.cn (h : LogAt W q p n b) : W.cell? ⟨q, 257, none⟩ = some (.int .u64 (n : Int)) := by rw [cell_of_row W q 257 _ _ _ h, logC_n]
theorem LogAt.cb (h : LogAt W q p n b) : W.cell? ⟨q, 258, none⟩ = some (.int .i64 (b : Int)) := by rw [cell_of_row W q 258 _ _ _ h, logC_b]
theorem LogAt.tab (h : LogAt W q p n b) : TabO W q 1 Cr.tab := ⟨h.lt, fun i hi => by rw [cell_of_row W q (1 + i) _ _ _ h, logC_tab p n b i hi]⟩
theorem LogAt.free (h : LogAt W q p n b) (i : Nat) : W.frozen? ⟨q, i, none⟩ = false := frozen_of_row W q i _ _ h
theorem LogAt.put (h : LogAt W q p n b) (c : Nat) : LogAt (W.setCell ⟨q, 258, none⟩ (.int .i64 (c : Int))) q p n c := by
  unfold LogAt
  rw [heap_setCell_same W q 258 _ _ _ h, logC_put]
theorem LogAt.kept {W' : World} (h : LogAt W q p n b) (hk : W'.heap[q]? = W.heap[q]?) : LogAt W' q p n b := hk.trans h
theorem LogAt.below {W' : World} (h : LogAt W q p n b) (hb : Below W.heap.size W W') : LogAt W' q p n b := h.kept (hb.block q h.lt)
theorem LogAt.ko {W' : World} {S : Nat → Prop} (h : LogAt W q p n b) (hb : Ko S W W') (hq : ¬ S q) : LogAt W' q p n b := h.kept (hb.block q h.lt hq)
end
/-! ### What the listed variables hold -/
/-- The powers of ten. -/
def EnvT (w : World) : Prop := Lib.TabIs Tryz.prog w "internal/strconv.uint64pow10" .u64 Lib.pow10Tab
theorem gPow : Tryz.prog.globalNamed "internal/strconv.uint64pow10" = some 2 := by kernel_rfl
theorem EnvT.below {w w' : World} {B : Nat} (h : EnvT w) (hb : Below B w w') (hB : w.heap.size ≤ B) : EnvT w' := Joins.var_stays gPow h hb hB
theorem var_lt {P : Program} {w : World} {n : String} {g : Nat} {cs : Array Value} (hg : P.globalNamed n = some g) (h : w.var? P n = some cs) : g < w.heap.size := by
  unfold World.var? at h
  rw [hg] at h
  simp only [Option.bind_some] at h
  rcases Nat.lt_or_ge g w.heap.size with h' | h'
  · exact h'
  · simp [Array.getElem?_eq_none h'] at h
theorem var_block {P : Program} {w w' : World} {n : String} {g : Nat} {cs : Array Value} (hg : P.globalNamed n = some g) (h : w.var? P n = some cs) (hk : w'.heap[g]? = w.heap[g]?) : w'.var? P n = some cs := by
  unfold World.var? at h ⊢
  rw [hg] at h ⊢
  simp only [Option.bind_some] at h ⊢
  rw [hk]; exact h
/-- A name's bytes. -/
def NameSays : Prop := ∀ (n : Nat) (W : World), n < Nm.top → EnvT W → Calls Tryz.prog 24 #[.int .u64 (n : Int)] W fun e w' => e = .returned (.string (Wl.name n)) ∧ Below W.heap.size W w'
end Go.Proofs.YtdcjhpnakbejkaaGreatDoor
namespace Go.Proofs.YtdcjhpnakbejkaaGreatDoor
open Go.RowKit
theorem isBegun_any (W : World) (q p n b : Nat) (h : LogAt W q p n b) : Calls Tryz.prog 88 #[.pointer (some ⟨q, 0, none⟩)] W fun e w' => e = .returned (.bool true) ∧ W = w' := by
  have c0 := h.c0
  clear h
  go_enter Tryz.func88, Tryz.ntmps88
  go_wp2
  go_ret
  exact ⟨rfl, rfl⟩
theorem isBegun_nil (W : World) : Calls Tryz.prog 88 #[.pointer none] W fun e w' => e = .returned (.bool false) ∧ W = w' := by
  go_enter Tryz.func88, Tryz.ntmps88
  go_wp2
  go_ret
  exact ⟨rfl, rfl⟩
theorem isBegun_zero (W : World) (q : Nat) (h : W.cell? ⟨q, 0, none⟩ = some (.pointer none)) : Calls Tryz.prog 88 #[.pointer (some ⟨q, 0, none⟩)] W fun e w' => e = .returned (.bool false) ∧ W = w' := by
  go_enter Tryz.func88, Tryz.ntmps88
  go_wp2
  go_ret
  exact ⟨rfl, rfl⟩
theorem logN_any (W : World) (q p n b : Nat) (h : LogAt W q p n b) : Calls Tryz.prog 32 #[.pointer (some ⟨q, 0, none⟩)] W fun e w' => e = .returned (.int .u64 (n : Int)) ∧ W = w' := by
  have H := Lib.hid (isBegun_any W q p n b h)
  have cn := h.cn
  clear h
  go_enter Tryz.func32, Tryz.ntmps32
  go_wp2_with fail
  refine H.out.mono ?_
  rintro e w1 ⟨rfl, rfl⟩
  go_wp2_with fail
  go_ret
  exact ⟨rfl, rfl⟩
theorem logN_nil (W : World) : Calls Tryz.prog 32 #[.pointer none] W fun e w' => e = .returned (.int .u64 0) ∧ W = w' := by
  have H := Lib.hid (isBegun_nil W)
  go_enter Tryz.func32, Tryz.ntmps32
  go_wp2_with fail
  refine H.out.mono ?_
  rintro e w1 ⟨rfl, rfl⟩
  go_wp2_with fail
  go_ret
  exact ⟨rfl, rfl⟩
theorem behind_any (W : World) (q p n b : Nat) (h : LogAt W q p n b) : Calls Tryz.prog 30 #[.pointer (some ⟨q, 0, none⟩)] W fun e w' => e = .returned (.int .i64 (b : Int)) ∧ W = w' := by
  have H := Lib.hid (isBegun_any W q p n b h)
  have cb := h.cb
  clear h
  go_enter Tryz.func30, Tryz.ntmps30
  go_wp2_with fail
  refine H.out.mono ?_
  rintro e w1 ⟨rfl, rfl⟩
  go_wp2_with fail
  go_ret
  exact ⟨rfl, rfl⟩
theorem behind_nil (W : World) : Calls Tryz.prog 30 #[.pointer none] W fun e w' => e = .returned (.int .i64 0) ∧ W = w' := by
  have H := Lib.hid (isBegun_nil W)
  go_enter Tryz.func30, Tryz.ntmps30
  go_wp2_with fail
  refine H.out.mono ?_
  rintro e w1 ⟨rfl, rfl⟩
  go_wp2_with fail
  go_ret
  exact ⟨rfl, rfl⟩
section
variable {At : DkAt}
theorem wpower_any (K : DiskK At) (W : World) (p tb : Nat) (S : Nat → Prop) (d : Dk.D) (h : At W p S d) : Calls Tryz.prog 79 #[.pointer (some ⟨p, 0, none⟩), .pointer (some ⟨tb, 0, none⟩)] W fun e w' => e = .returned (.int .i64 (if d.off then 7 else 0)) ∧ Below W.heap.size W w' := by
  have H := Lib.hid (K.down W p S d h)
  rcases ho : d.off with _ | _
  · rw [ho] at H
    clear h ho
    go_enter Tryz.func79, Tryz.ntmps79
    go_wp2_with fail
    refine H.out.mono ?_
    rintro e w1 ⟨rfl, hb⟩
    go_wp2_with fail
    go_ret
    exact ⟨rfl, hb⟩
  · rw [ho] at H
    clear h ho
    go_enter Tryz.func79, Tryz.ntmps79
    go_wp2_with fail
    refine H.out.mono ?_
    rintro e w1 ⟨rfl, hb⟩
    go_wp2_with fail
    go_ret
    exact ⟨rfl, hb⟩
end
theorem wpower_nil (W : World) (v : Value) : Calls Tryz.prog 79 #[.pointer none, v] W fun e w' => e = .returned (.int .i64 2) ∧ W = w' := by
  go_enter Tryz.func79, Tryz.ntmps79
  go_wp2_with fail
  go_ret
  exact ⟨rfl, rfl⟩
theorem wpower_notab (W : World) (p : Nat) : Calls Tryz.prog 79 #[.pointer (some ⟨p, 0, none⟩), .pointer none] W fun e w' => e = .returned (.int .i64 2) ∧ W = w' := by
  go_enter Tryz.func79, Tryz.ntmps79
  go_wp2_with fail
  go_ret
  exact ⟨rfl, rfl⟩
/-- V of a slice that the caller has just built. -/
theorem V_one (W : World) (n : Nat) (hn : n < Nm.top) : Calls Tryz.prog 147 #[.slice (some ⟨W.heap.size, 0, none⟩) 1 1] (W.alloc (.cells #[.int .u64 (n : Int)] 38)) (RetS (Nm.grp n) W) := by
  refine (V_any [n] (fun x hx => by rw [List.mem_singleton.1 hx]; exact hn) _ 1 _ (Lies.new W (uc [n]) 38) (by simp)).mono ?_
  rintro e w' ⟨h1, h2⟩
  exact ⟨by rw [h1]; simp [vs], bnext (bnew (Below.refl _ _) _) h2⟩
theorem V_two (W : World) (n m : Nat) (hn : n < Nm.top) (hm : m < Nm.top) : Calls Tryz.prog 147 #[.slice (some ⟨W.heap.size, 0, none⟩) 2 2] (W.alloc (.cells #[.int .u64 (n : Int), .int .u64 (m : Int)] 38)) (RetS (Nm.grp n ++ Nm.grp m) W) := by
  refine (V_any [n, m] (fun x hx => by rcases List.mem_cons.1 hx with rfl | hx; exact hn; rw [List.mem_singleton.1 hx]; exact hm) _ 2 _ (Lies.new W (uc [n, m]) 38) (by simp)).mono ?_
  rintro e w' ⟨h1, h2⟩
  exact ⟨by rw [h1]; simp [vs], bnext (bnew (Below.refl _ _) _) h2⟩
theorem ba_add (a b : List UInt8) : (⟨a.toArray⟩ : ByteArray) ++ ⟨b.toArray⟩ = ⟨(a ++ b).toArray⟩ := by
  apply ByteArray.ext; simp [ByteArray.data_append]
theorem ba_add' (a : List UInt8) (t : ByteArray) : (⟨a.toArray⟩ : ByteArray) ++ t = ⟨(a ++ t.data.toList).toArray⟩ := by
  apply ByteArray.ext; simp [ByteArray.data_append]
set_option maxRecDepth 100000 in
set_option maxHeartbeats 1000000 in
theorem headText_any (W : World) (b s : Nat) (hb : b ≤ 1000000000) (hs : s < Nm.top) : Calls Tryz.prog 84 #[.int .i64 (b : Int), .int .u64 (s : Int)] W (RetS (Wl.headT b s) W) := by
  have HU := Lib.hid (fun W => U_any 1 1 W (by decide) (by decide))
  have HV := Lib.hid (fun W => V_two W b s (by unfold Nm.top; omega) hs)
  obtain ⟨u, hu⟩ : ∃ u : ByteArray, u = ⟨(Nm.wid 1 1).toArray⟩ := ⟨_, rfl⟩
  obtain ⟨v, hv⟩ : ∃ v : ByteArray, v = ⟨(Nm.grp b ++ Nm.grp s).toArray⟩ := ⟨_, rfl⟩
  unfold RetS at HU HV
  rw [← hu] at HU
  rw [← hv] at HV
  have hus : u.size ≤ 1 := by rw [hu, Lib.size_eq]; simp [Nm.wid_length]
  have hvs : v.size ≤ 20 := by
    have h1 := grp_len b (by unfold Nm.top; omega)
    have h2 := grp_len s hs
    rw [hv, Lib.size_eq]; simp; omega
  have HE : Hid (u ++ v = ⟨(Wl.headT b s).toArray⟩) := Lib.hid (by rw [hu, hv, ba_add]; rfl)
  clear hu hv hs
  go_enter Tryz.func84, Tryz.ntmps84
  go_wp2_with fail
  refine (HU.out _).mono ?_
  rintro e w1 ⟨rfl, hb1⟩
  go_wp2_with fail
  refine (HV.out _).mono ?_
  rintro e w2 ⟨rfl, hb2⟩
  go_wp2_with fail
  go_ret
  exact ⟨by rw [HE.out]; rfl, bnext hb1 hb2⟩
set_option maxRecDepth 100000 in
set_option maxHeartbeats 1000000 in
theorem row_any (W : World) (g o : Nat) (t : ByteArray) (ht : TabO W g o Cr.tab) (hs : t.size ≤ 100000000) : Calls Tryz.prog 143 #[.pointer (some ⟨g, o, none⟩), .string t] W (RetS (Wl.row t.data.toList) W) := by
  have HV := Lib.hid (fun W => V_one W t.size (by unfold Nm.top; omega))
  have HO : Hid (∀ w1, Below W.heap.size W w1 → Calls Tryz.prog 150 #[.pointer (some ⟨g, o, none⟩), .slice (some ⟨w1.heap.size, 0, none⟩) 1 1] (w1.alloc (.cells #[.string t] 9)) fun e w' => e = .returned (.int .u32 ((Cr.crc t.data.toList : Nat) : Int)) ∧ Below w1.heap.size w1 w') := Lib.hid fun w1 hb => by
    refine (ofO_one _ g o _ 1 t ((ht.below hb).below (bnew (Below.refl _ _) _)) (Lies.new w1 (sc [t]) 9) (by omega)).mono ?_
    rintro e w' ⟨h1, h2⟩
    exact ⟨h1, bnext (bnew (Below.refl _ _) _) h2⟩
  have hcl := Cr.crc_lt t.data.toList
  obtain ⟨c, hc⟩ : ∃ c, c = Cr.crc t.data.toList := ⟨_, rfl⟩
  rw [← hc] at HO hcl
  have HU := Lib.hid (fun W => U_any c 4 W (by decide) (by decide))
  unfold RetS at HU HV
  obtain ⟨u, hu⟩ : ∃ u : ByteArray, u = ⟨(Nm.wid 4 c).toArray⟩ := ⟨_, rfl⟩
  obtain ⟨v, hv⟩ : ∃ v : ByteArray, v = ⟨(Nm.grp t.size).toArray⟩ := ⟨_, rfl⟩
  rw [← hu] at HU
  rw [← hv] at HV
  have hus : u.size ≤ 4 := by rw [hu, Lib.size_eq]; simp [Nm.wid_length]
  have hvs : v.size ≤ 10 := by
    have h1 := grp_len t.size (by unfold Nm.top; omega)
    rw [hv, Lib.size_eq]; simpa using h1
  have HE : Hid (v ++ u ++ t = ⟨(Wl.row t.data.toList).toArray⟩) := Lib.hid (by
    rw [hu, hv, ba_add, ba_add']
    unfold Wl.row
    rw [← hc, ← Lib.size_eq, List.append_assoc])
  clear hu hv ht hc
  go_enter Tryz.func143, Tryz.ntmps143
  go_wp2_with fail
  refine (HV.out _).mono ?_
  rintro e w1 ⟨rfl, hb1⟩
  have H1 := Lib.hid hb1
  clear hb1
  go_wp2_with fail
  refine (HO.out _ H1.out).mono ?_
  rintro e w2 ⟨rfl, hb2⟩
  have H2 := Lib.hid (bnext H1.out hb2)
  clear hb2
  go_wp2_with fail
  refine (HU.out _).mono ?_
  rintro e w3 ⟨rfl, hb3⟩
  go_wp2_with fail
  go_ret
  exact ⟨by rw [HE.out]; rfl, bnext H2.out hb3⟩
end Go.Proofs.YtdcjhpnakbejkaaGreatDoor
