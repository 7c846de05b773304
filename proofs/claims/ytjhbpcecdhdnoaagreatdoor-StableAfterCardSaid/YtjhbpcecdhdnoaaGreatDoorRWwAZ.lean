/-
  The program's log in memory: the disk, the table, the number, how many records lie behind the base.
  wal's small functions walked: isBegun, power, N, Behind, headText, row.
  A region whose order is open, in a frame of any size: each operation leaves a value of which something is known, whenever what it waits for has been carried out; so at the end all of it is known, whatever the order was.
  A region's step: a call of whose value one thing is known.
-/
import Derived.Test.YtjhbpcecdhdnoaaGreatDoorRSum
import Derived.Test.YtjhbpcecdhdnoaaGreatDoorRWlBaseZ
import Derived.Test.YtjhbpcecdhdnoaaGreatDoorRWlM
import Derived.Test.YtjhbpcecdhdnoaaGreatDoorRDkP
import Derived.Test.YtjhbpcecdhdnoaaGreatDoorRFrWZ
import Derived.Lib.LaidTab
import Derived.Lib.ItoaNum
import Derived.Lib.SmallJoins
import Derived.Orders
import Derived.Below
import Derived.WalkKit
set_option linter.unusedSimpArgs false
set_option linter.unusedVariables false
namespace Go.Proofs.YtjhbpcecdhdnoaaGreatDoor
open Go.RowKit
def logC (p n b : Nat) : Array Value := (Value.pointer (some ⟨p, 0, none⟩) :: (tabA.toList ++ [Value.int .u64 (n : Int), Value.int .i64 (b : Int)])).toArray
theorem tabL_length : tabA.toList.length = 256 := by rw [Array.length_toList, tabA_size]
theorem logC_size (p n b : Nat) : (logC p n b).size = 259 := by unfold logC; simp [tabA_size]
theorem logC_0 (p n b : Nat) : (logC p n b)[0]? = some (.pointer (some ⟨p, 0, none⟩)) := by unfold logC; simp
theorem logC_tab (p n b i : Nat) (h : i < 256) : (logC p n b)[1 + i]? = some (.int .u32 ((Cr.tab i : Nat) : Int)) := by
  unfold logC
  rw [List.getElem?_toArray, Nat.add_comm, List.getElem?_cons_succ, List.getElem?_append_left (by rw [tabL_length]; exact h), Array.getElem?_toList, tabA_at i h]
theorem logC_n (p n b : Nat) : (logC p n b)[257]? = some (.int .u64 (n : Int)) := by
  unfold logC
  rw [List.getElem?_toArray, List.getElem?_cons_succ, List.getElem?_append_right (by rw [tabL_length]; exact Nat.le_refl _), tabL_length]; rfl
theorem logC_b (p n b : Nat) : (logC p n b)[258]? = some (.int .i64 (b : Int)) := by
  unfold logC
  rw [List.getElem?_toArray, List.getElem?_cons_succ, List.getElem?_append_right (by rw [tabL_length]; decide), tabL_length]; rfl
theorem logC_put (p n b c : Nat) : (logC p n b).setIfInBounds 258 (.int .i64 (c : Int)) = logC p n c := by
  unfold logC
  apply Array.ext'
  rw [Array.toList_setIfInBounds]
  show List.set (_ :: _) 258 _ = _
  rw [List.set_cons_succ, List.set_append_right _ _ (by rw [tabL_length]; decide), tabL_length]
  rfl
attribute [irreducible] logC
def LogAt (W : World) (q p n b : Nat) : Prop := W.heap[q]? = some (.cells (logC p n b) 162 (0, 0))
section
variable {W : World} {q p n b : Nat}
theorem LogAt.lt (h : LogAt W q p n b) : q < W.heap.size := (Array.getElem?_eq_some_iff.1 h).1
theorem LogAt.c0 (h : LogAt W q p n b) : W.cell? ⟨q, 0, none⟩ = some (.pointer (some ⟨p, 0, none⟩)) := by rw [cell_of_row W q 0 _ _ _ h, logC_0]
theorem LogAt.cn (h : LogAt W q p n b) : W.cell? ⟨q, 257, none⟩ = some (.int .u64 (n : Int)) := by rw [cell_of_row W q 257 _ _ _ h, logC_n]
theorem LogAt.cb (h : LogAt W q p n b) : W.cell? ⟨q, 258, none⟩ = some (.int .i64 (b : Int)) := by rw [cell_of_row W q 258 _ _ _ h, logC_b]
theorem LogAt.tab (h : LogAt W q p n b) : TabO W q 1 Cr.tab := ⟨h.lt, fun i hi => by rw [cell_of_row W q (1 + i) _ _ _ h, logC_tab p n b i hi]⟩
theorem LogAt.free (h : LogAt W q p n b) (i : Nat) : W.frozen? ⟨q, i, none⟩ = false := frozen_of_row W q i _ _ h
theorem LogAt.put (h : LogAt W q p n b) (c : Nat) : LogAt (W.setCell ⟨q, 258, none⟩ (.int .i64 (c : Int))) q p n c := by
  unfold LogAt
  rw [heap_setCell_same W q 258 _ _ _ h, logC_put]
theorem LogAt.kept {W' : World} (h : LogAt W q p n b) (hk : W'.heap[q]? = W.heap[q]?) : LogAt W' q p n b := hk.trans h
theorem LogAt.below {W' : World} (h : LogAt W q p n b) (hb : Below W.heap.size W W') : LogAt W' q p n b := h.kept (hb.block q h.lt)
theorem LogAt.ko {W' : World} {S : Nat → Prop} (h : LogAt W q p n b) (hb : Ko S W W') (hq : ¬ S q) : LogAt W' q p n b := h.kept (hb.block q h.lt hq)
end
/-! ### What the listed variables hold -/
def EnvT (w : World) : Prop := Lib.TabIs Tryz.prog w "internal/strconv.uint64pow10" .u64 Lib.pow10Tab
theorem gPow : Tryz.prog.globalNamed "internal/strconv.uint64pow10" = some 2 := by kernel_rfl
theorem EnvT.below {w w' : World} {B : Nat} (h : EnvT w) (hb : Below B w w') (hB : w.heap.size ≤ B) : EnvT w' := Joins.var_stays gPow h hb hB
def NameSays : Prop := ∀ (n : Nat) (W : World), n < Nm.top → EnvT W → Calls Tryz.prog 90 #[.int .u64 (n : Int)] W fun e w' => e = .returned (.string (Wl.name n)) ∧ Below W.heap.size W w'
end Go.Proofs.YtjhbpcecdhdnoaaGreatDoor
namespace Go.Proofs.YtjhbpcecdhdnoaaGreatDoor
open Go.RowKit
theorem isBegun_any (W : World) (q p n b : Nat) (h : LogAt W q p n b) : Calls Tryz.prog 95 #[.pointer (some ⟨q, 0, none⟩)] W fun e w' => e = .returned (.bool true) ∧ W = w' := by
  have c0 := h.c0
  clear h
  go_enter Tryz.func95, Tryz.ntmps95
  go_wp2
  go_ret
  exact ⟨rfl, rfl⟩
theorem logN_any (W : World) (q p n b : Nat) (h : LogAt W q p n b) : Calls Tryz.prog 50 #[.pointer (some ⟨q, 0, none⟩)] W fun e w' => e = .returned (.int .u64 (n : Int)) ∧ W = w' := by
  have H := Lib.hid (isBegun_any W q p n b h)
  have cn := h.cn
  clear h
  go_enter Tryz.func50, Tryz.ntmps50
  go_wp2_with fail
  refine H.out.mono ?_
  rintro e w1 ⟨rfl, rfl⟩
  go_wp2_with fail
  go_ret
  exact ⟨rfl, rfl⟩
theorem behind_any (W : World) (q p n b : Nat) (h : LogAt W q p n b) : Calls Tryz.prog 51 #[.pointer (some ⟨q, 0, none⟩)] W fun e w' => e = .returned (.int .i64 (b : Int)) ∧ W = w' := by
  have H := Lib.hid (isBegun_any W q p n b h)
  have cb := h.cb
  clear h
  go_enter Tryz.func51, Tryz.ntmps51
  go_wp2_with fail
  refine H.out.mono ?_
  rintro e w1 ⟨rfl, rfl⟩
  go_wp2_with fail
  go_ret
  exact ⟨rfl, rfl⟩
section
variable {At : DkAt}
theorem wpower_any (K : DiskK At) (W : World) (p tb : Nat) (S : Nat → Prop) (d : Dk.D) (h : At W p S d) : Calls Tryz.prog 88 #[.pointer (some ⟨p, 0, none⟩), .pointer (some ⟨tb, 0, none⟩)] W fun e w' => e = .returned (.int .i64 (if d.off then 7 else 0)) ∧ Below W.heap.size W w' := by
  have H := Lib.hid (K.down W p S d h)
  rcases ho : d.off with _ | _
  · rw [ho] at H
    clear h ho
    go_enter Tryz.func88, Tryz.ntmps88
    go_wp2_with fail
    refine H.out.mono ?_
    rintro e w1 ⟨rfl, hb⟩
    go_wp2_with fail
    go_ret
    exact ⟨rfl, hb⟩
  · rw [ho] at H
    clear h ho
    go_enter Tryz.func88, Tryz.ntmps88
    go_wp2_with fail
    refine H.out.mono ?_
    rintro e w1 ⟨rfl, hb⟩
    go_wp2_with fail
    go_ret
    exact ⟨rfl, hb⟩
end
theorem V_one (W : World) (n : Nat) (hn : n < Nm.top) : Calls Tryz.prog 147 #[.slice (some ⟨W.heap.size, 0, none⟩) 1 1] (W.alloc (.cells #[.int .u64 (n : Int)] 38)) (RetS (Nm.grp n) W) := by
  refine (V_any [n] (fun x hx => by rw [List.mem_singleton.1 hx]; exact hn) _ 1 _ (Lies.new W (uc [n]) 38) (by simp)).mono ?_
  rintro e w' ⟨h1, h2⟩
  exact ⟨by rw [h1]; simp [vs], bnext (bnew (Below.refl _ _) _) h2⟩
theorem V_two (W : World) (n m : Nat) (hn : n < Nm.top) (hm : m < Nm.top) : Calls Tryz.prog 147 #[.slice (some ⟨W.heap.size, 0, none⟩) 2 2] (W.alloc (.cells #[.int .u64 (n : Int), .int .u64 (m : Int)] 38)) (RetS (Nm.grp n ++ Nm.grp m) W) := by
  refine (V_any [n, m] (fun x hx => by rcases List.mem_cons.1 hx with rfl | hx; exact hn; rw [List.mem_singleton.1 hx]; exact hm) _ 2 _ (Lies.new W (uc [n, m]) 38) (by simp)).mono ?_
  rintro e w' ⟨h1, h2⟩
  exact ⟨by rw [h1]; simp [vs], bnext (bnew (Below.refl _ _) _) h2⟩
theorem ba_add (a b : List UInt8) : (⟨a.toArray⟩ : ByteArray) ++ ⟨b.toArray⟩ = ⟨(a ++ b).toArray⟩ := by
  apply ByteArray.ext; simp [ByteArray.data_append]
theorem ba_add' (a : List UInt8) (t : ByteArray) : (⟨a.toArray⟩ : ByteArray) ++ t = ⟨(a ++ t.data.toList).toArray⟩ := by
  apply ByteArray.ext; simp [ByteArray.data_append]
set_option maxRecDepth 100000 in
set_option maxHeartbeats 1000000 in
theorem headText_any (W : World) (b s : Nat) (hb : b ≤ 1000000000) (hs : s < Nm.top) : Calls Tryz.prog 94 #[.int .i64 (b : Int), .int .u64 (s : Int)] W (RetS (Wl.headT b s) W) := by
  have HU := Lib.hid (fun W => U_any 1 1 W (by decide) (by decide))
  have HV := Lib.hid (fun W => V_two W b s (by unfold Nm.top; omega) hs)
  obtain ⟨u, hu⟩ : ∃ u : ByteArray, u = ⟨(Nm.wid 1 1).toArray⟩ := ⟨_, rfl⟩
  obtain ⟨v, hv⟩ : ∃ v : ByteArray, v = ⟨(Nm.grp b ++ Nm.grp s).toArray⟩ := ⟨_, rfl⟩
  unfold RetS at HU HV
  rw [← hu] at HU
  rw [← hv] at HV
  have hus : u.size ≤ 1 := by rw [hu, Lib.size_eq]; simp [Nm.wid_length]
  have hvs : v.size ≤ 20 := by
    have h1 := grp_len b (by unfold Nm.top; omega)
    have h2 := grp_len s hs
    rw [hv, Lib.size_eq]; simp; omega
  have HE : Hid (u ++ v = ⟨(Wl.headT b s).toArray⟩) := Lib.hid (by rw [hu, hv, ba_add]; rfl)
  clear hu hv hs
  go_enter Tryz.func94, Tryz.ntmps94
  go_wp2_with fail
  refine (HU.out _).mono ?_
  rintro e w1 ⟨rfl, hb1⟩
  go_wp2_with fail
  refine (HV.out _).mono ?_
  rintro e w2 ⟨rfl, hb2⟩
  go_wp2_with fail
  go_ret
  exact ⟨by rw [HE.out]; rfl, bnext hb1 hb2⟩
set_option maxRecDepth 100000 in
set_option maxHeartbeats 1000000 in
theorem row_any (W : World) (g o : Nat) (t : ByteArray) (ht : TabO W g o Cr.tab) (hs : t.size ≤ 100000000) : Calls Tryz.prog 143 #[.pointer (some ⟨g, o, none⟩), .string t] W (RetS (Wl.row t.data.toList) W) := by
  have HV := Lib.hid (fun W => V_one W t.size (by unfold Nm.top; omega))
  have HO : Hid (∀ w1, Below W.heap.size W w1 → Calls Tryz.prog 150 #[.pointer (some ⟨g, o, none⟩), .slice (some ⟨w1.heap.size, 0, none⟩) 1 1] (w1.alloc (.cells #[.string t] 9)) fun e w' => e = .returned (.int .u32 ((Cr.crc t.data.toList : Nat) : Int)) ∧ Below w1.heap.size w1 w') := Lib.hid fun w1 hb => by
    refine (ofO_one _ g o _ 1 t ((ht.below hb).below (bnew (Below.refl _ _) _)) (Lies.new w1 (sc [t]) 9) (by omega)).mono ?_
    rintro e w' ⟨h1, h2⟩
    exact ⟨h1, bnext (bnew (Below.refl _ _) _) h2⟩
  have hcl := Cr.crc_lt t.data.toList
  obtain ⟨c, hc⟩ : ∃ c, c = Cr.crc t.data.toList := ⟨_, rfl⟩
  rw [← hc] at HO hcl
  have HU := Lib.hid (fun W => U_any c 4 W (by decide) (by decide))
  unfold RetS at HU HV
  obtain ⟨u, hu⟩ : ∃ u : ByteArray, u = ⟨(Nm.wid 4 c).toArray⟩ := ⟨_, rfl⟩
  obtain ⟨v, hv⟩ : ∃ v : ByteArray, v = ⟨(Nm.grp t.size).toArray⟩ := ⟨_, rfl⟩
  rw [← hu] at HU
  rw [← hv] at HV
  have hus : u.size ≤ 4 := by rw [hu, Lib.size_eq]; simp [Nm.wid_length]
  have hvs : v.size ≤ 10 := by
    have h1 := grp_len t.size (by unfold Nm.top; omega)
    rw [hv, Lib.size_eq]; simpa using h1
  have HE : Hid (v ++ u ++ t = ⟨(Wl.row t.data.toList).toArray⟩) := Lib.hid (by
    rw [hu, hv, ba_add, ba_add']
    unfold Wl.row
    rw [← hc, ← Lib.size_eq, List.append_assoc])
  clear hu hv ht hc
  go_enter Tryz.func143, Tryz.ntmps143
  go_wp2_with fail
  refine (HV.out _).mono ?_
  rintro e w1 ⟨rfl, hb1⟩
  have H1 := Lib.hid hb1
  clear hb1
  go_wp2_with fail
  refine (HO.out _ H1.out).mono ?_
  rintro e w2 ⟨rfl, hb2⟩
  have H2 := Lib.hid (bnext H1.out hb2)
  clear hb2
  go_wp2_with fail
  refine (HU.out _).mono ?_
  rintro e w3 ⟨rfl, hb3⟩
  go_wp2_with fail
  go_ret
  exact ⟨by rw [HE.out]; rfl, bnext H2.out hb3⟩
end Go.Proofs.YtjhbpcecdhdnoaaGreatDoor
namespace Go.Proofs.YtjhbpcecdhdnoaaGreatDoor
open Go.RowKit
namespace Reg

def dst? (l : List Oper) (i : Nat) : Option Tmp := (l[i]?).bind (·.dst)
def waits (o : Oper) (j : Nat) : Bool := o.after.any fun e => Region.binds .any e && e.on == j
theorem waits_spec {o : Oper} {j : Nat} (h : waits o j = true) : ∃ e ∈ o.after, Region.binds .any e = true ∧ e.on = j := by
  unfold waits at h
  rw [← Array.any_toList, List.any_eq_true] at h
  obtain ⟨e, he, hb⟩ := h
  simp only [Bool.and_eq_true, beq_iff_eq] at hb
  exact ⟨e, by simpa using he, hb⟩
def baseFrom (k s : Nat) : Nat → List Oper → Bool
  | _, [] => true
  | j, o :: r => (decide (o.dst ≠ some s) || decide (j = k) || waits o k) && baseFrom k s (j + 1) r
def baseB (l : List Oper) (k s : Nat) : Bool := baseFrom k s 0 l
def backFrom : Nat → List Oper → Bool
  | _, [] => true
  | k, o :: r => o.after.all (fun e => decide (e.on < k)) && backFrom (k + 1) r
def apartB : List (Option Tmp) → Bool
  | [] => true
  | d :: r => r.all (fun x => decide (x ≠ d)) && apartB r
def okB (l : List Oper) (n : Nat) : Bool := l.all (fun (o : Oper) => match o.dst with | some d => decide (d < n) | none => false) && apartB (l.map (·.dst)) && backFrom 0 l

theorem baseFrom_spec {k s : Nat} : ∀ {l : List Oper} {j : Nat}, baseFrom k s j l = true → ∀ i o, l[i]? = some o → o.dst ≠ some s ∨ j + i = k ∨ waits o k = true
  | [], _, _, i, o, h => by simp at h
  | o :: r, j, hb, i, o', h => by
    simp only [baseFrom, Bool.and_eq_true, Bool.or_eq_true, decide_eq_true_eq] at hb
    rcases i with _ | i
    · simp at h; subst h
      rcases hb.1 with (h1 | h1) | h1
      · exact .inl h1
      · exact .inr (.inl (by omega))
      · exact .inr (.inr h1)
    · have := baseFrom_spec hb.2 i o' (by simpa using h)
      rcases this with h1 | h1 | h1
      · exact .inl h1
      · exact .inr (.inl (by omega))
      · exact .inr (.inr h1)
theorem backFrom_spec : ∀ {l : List Oper} {k : Nat}, backFrom k l = true → ∀ i o, l[i]? = some o → ∀ e ∈ o.after, e.on < k + i
  | [], _, _, i, o, h => by simp at h
  | o :: r, k, hb, i, o', h => by
    simp only [backFrom, Bool.and_eq_true, Array.all_eq_true_iff_forall_mem, decide_eq_true_eq] at hb
    rcases i with _ | i
    · simp at h; subst h; intro e he; have := hb.1 e he; omega
    · intro e he; have := backFrom_spec hb.2 i o' (by simpa using h) e he; omega
theorem apartB_spec : ∀ {ds : List (Option Tmp)}, apartB ds = true → ∀ (i j : Nat) (d : Option Tmp), ds[i]? = some d → ds[j]? = some d → i = j
  | [], _, i, _, d, h, _ => by simp at h
  | x :: r, hb, i, j, d, hi, hj => by
    simp only [apartB, Bool.and_eq_true, List.all_eq_true, decide_eq_true_eq] at hb
    rcases i with _ | i <;> rcases j with _ | j
    · rfl
    · simp at hi hj; subst hi; exact absurd rfl (hb.1 _ (List.mem_of_getElem? hj))
    · simp at hi hj; subst hj; exact absurd rfl (hb.1 _ (List.mem_of_getElem? hi))
    · have := apartB_spec hb.2 i j d (by simpa using hi) (by simpa using hj); omega

section
variable {P : Program} (l : List Oper) (Q : Exit → Act → World → Prop) (a0 : Act) (Inv : World → Prop) (R : World → World → Prop) (Good : Nat → Value → World → Prop)

def StepOk (P : Program) (k : Nat) (o : Oper) : Prop :=
  ∀ (a : Act) (w : World), a.tmps.size = a0.tmps.size → a.defers = a0.defers → Inv w →
    (∀ s, baseB l k s = true → a.tmps.getD s undef = a0.tmps.getD s undef) →
    (∀ j d, waits o j = true → dst? l j = some d → Good j (a.tmps.getD d undef) w) →
    if Region.wanted o (yielded l.toArray a.tmps) then o.wp P a w (fun a' w' => ∃ v, a' = a.put o.dst v ∧ Good k v w' ∧ R w w' ∧ Inv w') Q else Good k undef w
def StepsFrom (P : Program) : Nat → List Oper → Prop
  | _, [] => True
  | k, o :: r => StepOk l Q a0 Inv R Good P k o ∧ StepsFrom P (k + 1) r

def overlay (vals : Nat → Value) : Nat → List Oper → Array Value → Array Value
  | _, [], t => t
  | k, o :: r, t => overlay vals (k + 1) r (match o.dst with | some d => t.setIfInBounds d (vals k) | none => t)
end

theorem stepsFrom_at {P : Program} {l : List Oper} {Q : Exit → Act → World → Prop} {a0 : Act} {Inv : World → Prop} {R : World → World → Prop} {Good : Nat → Value → World → Prop} :
    ∀ {r : List Oper} {k : Nat}, StepsFrom l Q a0 Inv R Good P k r → ∀ i o, r[i]? = some o → StepOk l Q a0 Inv R Good P (k + i) o
  | [], _, _, i, o, h => by simp at h
  | o :: r, k, hs, i, o', h => by
    rcases i with _ | i
    · simp at h; subst h; exact hs.1
    · have := stepsFrom_at hs.2 i o' (by simpa using h)
      rwa [show k + 1 + i = k + (i + 1) by omega] at this

theorem overlay_size (vals : Nat → Value) : ∀ (l : List Oper) (k : Nat) (t : Array Value), (overlay vals k l t).size = t.size
  | [], _, _ => rfl
  | o :: r, k, t => by
    rw [overlay, overlay_size vals r]
    split <;> simp
theorem overlay_other (vals : Nat → Value) (s : Nat) : ∀ (l : List Oper) (k : Nat) (t : Array Value), (∀ o ∈ l, o.dst ≠ some s) → (overlay vals k l t)[s]? = t[s]?
  | [], _, _, _ => rfl
  | o :: r, k, t, h => by
    rw [overlay, overlay_other vals s r _ _ (fun x hx => h x (by simp [hx]))]
    have := h o (by simp)
    split
    · rename_i d hd
      rw [Array.getElem?_setIfInBounds_ne (by intro e; subst e; exact this hd)]
    · rfl
theorem overlay_at (vals : Nat → Value) (s : Nat) : ∀ (l : List Oper) (k : Nat) (t : Array Value) (i : Nat) (o : Oper), apartB (l.map (·.dst)) = true → l[i]? = some o → o.dst = some s → s < t.size → (overlay vals k l t)[s]? = some (vals (k + i))
  | [], _, _, i, o, _, h, _, _ => by simp at h
  | x :: r, k, t, i, o, hap, h, hd, hs => by
    simp only [List.map_cons, apartB, Bool.and_eq_true, List.all_eq_true, decide_eq_true_eq] at hap
    rcases i with _ | i
    · simp at h; subst h
      rw [overlay, hd, overlay_other vals s r]
      · simp [hs]
      · intro y hy e
        exact hap.1 (some s) (by rw [← e]; exact List.mem_map_of_mem hy) hd.symm
    · rw [overlay, overlay_at vals s r _ _ i o hap.2 (by simpa using h) hd (by split <;> simpa using hs)]
      congr 2; omega

theorem getD_put_same (a : Act) (d : Tmp) (v : Value) (h : d < a.tmps.size) : (a.put (some d) v).tmps.getD d undef = v := by
  simp [Act.put, h]
theorem getD_put_other (a : Act) (d s : Tmp) (v : Value) (h : s ≠ d) : (a.put (some d) v).tmps.getD s undef = a.tmps.getD s undef := by
  simp only [Act.put, Array.getD_eq_getD_getElem?]
  rw [Array.getElem?_setIfInBounds_ne (fun e => h e.symm)]

structure On (l : List Oper) (a0 : Act) (Inv : World → Prop) (Good : Nat → Value → World → Prop) (listed : Array Bool) (a : Act) (w : World) : Prop where
  ls : listed.size = l.length
  sz : a.tmps.size = a0.tmps.size
  df : a.defers = a0.defers
  inv : Inv w
  base : ∀ s, (∀ i, dst? l i = some s → listed.getD i false = false) → a.tmps.getD s undef = a0.tmps.getD s undef
  good : ∀ i d, listed.getD i false = true → dst? l i = some d → Good i (a.tmps.getD d undef) w
  shut : ∀ i o j, listed.getD i false = true → l[i]? = some o → waits o j = true → listed.getD j false = true

def unl (listed : Array Bool) : Nat := (List.range listed.size).countP fun i => !listed.getD i false

theorem getD_set (listed : Array Bool) (i j : Nat) (hi : i < listed.size) (b : Bool) : (listed.setIfInBounds i true).getD j b = if j = i then true else listed.getD j b := by
  by_cases h : j = i
  · subst h; simp [hi]
  · simp only [Array.getD_eq_getD_getElem?, if_neg h]
    rw [Array.getElem?_setIfInBounds_ne (fun e => h e.symm)]

theorem countP_lt {p q : Nat → Bool} : ∀ (l : List Nat) (i : Nat), i ∈ l → p i = true → q i = false → (∀ j, q j = true → p j = true) → l.countP q < l.countP p
  | [], i, h, _, _, _ => by cases h
  | x :: r, i, h, hp, hq, hle => by
    have hmono : r.countP q ≤ r.countP p := List.countP_mono_left (fun j _ hj => hle j hj)
    by_cases hx : x = i
    · subst hx
      rw [List.countP_cons_of_neg (by simp [hq]), List.countP_cons_of_pos hp]; omega
    · have hi : i ∈ r := by
        rcases List.mem_cons.1 h with h | h
        · exact absurd h.symm hx
        · exact h
      have := countP_lt r i hi hp hq hle
      simp only [List.countP_cons]
      by_cases hqx : q x = true
      · rw [if_pos hqx, if_pos (hle x hqx)]; omega
      · rw [if_neg hqx]; omega

theorem unl_set (listed : Array Bool) (i : Nat) (hi : i < listed.size) (hn : listed.getD i false = false) : unl (listed.setIfInBounds i true) < unl listed := by
  unfold unl
  rw [Array.size_setIfInBounds]
  refine countP_lt _ i (by simpa using hi) (by simp [hn]) (by rw [getD_set _ _ _ hi]; simp) (fun j hj => ?_)
  rw [getD_set _ _ _ hi] at hj
  by_cases h : j = i
  · subst h; simp at hj
  · rw [if_neg h] at hj; exact hj

theorem ready_spec {l : List Oper} {listed : Array Bool} {i : Nat} (h : i ∈ Region.ready .any l.toArray listed) (hls : listed.size = l.length) :
    ∃ o, l[i]? = some o ∧ listed.getD i false = false ∧ ∀ j, waits o j = true → listed.getD j false = true := by
  simp only [Region.ready, List.mem_filter, List.mem_range, List.size_toArray, Bool.and_eq_true, Bool.not_eq_true', List.getElem?_toArray] at h
  obtain ⟨hi, hn, ha⟩ := h
  obtain ⟨o, ho⟩ : ∃ o, l[i]? = some o := ⟨_, List.getElem?_eq_getElem hi⟩
  refine ⟨o, ho, ?_, ?_⟩
  · have : i < listed.size := by omega
    simp only [Array.getD_eq_getD_getElem?, Array.getElem?_eq_getElem this, Option.getD_some] at hn ⊢
    exact hn
  · intro j hj
    rw [ho] at ha
    simp only [Option.map_some, Option.getD_some, Array.all_eq_true_iff_forall_mem, Bool.or_eq_true, Bool.not_eq_true'] at ha
    obtain ⟨e, he, hb⟩ := waits_spec hj
    rcases ha e he with h1 | h1
    · rw [hb.1] at h1; cases h1
    · rw [← hb.2]; exact h1

theorem all_of_ready {l : List Oper} {listed : Array Bool} (hls : listed.size = l.length) (hb : backFrom 0 l = true) (h : Region.ready .any l.toArray listed = []) : ∀ i, i < l.length → listed.getD i false = true := by
  intro i
  induction i using Nat.strongRecOn with
  | _ i ih =>
    intro hi
    obtain ⟨o, ho⟩ : ∃ o, l[i]? = some o := ⟨_, List.getElem?_eq_getElem hi⟩
    rcases hc : listed.getD i false with _ | _
    · exfalso
      have : i ∈ Region.ready .any l.toArray listed := by
        simp only [Region.ready, List.mem_filter, List.mem_range, List.size_toArray, Bool.and_eq_true, Bool.not_eq_true', List.getElem?_toArray]
        refine ⟨hi, ?_, ?_⟩
        · have hlt : i < listed.size := by omega
          simp only [Array.getD_eq_getD_getElem?, Array.getElem?_eq_getElem hlt, Option.getD_some] at hc ⊢
          exact hc
        · rw [ho]
          simp only [Option.map_some, Option.getD_some, Array.all_eq_true_iff_forall_mem, Bool.or_eq_true, Bool.not_eq_true']
          intro e he
          have := backFrom_spec hb i o ho e he
          exact .inr (ih e.on (by omega) (by omega))
      rw [h] at this; cases this
    · rfl

theorem any_of_on {P : Program} {l : List Oper} {Q : Exit → Act → World → Prop} {a0 : Act} {Inv : World → Prop} {R : World → World → Prop} {Good : Nat → Value → World → Prop}
    (hB : okB l a0.tmps.size = true) (hmono : ∀ i v w w', Good i v w → R w w' → Good i v w') (hstep : StepsFrom l Q a0 Inv R Good P 0 l)
    (hend : ∀ a w, On l a0 Inv Good (Array.replicate l.length true) a w → Q .normal a w) :
    ∀ (fuel : Nat) (listed : Array Bool) (a : Act) (w : World), On l a0 Inv Good listed a w → unl listed ≤ fuel → wpAny P .any l.toArray Q fuel listed a w := by
  simp only [okB, Bool.and_eq_true] at hB
  obtain ⟨⟨hd, hap⟩, hbk⟩ := hB
  have hdst : ∀ (i : Nat) (o : Oper), l[i]? = some o → ∃ d, o.dst = some d ∧ d < a0.tmps.size := by
    intro i o ho
    have := (List.all_eq_true.1 hd) o (List.mem_of_getElem? ho)
    split at this
    · rename_i d hd'; exact ⟨d, hd', by simpa using this⟩
    · cases this
  have hfin : ∀ listed a w, On l a0 Inv Good listed a w → (∀ i, i < l.length → listed.getD i false = true) → Q .normal a w := by
    intro listed a w hJ hall
    refine hend a w ⟨by simp, hJ.sz, hJ.df, hJ.inv, fun s hs => hJ.base s (fun i hi => ?_), fun i d hi hdi => hJ.good i d ?_ hdi, fun i o j _ ho hw => ?_⟩
    · have hlt : i < l.length := by
        rcases Nat.lt_or_ge i l.length with h | h
        · exact h
        · simp [dst?, List.getElem?_eq_none h] at hi
      have := hs i hi
      simp [hlt] at this
    · have hlt : i < l.length := by
        rcases Nat.lt_or_ge i l.length with h | h
        · exact h
        · simp [dst?, List.getElem?_eq_none h] at hdi
      exact hall i hlt
    · obtain ⟨e, he, hb⟩ := waits_spec hw
      have h1 := backFrom_spec hbk i o ho e he
      have h2 := (List.getElem?_eq_some_iff.1 ho).1
      have : j < l.length := by omega
      simp [this]
  intro fuel
  induction fuel with
  | zero =>
    intro listed a w hJ hu
    have hall : ∀ i, i < l.length → listed.getD i false = true := by
      intro i hi
      rcases hc : listed.getD i false with _ | _
      · exfalso
        have := unl_set listed i (by rw [hJ.ls]; exact hi) hc
        omega
      · rfl
    refine ⟨?_, hfin listed a w hJ hall⟩
    rcases hr : Region.ready .any l.toArray listed with _ | ⟨i, r⟩
    · rfl
    · exfalso
      obtain ⟨o, ho, hn, _⟩ := ready_spec (i := i) (by rw [hr]; simp) hJ.ls
      have := hall i (List.getElem?_eq_some_iff.1 ho).1
      rw [hn] at this; cases this
  | succ fuel ih =>
    intro listed a w hJ hu
    refine ⟨fun hr => hfin listed a w hJ (all_of_ready hJ.ls hbk hr), fun i hi => ?_⟩
    obtain ⟨o, ho, hn, hw⟩ := ready_spec hi hJ.ls
    have hil : i < l.length := (List.getElem?_eq_some_iff.1 ho).1
    have hils : i < listed.size := by rw [hJ.ls]; exact hil
    obtain ⟨d, hdo, hdn⟩ := hdst i o ho
    have hdi : dst? l i = some d := by simp [dst?, ho, hdo]
    have hap' : ∀ j, dst? l j = some d → j = i := by
      intro j hj
      rcases hlj : l[j]? with _ | oj
      · simp [dst?, hlj] at hj
      · refine apartB_spec hap j i (some d) ?_ ?_
        · simp [dst?, hlj] at hj; simp [hlj, hj]
        · simp [ho, hdo]
    have hs := stepsFrom_at hstep i o ho
    rw [Nat.zero_add] at hs
    have hs := hs a w hJ.sz hJ.df hJ.inv (fun s hb => hJ.base s (fun j hj => ?_)) (fun j dj hwj hdj => hJ.good j dj (hw j hwj) hdj)
    · have hnext : ∀ v w', Good i v w' → (∀ j v, Good j v w → Good j v w') → Inv w' → On l a0 Inv Good (listed.setIfInBounds i true) (a.put o.dst v) w' := by
        intro v w' hg hR hI
        rw [hdo]
        refine ⟨by simp [hJ.ls], by simp [Act.put, hJ.sz], by simp [Act.put, hJ.df], hI, fun s hs' => ?_, fun j dj hj hdj => ?_, fun j oj m hj hoj hm => ?_⟩
        · have hne : s ≠ d := by
            rintro rfl
            have := hs' i hdi
            rw [getD_set _ _ _ hils] at this; simp at this
          rw [getD_put_other _ _ _ _ hne]
          refine hJ.base s (fun j hj => ?_)
          have := hs' j hj
          rw [getD_set _ _ _ hils] at this
          by_cases e : j = i
          · subst e; simp at this
          · rwa [if_neg e] at this
        · by_cases e : j = i
          · subst e
            rw [hdi] at hdj; injection hdj with hdj; subst hdj
            rw [getD_put_same _ _ _ (by rw [hJ.sz]; exact hdn)]
            exact hg
          · rw [getD_set _ _ _ hils, if_neg e] at hj
            have hne : dj ≠ d := by rintro rfl; exact e (hap' j hdj)
            rw [getD_put_other _ _ _ _ hne]
            exact hR _ _ (hJ.good j dj hj hdj)
        · by_cases e : j = i
          · subst e
            rw [ho] at hoj; injection hoj with hoj; subst hoj
            rw [getD_set _ _ _ hils]
            split
            · rfl
            · exact hw m hm
          · rw [getD_set _ _ _ hils, if_neg e] at hj
            rw [getD_set _ _ _ hils]
            split
            · rfl
            · exact hJ.shut j oj m hj hoj hm
      have hul := unl_set listed i hils hn
      unfold wpOp
      rw [List.getElem?_toArray, ho]
      simp only []
      by_cases hwt : Region.wanted o (yielded l.toArray a.tmps) = true
      · rw [if_pos hwt] at hs ⊢
        refine .inl (Oper.wp_mono ?_ hs)
        rintro a' w' ⟨v, rfl, hg, hR, hI⟩
        exact ih _ _ _ (hnext v w' hg (fun j v h => hmono j v w w' h hR) hI) (by omega)
      · rw [if_neg hwt] at hs ⊢
        exact ih _ _ _ (hnext undef w hs (fun _ _ h => h) hJ.inv) (by omega)
    · rcases hlj : l[j]? with _ | oj
      · simp [dst?, hlj] at hj
      · rcases baseFrom_spec hb j oj hlj with h1 | h1 | h1
        · exact absurd (by simpa [dst?, hlj] using hj) h1
        · have : j = i := by omega
          subst this; exact hn
        · rcases hc : listed.getD j false with _ | _
          · rfl
          · have := hJ.shut j oj i hc hlj h1
            rw [hn] at this; cases this
theorem wp_region_inv {P : Program} {id : Nat} {l : List Oper} {Q : Exit → Act → World → Prop} {a0 : Act} {w0 : World} (Inv : World → Prop) (R : World → World → Prop) (Good : Nat → Value → World → Prop)
    (hm : P.follows .mixedOrders = true) (hB : okB l a0.tmps.size = true) (hmono : ∀ i v w w', Good i v w → R w w' → Good i v w') (hI : Inv { w0 with drawn := w0.drawn + 1 })
    (hstep : okB l a0.tmps.size = true → StepsFrom l Q a0 Inv R Good P 0 l)
    (hend : ∀ (vals : Nat → Value) (w : World), Inv w → (∀ i, i < l.length → Good i (vals i) w) → Q .normal ⟨overlay vals 0 l a0.tmps, a0.defers⟩ w) : (Code.region id l.toArray true).wp P Q a0 w0 := by
  have hB' := hB
  simp only [okB, Bool.and_eq_true] at hB'
  obtain ⟨⟨hd, hap⟩, _⟩ := hB'
  have hdst : ∀ (i : Nat) (o : Oper), l[i]? = some o → ∃ d, o.dst = some d ∧ d < a0.tmps.size := by
    intro i o ho
    have := (List.all_eq_true.1 hd) o (List.mem_of_getElem? ho)
    split at this
    · rename_i d hd'; exact ⟨d, hd', by simpa using this⟩
    · cases this
  refine wp_region_any hm (any_of_on hB hmono (hstep hB) ?_ _ _ _ _ ⟨by simp, rfl, rfl, hI, fun _ _ => rfl, fun i d h _ => ?_, fun i _ _ h _ _ => ?_⟩ ?_)
  · intro a w hJ
    have ha : a = ⟨overlay (fun i => a.tmps.getD ((dst? l i).getD 0) undef) 0 l a0.tmps, a0.defers⟩ := by
      obtain ⟨tm, df⟩ := a
      have h1 : tm.size = a0.tmps.size := hJ.sz
      have h2 : df = a0.defers := hJ.df
      subst h2
      congr 1
      apply Array.ext_getElem?
      intro s
      by_cases hs : s < a0.tmps.size
      · by_cases hw : ∃ i, dst? l i = some s
        · obtain ⟨i, hi⟩ := hw
          rcases hlo : l[i]? with _ | o
          · simp [dst?, hlo] at hi
          · have hdo : o.dst = some s := by simpa [dst?, hlo] using hi
            rw [overlay_at _ s l 0 a0.tmps i o hap hlo hdo hs]
            simp [hi, h1, hs]
        · have hb := hJ.base s (fun i hi => absurd ⟨i, hi⟩ hw)
          rw [overlay_other]
          · simp only [Array.getD_eq_getD_getElem?] at hb
            rw [Array.getElem?_eq_getElem (by omega), Array.getElem?_eq_getElem hs] at hb ⊢
            simpa using hb
          · intro o ho e
            obtain ⟨i, hi⟩ := List.getElem?_of_mem ho
            exact hw ⟨i, by simp [dst?, hi, e]⟩
      · rw [Array.getElem?_eq_none (by omega), Array.getElem?_eq_none (by rw [overlay_size]; omega)]
    rw [ha]
    refine hend _ w hJ.inv (fun i hi => ?_)
    obtain ⟨o, ho⟩ : ∃ o, l[i]? = some o := ⟨_, List.getElem?_eq_getElem hi⟩
    obtain ⟨d, hdo, _⟩ := hdst i o ho
    have hdi : dst? l i = some d := by simp [dst?, ho, hdo]
    have := hJ.good i d (by simp [hi]) hdi
    rw [hdi]
    exact this
  · rw [Array.getD_eq_getD_getElem?, Array.getElem?_replicate] at h
    split at h <;> simp at h
  · rw [Array.getD_eq_getD_getElem?, Array.getElem?_replicate] at h
    split at h <;> simp at h
  · unfold unl
    rw [Array.size_replicate]
    have := List.countP_le_length (p := fun i => !(Array.replicate l.toArray.size false).getD i false) (l := List.range l.toArray.size)
    simpa using this

theorem fin_of {Q : Exit → Act → World → Prop} {x y : Array Value} {d : List Deferred} {w : World} (e : x = y) (h : Q .normal ⟨y, d⟩ w) : Q .normal ⟨x, d⟩ w := by subst e; exact h

def Known (vs : List (Option Value)) (Sp : Value → World → Prop) (i : Nat) (v : Value) (w : World) : Prop := match vs[i]? with
  | some (some u) => v = u
  | _ => Sp v w
def KnownI (vs : List (Option Value)) (Sp : Nat → Value → World → Prop) (i : Nat) (v : Value) (w : World) : Prop := match vs[i]? with
  | some (some u) => v = u
  | _ => Sp i v w
theorem knownI_mono {vs : List (Option Value)} {Sp : Nat → Value → World → Prop} {R : World → World → Prop} (h : ∀ i v w w', Sp i v w → R w w' → Sp i v w') : ∀ i v w w', KnownI vs Sp i v w → R w w' → KnownI vs Sp i v w' := by
  intro i v w w' hk hr
  unfold KnownI at *
  split
  · rename_i u hu; rw [hu] at hk; exact hk
  · rename_i hu
    split at hk
    · rename_i u hu'; exact absurd hu' (hu u)
    · exact h i v w w' hk hr

section
variable {P : Program} {l : List Oper} {Q : Exit → Act → World → Prop} {a0 : Act} {Inv : World → Prop} {R : World → World → Prop} {Good : Nat → Value → World → Prop} {k : Nat} {o : Oper}

def Runs (l : List Oper) (Good : Nat → Value → World → Prop) (o : Oper) : Prop := match o.guard with
  | none => True
  | some (j, b) => waits o j = true ∧ ∃ d, dst? l j = some d ∧ ∀ v w, Good j v w → v = .bool b
def Skips (l : List Oper) (Good : Nat → Value → World → Prop) (o : Oper) : Prop := match o.guard with
  | none => False
  | some (j, b) => waits o j = true ∧ ∃ d, dst? l j = some d ∧ ∀ v w, Good j v w → v ≠ .bool b

theorem yielded_at {a : Act} {j d : Nat} (hd : dst? l j = some d) (hs : d < a.tmps.size) : yielded l.toArray a.tmps j = match a.tmps.getD d undef with | .bool b => some b | _ => none := by
  have e : ((l.toArray[j]?).bind (·.dst)) = some d := by rw [List.getElem?_toArray]; exact hd
  unfold yielded
  rw [e]
  simp only [Option.bind_some, Array.getElem?_eq_getElem hs, Array.getD_eq_getD_getElem?, Option.getD_some]
  cases a.tmps[d] <;> rfl

theorem step_run (hB : okB l a0.tmps.size = true) (hr : Runs l Good o)
    (h : ∀ (a : Act) (w : World), Inv w → (∀ s, baseB l k s = true → a.tmps.getD s undef = a0.tmps.getD s undef) → (∀ j d, waits o j = true → dst? l j = some d → Good j (a.tmps.getD d undef) w) →
      o.wp P a w (fun a' w' => ∃ v, a' = a.put o.dst v ∧ Good k v w' ∧ R w w' ∧ Inv w') Q) : StepOk l Q a0 Inv R Good P k o := by
  intro a w hsz _ hI hb hd
  have hw : Region.wanted o (yielded l.toArray a.tmps) = true := by
    unfold Region.wanted
    unfold Runs at hr
    split
    · rfl
    · rename_i j b hg
      rw [hg] at hr
      obtain ⟨h1, d, h2, h3⟩ := hr
      have hlt : d < a.tmps.size := by
        simp only [okB, Bool.and_eq_true] at hB
        rcases hlj : l[j]? with _ | oj
        · simp [dst?, hlj] at h2
        · have := (List.all_eq_true.1 hB.1.1) oj (List.mem_of_getElem? hlj)
          have e : oj.dst = some d := by simpa [dst?, hlj] using h2
          rw [e] at this
          rw [hsz]; simpa using this
      rw [yielded_at h2 hlt, h3 _ _ (hd j d h1 h2)]
      simp
  rw [if_pos hw]
  exact h a w hI hb hd
theorem eval_const (a : Act) (v : Value) : a.eval (.const v) = v := rfl
theorem eval_func (a : Act) (f : FuncId) : a.eval (.func f) = .func (.func f) #[] #[] := rfl
theorem runs_none (h : o.guard = none) : Runs l Good o := by unfold Runs; rw [h]; trivial
theorem run_move {a : Act} {w : World} {s : Nat} {v : Value} (h : o.op = .move (.tmp s)) (e : a.tmps.getD s undef = v) : (execOp a.eval o).run P w = .ok (.value v) w := by
  subst e; unfold execOp; rw [h]; rfl
theorem run_assign {a : Act} {w : World} {s : Nat} {v : Value} (h : o.op = .assign (.tmp s)) (e : a.tmps.getD s undef = v) : (execOp a.eval o).run P w = .ok (.value v) w := by
  subst e; unfold execOp; rw [h]; rfl

theorem run_made {a : Act} {w w' : World} {v : Value} (hrun : (execOp a.eval o).run P w = .ok (.value v) w') (hg : Good k v w') (hR : R w w') (hI : Inv w') :
    o.wp P a w (fun a' w' => ∃ v, a' = a.put o.dst v ∧ Good k v w' ∧ R w w' ∧ Inv w') Q := by
  unfold Oper.wp
  rw [hrun]
  exact ⟨v, rfl, hg, hR, hI⟩
theorem run_call {a : Act} {w : World} {v : Value} {f : FuncId} {args : Array Value} (hrun : (execOp a.eval o).run P w = .ok (.enter f args) w)
    (hc : Calls P f args w fun e w' => e = .returned v ∧ R w w') (hg : ∀ w', R w w' → Good k v w') (hI : ∀ w', R w w' → Inv w') :
    o.wp P a w (fun a' w' => ∃ v, a' = a.put o.dst v ∧ Good k v w' ∧ R w w' ∧ Inv w') Q := by
  unfold Oper.wp
  rw [hrun, Oper.upon_enter]
  refine hc.mono ?_
  rintro e w' ⟨rfl, hR⟩
  exact ⟨v, rfl, hg w' hR, hR, hI w' hR⟩

theorem run_value {a : Act} {w : World} {v : Value} (hrun : (execOp a.eval o).run P w = .ok (.value v) w) (hg : Good k v w) (hR : R w w) (hI : Inv w) :
    o.wp P a w (fun a' w' => ∃ v, a' = a.put o.dst v ∧ Good k v w' ∧ R w w' ∧ Inv w') Q := by
  unfold Oper.wp
  rw [hrun]
  exact ⟨v, rfl, hg, hR, hI⟩
end
def findRegion (n : Nat) : Code → Option Code
  | .region k ops d => if k = n then some (.region k ops d) else none
  | .loop c => findRegion n c
  | .seq a b => match findRegion n a with
    | some c => some c
    | none => findRegion n b
  | .block _ c => findRegion n c
  | .scope c => findRegion n c
  | .cond _ a b => match findRegion n a with
    | some c => some c
    | none => findRegion n b
  | _ => none
end Reg
end Go.Proofs.YtjhbpcecdhdnoaaGreatDoor
namespace Go.Proofs.YtjhbpcecdhdnoaaGreatDoor
open Go.RowKit
namespace Reg
variable {P : Program} {l : List Oper} {Q : Exit → Act → World → Prop} {a0 : Act} {Inv : World → Prop} {R : World → World → Prop} {Good : Nat → Value → World → Prop} {k : Nat} {o : Oper}
theorem run_callS {a : Act} {w : World} {f : FuncId} {args : Array Value} (hrun : (execOp a.eval o).run P w = .ok (.enter f args) w)
    (hc : Calls P f args w fun e w' => ∃ v, e = .returned v ∧ Good k v w' ∧ R w w') (hI : ∀ w', R w w' → Inv w') :
    o.wp P a w (fun a' w' => ∃ v, a' = a.put o.dst v ∧ Good k v w' ∧ R w w' ∧ Inv w') Q := by
  unfold Oper.wp
  rw [hrun, Oper.upon_enter]
  refine hc.mono ?_
  rintro e w' ⟨v, rfl, hg, hR⟩
  exact ⟨v, rfl, hg, hR, hI w' hR⟩
end Reg
end Go.Proofs.YtjhbpcecdhdnoaaGreatDoor
