/-
  wal.Begin walked, with a table that lies within another row. WRITTEN BY wip/tools/gen_bgn.py.
  A store in memory: the disk, the table, the log, the state, whether power was lost.
  The store's begin walked.
-/
import Derived.Test.YtjhbpcecdhdnoaaGreatDoorRWwI
import Derived.Test.YtjhbpcecdhdnoaaGreatDoorRStCut
import Derived.Test.YtjhbpcecdhdnoaaGreatDoorRStRdS
set_option linter.unusedSimpArgs false
set_option linter.unusedVariables false
namespace Go.Proofs.YtjhbpcecdhdnoaaGreatDoor
open Go.RowKit
section
variable {At : DkAt}
theorem wpower_at (K : DiskK At) (W : World) (p tb o : Nat) (S : Nat → Prop) (d : Dk.D) (h : At W p S d) : Calls Tryz.prog 88 #[.pointer (some ⟨p, 0, none⟩), .pointer (some ⟨tb, o, none⟩)] W fun e w' => e = .returned (.int .i64 (if d.off then 7 else 0)) ∧ Below W.heap.size W w' := by
  have H := Lib.hid (K.down W p S d h)
  rcases ho : d.off with _ | _
  · rw [ho] at H
    clear h ho
    go_enter Tryz.func88, Tryz.ntmps88
    go_wp2_with fail
    refine H.out.mono ?_
    rintro e w1 ⟨rfl, hb⟩
    go_wp2_with fail
    go_ret
    exact ⟨rfl, hb⟩
  · rw [ho] at H
    clear h ho
    go_enter Tryz.func88, Tryz.ntmps88
    go_wp2_with fail
    refine H.out.mono ?_
    rintro e w1 ⟨rfl, hb⟩
    go_wp2_with fail
    go_ret
    exact ⟨rfl, hb⟩
set_option maxRecDepth 100000 in
set_option maxHeartbeats 1000000 in
theorem begin_at (K : DiskK At) (HNm : NameSays) (W : World) (p tb o n snap : Nat) (XT : Array Value) (TT : TypeId) (S : Nat → Prop) (d : Dk.D) (l : List Wl.R) (A : Option Addr) (cap : Nat) (hE : EnvT W) (hn : n < Nm.top) (hs : snap < Nm.top) (hT : W.heap[tb]? = some (.cells XT TT (0, 0))) (hX : ∀ j, j < tabA.size → XT[o + j]? = tabA[j]?) (hA : At W p S d)
    (hlies : Lies W A (wrs l)) (hl : Wl.Ok l) (hc : Dk.load d + 100 + Wl.cost (l.map Wl.text) ≤ 100000000) :
    Calls Tryz.prog 46 #[.pointer (some ⟨p, 0, none⟩), .pointer (some ⟨tb, o, none⟩), .int .u64 (n : Int), .int .u64 (snap : Int), .slice A l.length cap] W (WBegin At W p n S (Wl.begins d n snap l)) := by
  have HXT := Lib.hid hX
  clear hX
  have HP := Lib.hid (wpower_at K W p tb o S d hA)
  rcases ho : d.off with _ | _
  case true =>
    have E : Hid (Wl.begins d n snap l = (.of .down, d)) := Lib.hid (by unfold Wl.begins; rw [ho]; rfl)
    have HN := Lib.hid (fun W' (hb : Below W.heap.size W W') => K.now hA hb)
    rw [ho] at HP
    clear hA hlies K HNm hE hn ho hl hc hT hs
    go_enter Tryz.func46, Tryz.ntmps46
    go_wp2_with fail
    refine HP.out.mono ?_
    rintro e w1 ⟨rfl, hb1⟩
    go_wp2_with fail
    go_ret2
    rw [E.out]
    exact WBegin.no (fun h => by cases h) (HN.out _ hb1)
  rw [ho] at HP
  have hld := K.load hA
  have hll := list_len d
  have HLs := Lib.hid (fun W2 (hb : Below W.heap.size W W2) => K.list W2 p S d (K.below hA hb))
  have HN := Lib.hid (fun W2 (hb : Below W.heap.size W W2) => HNm n W2 hn (hE.below hb (Nat.le_refl _)))
  have HC := Lib.hid (fun W2 A2 cap2 hA2 => contains_any (Dk.list d) (Wl.name n) A2 cap2 W2 hA2 (by omega))
  rw [mem_list] at HC
  rcases hx : (Dk.find d.files (Wl.name n)).isSome with _ | _
  case true =>
    have E : Hid (Wl.begins d n snap l = (.there, d)) := Lib.hid (by unfold Wl.begins; rw [ho, hx]; rfl)
    have HNw := Lib.hid (fun W' (hb : Below W.heap.size W W') => K.now hA hb)
    rw [hx] at HC
    clear hA hlies K HNm hE hn ho hl hc hT hs hx
    go_enter Tryz.func46, Tryz.ntmps46
    go_wp2_with fail
    refine HP.out.mono ?_
    rintro e w1 ⟨rfl, hb1⟩
    have H1 := Lib.hid hb1
    clear hb1
    go_wp2_with fail
    refine (HLs.out _ H1.out).mono ?_
    rintro e w2 ⟨A2, cap2, rfl, hl2, _, hb2⟩
    have H2 := Lib.hid (And.intro (bnext H1.out hb2) hl2)
    clear hb2 hl2
    go_wp2_with fail
    refine (HN.out _ H2.out.1).mono ?_
    rintro e w3 ⟨rfl, hb3⟩
    have H3 := Lib.hid (And.intro (bnext H2.out.1 hb3) (H2.out.2.below hb3))
    clear hb3
    go_wp2_with fail
    refine (HC.out _ A2 cap2 H3.out.2).mono ?_
    rintro e w4 ⟨rfl, rfl⟩
    go_wp2_with fail
    go_ret2
    rw [E.out]
    exact WBegin.no (fun h => by cases h) (HNw.out _ H3.out.1)
  rw [hx] at HC
  have HT := Lib.hid (fun W2 (hb2 : Below W.heap.size W W2) => recordTexts_any l A cap W2 (hlies.below hb2) hl.len hl.fits)
  unfold WTexts at HT
  rcases hr : l.all Wl.right with _ | _
  · have E : Hid (Wl.begins d n snap l = (.of .arg, d)) := Lib.hid (by unfold Wl.begins; rw [ho, hx, hr]; rfl)
    have HNw := Lib.hid (fun W' (hb : Below W.heap.size W W') => K.now hA hb)
    rw [hr] at HT
    clear hA hlies K HNm hE hn ho hl hc hT hs hx hr
    go_enter Tryz.func46, Tryz.ntmps46
    go_wp2_with fail
    refine HP.out.mono ?_
    rintro e w1 ⟨rfl, hb1⟩
    have H1 := Lib.hid hb1
    clear hb1
    go_wp2_with fail
    refine (HLs.out _ H1.out).mono ?_
    rintro e w2 ⟨A2, cap2, rfl, hl2, _, hb2⟩
    have H2 := Lib.hid (And.intro (bnext H1.out hb2) hl2)
    clear hb2 hl2
    go_wp2_with fail
    refine (HN.out _ H2.out.1).mono ?_
    rintro e w3 ⟨rfl, hb3⟩
    have H3 := Lib.hid (And.intro (bnext H2.out.1 hb3) (H2.out.2.below hb3))
    clear hb3
    go_wp2_with fail
    refine (HC.out _ A2 cap2 H3.out.2).mono ?_
    rintro e w4 ⟨rfl, rfl⟩
    go_wp2_with fail
    refine (HT.out _ H3.out.1).mono ?_
    rintro e w5 ⟨he, hb5⟩
    obtain rfl : e = .returned (.tuple #[.slice none 0 0, .bool false]) := by simpa using he
    have H5 := Lib.hid (bnext H3.out.1 hb5)
    clear hb5 he
    go_wp2_with fail
    go_ret2
    rw [E.out]
    exact WBegin.no (fun h => by cases h) (HNw.out _ H5.out)
  have HT2 : Hid (∀ W2, Below W.heap.size W W2 → Calls Tryz.prog 91 #[.slice A l.length cap] W2 fun e w' => ∃ B cb, e = .returned (.tuple #[.slice B l.length cb, .bool true]) ∧ Below W.heap.size W w' ∧ w'.ownsRow W.heap.size 9 1 (.slice B l.length cb) l.length (tsc l)) := Lib.hid fun W2 hb2 => by
    refine (HT.out W2 hb2).mono ?_
    rintro e w' ⟨he, hb3⟩
    rw [hr] at he
    obtain ⟨B, cb, rfl, ho3⟩ := (by simpa using he : ∃ B cb, e = .returned (.tuple #[.slice B l.length cb, .bool true]) ∧ w'.ownsRow W2.heap.size 9 1 (.slice B l.length cb) l.length (tsc l))
    exact ⟨B, cb, rfl, bnext hb2 hb3, own_mono ho3 hb2.size⟩
  clear HT
  have hlen := hl.len
  have hhl := Wl.head_len (b := l.length) (n := snap) (by unfold Nm.top; omega) hs
  have hbg : Wl.begins d n snap l = (.of (Wl.lay d (Wl.name n) (Wl.segT l.length snap l)).1, (Wl.lay d (Wl.name n) (Wl.segT l.length snap l)).2) := by
    unfold Wl.begins
    rw [ho, hx, hr]; rfl
  have HHd := Lib.hid (fun W2 => headText_any W2 l.length snap (by omega) hs)
  unfold RetS at HHd
  obtain ⟨hb0, hhb⟩ : ∃ h : ByteArray, h = Wl.ba (Wl.headT l.length snap) := ⟨_, rfl⟩
  rw [show (⟨(Wl.headT l.length snap).toArray⟩ : ByteArray) = hb0 from hhb.symm] at HHd
  have HIn : Hid (∀ (W2 : World) (B : Option Addr) (cb : Nat), Below W.heap.size W W2 → W2.ownsRow W.heap.size 9 1 (.slice B l.length cb) l.length (tsc l) → Calls Tryz.prog 93 #[.slice B l.length cb, .int .i64 0, .slice (some ⟨W2.heap.size, 0, none⟩) 1 1] (W2.alloc (.cells #[.string hb0] 9)) fun e w' => ∃ C cc, e = .returned (.slice C (l.length + 1) cc) ∧ Lies w' C (bsc (Wl.segT l.length snap l)) ∧ (∀ b off, C = some ⟨b, off, none⟩ → W.heap.size ≤ b) ∧ Ko (fun k => (Value.slice B l.length cb).ownBlock = some k) W2 w') := Lib.hid fun W2 B cb hb2 ho2 => by
    have h := insert_any W2 W.heap.size B cb l.length (l.map fun r => Wl.ba (Wl.text r)) hb0 ho2 hb2.size (by omega)
    rw [hhb, ins_bsc] at h
    rw [hhb]
    exact h
  have hSq : ∀ k, S k → k < W.heap.size := fun k hk => K.lt hA k hk
  have hcost : Wl.cost (Wl.segT l.length snap l) ≤ 60 + 30 + Wl.cost (l.map Wl.text) := by
    have h1 := grp_len l.length (by unfold Nm.top; omega)
    have h2 := grp_len snap hs
    show 60 + (Wl.headT l.length snap).length + Wl.cost (l.map Wl.text) ≤ _
    have h3 : (Wl.headT l.length snap).length ≤ 30 := by unfold Wl.headT; simp [Cm.one]; omega
    omega
  obtain ⟨R, hR⟩ : ∃ R, R = Wl.lay d (Wl.name n) (Wl.segT l.length snap l) := ⟨_, rfl⟩
  have HWr : Hid (∀ (W2 : World) (q : Nat) (C : Option Addr) (cc : Nat), Below W.heap.size W W2 → LogAt W2 q p n 0 → W.heap.size ≤ q → Lies W2 C (bsc (Wl.segT l.length snap l)) → (∀ bb oo, C = some ⟨bb, oo, none⟩ → W.heap.size ≤ bb) → Calls Tryz.prog 92 #[.pointer (some ⟨q, 0, none⟩), .slice C (l.length + 1) cc] W2 fun e w' => e = .returned (.int .i64 (eno R.1)) ∧ Logged At W w' p q n 0 S R.2 ∧ Now At W w' p S R.2) := Lib.hid fun W2 q C cc hb2 hlog hq h3 h4 => by
    have hql := hlog.lt
    have hqS : ¬ S q := fun h => absurd (hSq q h) (by omega)
    have h5 := logWrite_any K HNm W2 q p n 0 S d (Wl.segT l.length snap l) C cc (hE.below hb2 (Nat.le_refl _)) hn hlog (K.below hA hb2) hqS h3 (fun bb oo _ hB hs => by have := hSq bb hs; have := h4 bb oo hB; omega) (by rw [Wl.segT_length]; omega) (by omega)
    rw [Wl.segT_length, ← hR] at h5
    refine h5.mono ?_
    rintro e w' ⟨rfl, ⟨S', h6, h7⟩, h8⟩
    have h9 : ∀ k, S' k → S k ∨ W.heap.size ≤ k := fun k hk => (h7 k hk).elim .inl fun h => .inr (Nat.le_trans hb2.size h)
    have h10 : Ko S W w' := (Ko.bel hb2).trans (T := S) h8 (fun k hk => .inl hk)
    refine ⟨rfl, ⟨⟨S', h6, h9, fun hk => (h7 q hk).elim hqS fun h => absurd hql (by omega)⟩, hlog.ko h8 hqS, h10.mono fun k _ hk => .inl hk⟩, ⟨S', h6, h9⟩, h10⟩
  have HTb := Lib.hid (fun W2 (hb : Below W.heap.size W W2) => (hb.block tb (Array.getElem?_eq_some_iff.1 hT).1).trans hT)
  have hbl := build_log p n
  have hbx := box_log p n
  have hts := tabA_size
  have hls := logC_size p n 0
  rw [hbg, ← hR]
  clear hA hlies K HNm hE hn ho hl hc hT hs hx hr hbg hR hSq hcost hhb hhl
  have body : ∀ (ev : Int) (hv : (ev != 0) = true ∧ (ev = 0) = False ∧ R.1 ≠ .ok ∨ (ev != 0) = false ∧ (ev = 0) = True ∧ R.1 = .ok) (he : ev = eno R.1), Calls Tryz.prog 46 #[.pointer (some ⟨p, 0, none⟩), .pointer (some ⟨tb, o, none⟩), .int .u64 (n : Int), .int .u64 (snap : Int), .slice A l.length cap] W (WBegin At W p n S (.of R.1, R.2)) := by
    intro ev hv he
    rw [← he] at HWr
    have He := Lib.hid he
    clear he
    have Hv := Lib.hid hv
    clear hv
    go_enter Tryz.func46, Tryz.ntmps46
    go_wp2_with fail
    refine HP.out.mono ?_
    rintro e w1 ⟨rfl, hb1⟩
    have H1 := Lib.hid hb1
    clear hb1
    go_wp2_with fail
    refine (HLs.out _ H1.out).mono ?_
    rintro e w2 ⟨A2, cap2, rfl, hl2, _, hb2⟩
    have H2 := Lib.hid (And.intro (bnext H1.out hb2) hl2)
    clear hb2 hl2
    go_wp2_with fail
    refine (HN.out _ H2.out.1).mono ?_
    rintro e w3 ⟨rfl, hb3⟩
    have H3 := Lib.hid (And.intro (bnext H2.out.1 hb3) (H2.out.2.below hb3))
    clear hb3
    go_wp2_with fail
    refine (HC.out _ A2 cap2 H3.out.2).mono ?_
    rintro e w4 ⟨rfl, rfl⟩
    go_wp2_with fail
    refine (HT2.out _ H3.out.1).mono ?_
    rintro e w5 ⟨B, cb, rfl, hb5, ho5⟩
    have H5 := Lib.hid (And.intro hb5 ho5)
    clear hb5 ho5
    have hrow := (HTb.out _ H5.out.1)
    have Hrow := Lib.hid hrow
    clear hrow
    obtain ⟨M, hM1, hM2, hM3⟩ := log_fold p n
    clear hbl hbx
    go_wp2_with (refine wpList_load_sub rfl 27 _ rfl tb o rfl TT XT tabA (0, 0) _ Hrow.out HXT.out Tryz.underlying27 rfl (by rw [tabA_size]; exact sizeTable) ?_)
    have HC6 : Hid (LogAt (w5.alloc (.cells (logC p n 0) 162)) w5.heap.size p n 0 ∧ Below W.heap.size W (w5.alloc (.cells (logC p n 0) 162)) ∧ W.heap.size ≤ w5.heap.size ∧ (w5.alloc (.cells (logC p n 0) 162)).ownsRow W.heap.size 9 1 (.slice B l.length cb) l.length (tsc l)) := Lib.hid ⟨heap_alloc_new w5 _, bnew H5.out.1 _, H5.out.1.size, own_kept H5.out.2 fun k hk => (bnew (Below.refl w5.heap.size w5) _).block k (own_lt H5.out.2 hk).1⟩
    clear hM1 hM2 hM3
    generalize w5.alloc (.cells (logC p n 0) 162) = w6 at *
    refine (HHd.out _).mono ?_
    rintro e w7 ⟨rfl, hb7⟩
    have H7 : Hid (LogAt w7 w5.heap.size p n 0 ∧ Below W.heap.size W w7 ∧ w7.ownsRow W.heap.size 9 1 (.slice B l.length cb) l.length (tsc l)) := Lib.hid ⟨HC6.out.1.below hb7, bnext HC6.out.2.1 hb7, own_kept HC6.out.2.2.2 fun k hk => hb7.block k (own_lt HC6.out.2.2.2 hk).1⟩
    clear hb7
    go_wp2_with fail
    refine (HIn.out w7 B cb H7.out.2.1 H7.out.2.2).mono ?_
    rintro e w8 ⟨C, cc, rfl, hl8, hf8, hk8⟩
    have H8 : Hid (Below W.heap.size W w8 ∧ LogAt w8 w5.heap.size p n 0 ∧ Lies w8 C (bsc (Wl.segT l.length snap l)) ∧ ∀ b off, C = some ⟨b, off, none⟩ → W.heap.size ≤ b) := Lib.hid ⟨hk8.below H7.out.2.1 H7.out.2.1.size (fun k hk => (own_lt H7.out.2.2 hk).2), H7.out.1.ko hk8 (fun hk => absurd (own_lt H5.out.2 hk).1 (Nat.lt_irrefl _)), hl8, hf8⟩
    clear hl8 hf8 hk8
    go_wp2_with fail
    refine (HWr.out w8 w5.heap.size C cc H8.out.1 H8.out.2.1 HC6.out.2.2.1 H8.out.2.2.1 H8.out.2.2.2).mono ?_
    rintro e w9 ⟨rfl, hlg, hnw⟩
    have H9 := Lib.hid (And.intro hlg hnw)
    clear hlg hnw
    rcases Hv.out with ⟨z1, z2, z3⟩ | ⟨z1, z2, z3⟩
    · have Z3 := Lib.hid z3
      clear z3
      go_wp2_with fail
      go_ret2
      rw [He.out]
      exact WBegin.no (R := (.of R.1, R.2)) (fun h => by injection h with h; exact Z3.out h) H9.out.2
    · have Z3 := Lib.hid z3
      clear z3
      go_wp2_with fail
      go_ret2
      refine ⟨_, ?_, fun _ => ⟨w5.heap.size, rfl, H9.out.1, HC6.out.2.2.1⟩, fun h => absurd (by rw [Z3.out]) h, H9.out.2⟩
      show _ = Ending.returned (.tuple #[_, .int .i64 (eno R.1)])
      rw [Z3.out]
      rfl
  have hz : ∀ e : Dk.E, e ≠ .ok → (eno e != 0) = true ∧ (eno e = 0) = False := fun e h => ⟨(eno_ne h).1, (eno_ne h).2.2⟩
  by_cases hok : R.1 = .ok
  · exact body (eno R.1) (.inr ⟨by rw [hok]; rfl, by rw [hok]; exact eq_true rfl, hok⟩) rfl
  · exact body (eno R.1) (.inl ⟨(hz _ hok).1, (hz _ hok).2, hok⟩) rfl
end
end Go.Proofs.YtjhbpcecdhdnoaaGreatDoor
namespace Go.Proofs.YtjhbpcecdhdnoaaGreatDoor
open Go.RowKit
def stC (p : Nat) (lg : Value) (k : St.K) (v : Value) (lost : Bool) : Array Value := (Value.pointer (some ⟨p, 0, none⟩) :: (tabA.toList ++ (lg :: ((kC k v).toList ++ [Value.bool lost])))).toArray
section
variable (p : Nat) (lg : Value) (k : St.K) (v : Value) (lost : Bool)
theorem stC_size : (stC p lg k v lost).size = 270 := by
  unfold stC
  rw [List.size_toArray, List.length_cons, List.length_append, tabL_length, List.length_cons, List.length_append]; rfl
theorem stC_0 : (stC p lg k v lost)[0]? = some (.pointer (some ⟨p, 0, none⟩)) := by unfold stC; simp
theorem stC_tab (i : Nat) (h : i < 256) : (stC p lg k v lost)[1 + i]? = some (.int .u32 ((Cr.tab i : Nat) : Int)) := by
  unfold stC
  rw [List.getElem?_toArray, Nat.add_comm, List.getElem?_cons_succ, List.getElem?_append_left (by rw [tabL_length]; exact h), Array.getElem?_toList, tabA_at i h]
theorem stC_tabA (j : Nat) (h : j < tabA.size) : (stC p lg k v lost)[1 + j]? = tabA[j]? := by
  rw [tabA_size] at h
  rw [stC_tab p lg k v lost j h, tabA_at j h]
theorem stC_rest (i : Nat) : (stC p lg k v lost)[257 + i]? = (lg :: ((kC k v).toList ++ [Value.bool lost]))[i]? := by
  unfold stC
  rw [List.getElem?_toArray, show 257 + i = (256 + i) + 1 by omega, List.getElem?_cons_succ, List.getElem?_append_right (by rw [tabL_length]; omega), tabL_length, Nat.add_sub_cancel_left]
theorem stC_lg : (stC p lg k v lost)[257]? = some lg := by have := stC_rest p lg k v lost 0; simpa using this
theorem stC_k (j : Nat) (h : j < 11) : (stC p lg k v lost)[258 + j]? = (kC k v)[j]? := by
  have := stC_rest p lg k v lost (j + 1)
  rw [show 257 + (j + 1) = 258 + j by omega] at this
  rw [this, List.getElem?_cons_succ, List.getElem?_append_left (by rw [Array.length_toList]; exact h), Array.getElem?_toList]
theorem stC_lost : (stC p lg k v lost)[269]? = some (.bool lost) := by
  have := stC_rest p lg k v lost 12
  rw [show 257 + 12 = 269 by rfl] at this
  rw [this, List.getElem?_cons_succ, List.getElem?_append_right (by rw [Array.length_toList]; exact Nat.le_refl 11)]
  rfl
theorem stC_snap : (stC p lg k v lost)[260]? = some (.int .u64 (k.snap.idx : Int)) := stC_k p lg k v lost 2 (by decide)
theorem stC_ext {X : Array Value} (hs : X.size = 270) (h0 : X[0]? = some (.pointer (some ⟨p, 0, none⟩))) (ht : ∀ i, i < 256 → X[1 + i]? = some (.int .u32 ((Cr.tab i : Nat) : Int))) (hl : X[257]? = some lg) (hk : ∀ j, j < 11 → X[258 + j]? = (kC k v)[j]?) (ho : X[269]? = some (.bool lost)) : X = stC p lg k v lost := by
  apply Array.ext_getElem?
  intro i
  by_cases h1 : i = 0
  · rw [h1, h0, stC_0]
  by_cases h2 : i < 257
  · obtain ⟨j, rfl⟩ : ∃ j, i = 1 + j := ⟨i - 1, by omega⟩
    rw [ht j (by omega), stC_tab _ _ _ _ _ j (by omega)]
  by_cases h3 : i = 257
  · rw [h3, hl, stC_lg]
  by_cases h4 : i < 269
  · obtain ⟨j, rfl⟩ : ∃ j, i = 258 + j := ⟨i - 258, by omega⟩
    rw [hk j (by omega), stC_k _ _ _ _ _ j (by omega)]
  by_cases h5 : i = 269
  · rw [h5, ho, stC_lost]
  · rw [Array.getElem?_eq_none (by omega), Array.getElem?_eq_none (by rw [stC_size]; omega)]
theorem stC_putlg (u : Value) : (stC p lg k v lost).setIfInBounds 257 u = stC p u k v lost := by
  refine stC_ext p u k v lost (by rw [Array.size_setIfInBounds, stC_size]) ?_ (fun i hi => ?_) ?_ (fun j hj => ?_) ?_
  · rw [Array.getElem?_setIfInBounds, if_neg (by decide), stC_0]
  · rw [Array.getElem?_setIfInBounds, if_neg (by omega), stC_tab p lg k v lost i hi]
  · rw [Array.getElem?_setIfInBounds, if_pos rfl, if_pos (by rw [stC_size]; decide)]
  · rw [Array.getElem?_setIfInBounds, if_neg (by omega), stC_k p lg k v lost j hj]
  · rw [Array.getElem?_setIfInBounds, if_neg (by decide), stC_lost]
theorem stC_putlost (b : Bool) : (stC p lg k v lost).setIfInBounds 269 (.bool b) = stC p lg k v b := by
  refine stC_ext p lg k v b (by rw [Array.size_setIfInBounds, stC_size]) ?_ (fun i hi => ?_) ?_ (fun j hj => ?_) ?_
  · rw [Array.getElem?_setIfInBounds, if_neg (by decide), stC_0]
  · rw [Array.getElem?_setIfInBounds, if_neg (by omega), stC_tab p lg k v lost i hi]
  · rw [Array.getElem?_setIfInBounds, if_neg (by decide), stC_lg]
  · rw [Array.getElem?_setIfInBounds, if_neg (by omega), stC_k p lg k v lost j hj]
  · rw [Array.getElem?_setIfInBounds, if_pos rfl, if_pos (by rw [stC_size]; decide)]
theorem lay_get : ∀ (vs : List Value) (X : Array Value) (o i : Nat), (o + vs.length ≤ X.size) → (lay X o vs)[i]? = if o ≤ i ∧ i < o + vs.length then vs[i - o]? else X[i]?
  | [], X, o, i, _ => by rw [if_neg (by simp only [List.length_nil]; omega)]; rfl
  | u :: r, X, o, i, h => by
    rw [lay, lay_get r _ (o + 1) i (by rw [Array.size_setIfInBounds]; simp at h; omega), Array.getElem?_setIfInBounds]
    simp only [List.length_cons] at h ⊢
    by_cases h1 : i = o
    · subst h1
      rw [if_neg (by omega), if_pos rfl, if_pos (by omega), if_pos (by omega), Nat.sub_self, List.getElem?_cons_zero]
    · by_cases h2 : o + 1 ≤ i ∧ i < o + 1 + r.length
      · rw [if_pos h2, if_pos (by omega), show i - o = (i - (o + 1)) + 1 by omega, List.getElem?_cons_succ]
      · rw [if_neg h2, if_neg (fun e => h1 e.symm), if_neg (by omega)]
theorem stC_layk (k' : St.K) (u : Value) : lay (stC p lg k v lost) 258 (kC k' u).toList = stC p lg k' u lost := by
  have hl : (kC k' u).toList.length = 11 := by rw [Array.length_toList]; rfl
  have hb : 258 + (kC k' u).toList.length ≤ (stC p lg k v lost).size := by rw [stC_size, hl]; decide
  refine stC_ext p lg k' u lost (by rw [lay_size, stC_size]) ?_ (fun i hi => ?_) ?_ (fun j hj => ?_) ?_
  · rw [lay_get _ _ _ _ hb, if_neg (by omega), stC_0]
  · rw [lay_get _ _ _ _ hb, if_neg (by omega), stC_tab p lg k v lost i hi]
  · rw [lay_get _ _ _ _ hb, if_neg (by omega), stC_lg]
  · rw [lay_get _ _ _ _ hb, hl, if_pos (by omega), Nat.add_sub_cancel_left, Array.getElem?_toList]
  · rw [lay_get _ _ _ _ hb, hl, if_neg (by omega), stC_lost]
end
attribute [irreducible] stC
theorem sizeStore : (Tryz.prog.info? 99).map (·.size) = some 270 := by kernel_rfl
def StRow (W : World) (q p : Nat) (lg : Value) (k : St.K) (v : Value) (lost : Bool) : Prop := Rw W q (stC p lg k v lost) 99
section
variable {W W' : World} {q p : Nat} {lg : Value} {k : St.K} {v : Value} {lost : Bool}
theorem StRow.c0 (h : StRow W q p lg k v lost) : W.cell? ⟨q, 0, none⟩ = some (.pointer (some ⟨p, 0, none⟩)) := Rw.cell h 0 (stC_0 ..)
theorem StRow.clg (h : StRow W q p lg k v lost) : W.cell? ⟨q, 257, none⟩ = some lg := Rw.cell h 257 (stC_lg ..)
theorem StRow.clost (h : StRow W q p lg k v lost) : W.cell? ⟨q, 269, none⟩ = some (.bool lost) := Rw.cell h 269 (stC_lost ..)
theorem StRow.csnap (h : StRow W q p lg k v lost) : W.cell? ⟨q, 260, none⟩ = some (.int .u64 (k.snap.idx : Int)) := Rw.cell h 260 (stC_snap ..)
theorem StRow.tab (h : StRow W q p lg k v lost) : TabO W q 1 Cr.tab := ⟨Rw.lt h, fun i hi => Rw.cell h (1 + i) (stC_tab p lg k v lost i hi)⟩
theorem StRow.putlg (h : StRow W q p lg k v lost) (u : Value) : StRow (W.setCell ⟨q, 257, none⟩ u) q p u k v lost := by
  have := Rw.put h 257 u
  rwa [stC_putlg] at this
theorem StRow.putlost (h : StRow W q p lg k v lost) (b : Bool) : StRow (W.setCell ⟨q, 269, none⟩ (.bool b)) q p lg k v b := by
  have := Rw.put h 269 (.bool b)
  rwa [stC_putlost] at this
theorem StRow.putk (h : StRow W q p lg k v lost) (k' : St.K) (u : Value) : StRow (W.setCells q 258 (kC k' u).toList) q p lg k' u lost := by
  have := Rw.puts h 258 (kC k' u).toList
  rwa [stC_layk] at this
theorem StRow.bel (h : StRow W q p lg k v lost) (hb : Below W.heap.size W W') : StRow W' q p lg k v lost := Rw.bel h hb
theorem StRow.ko {S : Nat → Prop} (h : StRow W q p lg k v lost) (hk : Ko S W W') (hq : ¬ S q) : StRow W' q p lg k v lost := hk.row hq h
end
section
variable {At : DkAt}
def pwr (lost off : Bool) : Int := if (lost || off) = true then 7 else 0
set_option maxRecDepth 100000 in
theorem spower_any (K : DiskK At) (W : World) (q p : Nat) (S : Nat → Prop) (d : Dk.D) (lg : Value) (k : St.K) (v : Value) (lost : Bool) (hA : At W p S d) (hR : StRow W q p lg k v lost) :
    Calls Tryz.prog 76 #[.pointer (some ⟨q, 0, none⟩)] W fun e w' => e = .returned (.int .i64 (pwr lost d.off)) ∧ Below W.heap.size W w' := by
  have HD := Lib.hid (K.down W p S d hA)
  have c0 := hR.c0
  have cl := hR.clost
  clear hA hR
  cases lost with
  | true =>
    go_enter Tryz.func76, Tryz.ntmps76
    go_wp2_with fail
    go_ret
    exact ⟨rfl, Below.refl _ _⟩
  | false =>
    rcases ho : d.off with _ | _
    all_goals (
      rw [ho] at HD
      clear ho
      go_enter Tryz.func76, Tryz.ntmps76
      go_wp2_with fail
      refine HD.out.mono ?_
      rintro e w1 ⟨rfl, hb⟩
      go_wp2_with fail
      go_ret
      exact ⟨rfl, hb⟩)
end
end Go.Proofs.YtjhbpcecdhdnoaaGreatDoor
namespace Go.Proofs.YtjhbpcecdhdnoaaGreatDoor
open Go.RowKit
theorem kc_cells {W : World} {gb : Nat} {k : St.K} {v : Value} (h : Rw W gb (kC k v) 58) :
    W.cell? ⟨gb, 0, none⟩ = some (.int .u64 (k.trm : Int)) ∧ W.cell? ⟨gb, 1, none⟩ = some (.int .u8 (k.vote : Int)) ∧ W.cell? ⟨gb, 2, none⟩ = some (.int .u64 (k.snap.idx : Int)) ∧ W.cell? ⟨gb, 3, none⟩ = some (.int .u64 (k.snap.trm : Int)) ∧ W.cell? ⟨gb, 4, none⟩ = some (.int .u8 (k.snap.mem : Int)) ∧
    W.cell? ⟨gb, 5, none⟩ = some (.string (St.sx k.snap 0)) ∧ W.cell? ⟨gb, 6, none⟩ = some (.string (St.sx k.snap 1)) ∧ W.cell? ⟨gb, 7, none⟩ = some (.string (St.sx k.snap 2)) ∧ W.cell? ⟨gb, 8, none⟩ = some (.string (St.sx k.snap 3)) ∧ W.cell? ⟨gb, 9, none⟩ = some (.string (St.sx k.snap 4)) ∧ W.cell? ⟨gb, 10, none⟩ = some v :=
  ⟨h.cell 0 rfl, h.cell 1 rfl, h.cell 2 rfl, h.cell 3 rfl, h.cell 4 rfl, h.cell 5 rfl, h.cell 6 rfl, h.cell 7 rfl, h.cell 8 rfl, h.cell 9 rfl, h.cell 10 rfl⟩
def Began (At : DkAt) (W : World) (q p n : Nat) (S : Nat → Prop) (k : St.K) (v lg : Value) (lost : Bool) (R : Wl.Er × Dk.D) (w' : World) : Prop :=
  ∃ lg' S', StRow w' q p lg' k v lost ∧ At w' p S' R.2 ∧ (∀ x, S' x → S x ∨ W.heap.size ≤ x) ∧ ¬ S' q ∧ Ko (fun x => S x ∨ x = q) W w' ∧
    (R.1 = .of .ok → ∃ lq, lg' = .pointer (some ⟨lq, 0, none⟩) ∧ LogAt w' lq p n 0 ∧ W.heap.size ≤ lq ∧ ¬ S' lq) ∧ (R.1 ≠ .of .ok → lg' = lg)
structure KIn (W : World) (k : St.K) (A : Option Addr) (c : Nat) : Prop where
  lies : Lies W A (ec k.ents)
  nil : (∃ b off, A = some ⟨b, off, none⟩) ∨ (A = none ∧ c = 0)
  cap : k.ents.length ≤ c
  len : k.ents.length ≤ 100000
  small : St.Small k
theorem KIn.bel {W W' : World} {k : St.K} {A : Option Addr} {c : Nat} (h : KIn W k A c) (hb : Below W.heap.size W W') : KIn W' k A c := ⟨h.lies.below hb, h.nil, h.cap, h.len, h.small⟩
theorem KIn.ok {W : World} {k : St.K} {A : Option Addr} {c : Nat} (h : KIn W k A c) : Wl.Ok (St.base k) :=
  ⟨fun r hr => by have := St.base_fits h.small r hr; exact ⟨this.1, by omega⟩, by rw [St.base_length]; have := h.len; omega⟩
theorem Ko.put {T : Nat → Prop} {W W' : World} (h : Ko T W W') {q : Nat} (hq : T q) (i : Nat) (v : Value) : Ko T W (W'.setCell ⟨q, i, none⟩ v) :=
  ⟨h.os, h.tape, h.output, by simpa using h.size, fun k hk hn => (heap_setCell_other W' ⟨q, i, none⟩ k v (fun e => hn (by rw [e]; exact hq))).trans (h.block k hk hn)⟩
theorem Ko.puts {T : Nat → Prop} {W W' : World} {q : Nat} (hq : T q) : ∀ (vs : List Value) (i : Nat) {W' : World}, Ko T W W' → Ko T W (W'.setCells q i vs)
  | [], _, _, h => h
  | v :: r, i, _, h => by
    rw [World.setCells]
    exact Ko.puts (W' := W') hq r (i + 1) (h.put hq i v)
theorem er_no {e : Wl.Er} (h : e ≠ .of .ok) : (e.no == 0) = false ∧ (e.no != 0) = true ∧ (e.no = 0) = False := by
  cases e with
  | of e => have := eno_ne (e := e) (fun h2 => h (by rw [h2])); exact ⟨this.2.1, this.1, this.2.2⟩
  | there => exact ⟨rfl, rfl, by simp [Wl.Er.no]⟩
section
variable {At : DkAt}
set_option maxRecDepth 100000 in
set_option maxHeartbeats 8000000 in
theorem sbegin_any (K : DiskK At) (W : World) (q p n : Nat) (S : Nat → Prop) (d : Dk.D) (k : St.K) (v lg : Value) (lost : Bool) (k2 : St.K) (A : Option Addr) (c : Nat) (hA : At W p S d) (hR : StRow W q p lg k v lost) (hq : ¬ S q) (hE : EnvT W) (hn : n < Nm.top) (hK : KIn W k2 A c)
    (hc : Dk.load d + 100 + Wl.cost ((St.base k2).map Wl.text) ≤ 100000000) :
    Calls Tryz.prog 74 #[.pointer (some ⟨q, 0, none⟩), .int .u64 (n : Int), .agg (kC k2 (.slice A k2.ents.length c))] W fun e w' => e = .returned (.int .i64 (St.bgn d n k2).1.no) ∧ Began At W q p n S k v lg lost (St.bgn d n k2) w' := by
  have HKd := Lib.hid K
  have HKI := Lib.hid hK
  have Hc := Lib.hid hc
  have Hn := Lib.hid hn
  have HEn := Lib.hid (fun W' (hb : Below W.heap.size W W') => hE.below hb (Nat.le_refl _))
  have HA0 := Lib.hid hA
  have HR0 := Lib.hid hR
  have Hq := Lib.hid hq
  have HB := Lib.hid (fun W2 (hb : Below W.heap.size W W2) => base_any k2 A c W2 (hK.lies.below hb) (by have := hK.len; omega))
  have HBg := Lib.hid (fun W2 B cb (hb : Below W.heap.size W W2) (hl : Lies W2 B (wrs (St.base k2))) => begin_at K nameSays W2 p q 1 n k2.snap.idx (stC p lg k v lost) 99 S d (St.base k2) B cb (hE.below hb (Nat.le_refl _)) hn hK.small.six (hR.bel hb) (fun j hj => stC_tabA p lg k v lost j hj) (K.below hA hb) hl hK.ok hc)
  have hni : n ≤ 18446744073709551615 := by unfold Nm.top at hn; omega
  have hki : k2.snap.idx ≤ 18446744073709551615 := by have := hK.small.six; unfold Nm.top at this; omega
  obtain ⟨m, hm⟩ : ∃ m, m = (St.base k2).length := ⟨_, rfl⟩
  obtain ⟨R, hRR⟩ : ∃ R, R = St.bgn d n k2 := ⟨_, rfl⟩
  have hRR2 : Wl.begins d n k2.snap.idx (St.base k2) = R := by rw [hRR]; rfl
  rw [hRR2] at HBg
  rw [← hm] at HB HBg
  rw [← hRR]
  obtain ⟨X, hX⟩ : ∃ X, X = kC k2 (.slice A k2.ents.length c) := ⟨_, rfl⟩
  rw [← hX]
  have HXe := Lib.hid hX
  clear hA hR hq hE hn hK hc K hm hRR hRR2 hX
  go_enter Tryz.func74, Tryz.ntmps74
  go_upto_region 1 with (fail)
  refine forget (fun W1 => Rw W1 W.heap.size X 58 ∧ Bl W W1 ∧ W.heap.size ≤ W.heap.size) ⟨Rw.new W X _, (Bl.refl W).alloc _, Nat.le_refl _⟩ ?_
  intro W1 H1
  obtain ⟨gb, hgb⟩ : ∃ gb, gb = W.heap.size := ⟨_, rfl⟩
  rw [← hgb] at H1 ⊢
  clear hgb
  have HI := Lib.hid H1
  have hcs := H1.1
  rw [HXe.out] at hcs
  obtain ⟨x0, x1, x2, x3, x4, x5, x6, x7, x8, x9, x10⟩ := kc_cells hcs
  have q0 := (HR0.out.bel H1.2.1.bel).c0
  have HB2 := HB
  unfold kC at HB2
  have H2 : ∀ w2, Below W1.heap.size W1 w2 → Below W.heap.size W w2 ∧ w2.cell? ⟨q, 0, none⟩ = some (.pointer (some ⟨p, 0, none⟩)) ∧ w2.cell? ⟨gb, 2, none⟩ = some (.int .u64 (k2.snap.idx : Int)) := fun w2 hb => ⟨H1.2.1.next hb, later hb q0, later hb x2⟩
  have HH2 := Lib.hid H2
  clear H2 hcs H1
  go_region_law (first
    | (go_simp; go_at_call 127; refine (HB2.out _ (below_drew HI.out.2.1.bel)).mono ?_; rintro e w2 ⟨B, cb, rfl, ho, hb2⟩; obtain ⟨hbW, q0b, x2b⟩ := HH2.out w2 (bnext (below_drew (Below.refl _ _)) hb2); have HL := Lib.hid (And.intro hbW (lies_rec ho)); clear ho hb2 hbW)
    | (go_simp; go_at_call 46; refine (HBg.out _ B cb HL.out.1 HL.out.2).mono ?_; rintro e w3 ⟨u, rfl, h1, h2, h3⟩; have H3 := Lib.hid (And.intro h1 (And.intro h2 h3)); clear h1 h2 h3))
  all_goals (
    clear q0 q0b x0 x1 x2 x2b x3 x4 x5 x6 x7 x8 x9 x10
    have row3 := (HR0.out.bel HL.out.1).ko H3.out.2.2.ko Hq.out
    have hKo : Ko (fun x => S x ∨ x = q) W w3 := (Ko.bel HL.out.1).trans (T := S) H3.out.2.2.ko (fun _ h => .inl (.inl h))
    have hqW := Rw.lt HR0.out
    have hw2 := HL.out.1.size
    by_cases hok : R.1 = .of .ok
    · obtain ⟨lq, rfl, hlg, hlq⟩ := H3.out.1 hok
      obtain ⟨⟨S', hA3, hS3, hS4⟩, hlog, _⟩ := hlg
      have hno : R.1.no = 0 := by rw [hok]; rfl
      have hlqq : lq ≠ q := by omega
      have hSq : ¬ S' q := fun h => (hS3 q h).elim Hq.out (by omega)
      have c257 := row3.clg
      have f257 := Rw.free row3 257
      have HF : Hid (Began At W q p n S k v lg lost R (w3.setCell ⟨q, 257, none⟩ (.pointer (some ⟨lq, 0, none⟩)))) := Lib.hid
        ⟨_, S', row3.putlg _, HKd.out.stays hA3 (fun x hx => heap_setCell_other w3 ⟨q, 257, none⟩ x _ (fun e => hSq ((show x = q from e) ▸ hx))), fun x hx => (hS3 x hx).imp id (fun h => Nat.le_trans hw2 h), hSq, hKo.put (.inr rfl) _ _,
          fun _ => ⟨lq, rfl, hlog.kept (heap_setCell_other w3 ⟨q, 257, none⟩ lq _ hlqq), Nat.le_trans hw2 hlq, hS4⟩, fun h => absurd hok h⟩
      rw [hno]
      have Hno := Lib.hid hno
      clear H3 hok hlog hA3 hS3 hS4 hKo row3 hno
      go_wp2_with fail
      go_ret
      exact ⟨by rw [Hno.out]; rfl, HF.out⟩
    · obtain ⟨z1, z2, z3⟩ := er_no hok
      obtain ⟨⟨S', hA3, hS3⟩, _⟩ := H3.out.2.2
      have hSq : ¬ S' q := fun h => (hS3 q h).elim Hq.out (by omega)
      have HF : Hid (Began At W q p n S k v lg lost R w3) := Lib.hid
        ⟨lg, S', row3, hA3, fun x hx => (hS3 x hx).imp id (fun h => Nat.le_trans hw2 h), hSq, hKo, fun h => absurd h hok, fun _ => rfl⟩
      obtain ⟨nv, hnv⟩ : ∃ nv, nv = R.1.no := ⟨_, rfl⟩
      rw [← hnv] at z1 z2 z3 ⊢
      have Hnv := Lib.hid hnv
      clear hok H3 hA3 hS3 hKo row3 hnv
      go_wp2_with fail
      go_ret
      exact ⟨by rw [← Hnv.out]; rfl, HF.out⟩)
end
end Go.Proofs.YtjhbpcecdhdnoaaGreatDoor
