/-
  The plain mathematics of layer 9 (stable): what is behind records, and behind a snapshot. No program is named here.
  The plain mathematics of layer 9 (stable): files of rows, a snapshot's file, what the newest segment that counts has, and what a crash leaves of it. No program is named here.
-/
import Derived.Test.YtjhbpcecdhdnoaaGreatDoorRWlM
set_option linter.unusedSimpArgs false
set_option linter.unusedVariables false
namespace Go.Proofs.YtjhbpcecdhdnoaaGreatDoor
namespace St
open Wl (R)
structure Sn where
  idx : Nat
  trm : Nat
  mem : Nat
  sec : List ByteArray
  deriving DecidableEq
structure K where
  trm : Nat
  vote : Nat
  snap : Sn
  ents : List En.E
def zs : Sn := ⟨0, 0, 0, [Dk.e0, Dk.e0, Dk.e0, Dk.e0, Dk.e0]⟩
def zero : K := ⟨0, 0, zs, []⟩
def before (k : K) (i : Nat) : Nat := match i with
  | 0 => k.snap.trm
  | i + 1 => (k.ents.getD i En.zero).trm
def pl (k : K) (x : Nat) : Nat := x - k.snap.idx - 1
def one (k : K) (r : R) : Option K :=
  if Wl.right r = false then none
  else if r.kind = 2 then some ⟨r.trm, r.vote, k.snap, k.ents⟩
  else if k.snap.idx < r.ent.idx ∧ pl k r.ent.idx ≤ k.ents.length ∧ before k (pl k r.ent.idx) ≤ r.ent.trm then some ⟨k.trm, k.vote, k.snap, k.ents.take (pl k r.ent.idx) ++ [r.ent]⟩ else none
def after : K → List R → Option K
  | k, [] => some k
  | k, r :: l => (one k r).bind fun k' => after k' l
def has (k : K) (i t : Nat) : Bool := match k.ents[pl k i]? with
  | some e => decide (e.trm = t)
  | none => false
def cut (k : K) (s : Sn) : Option K :=
  if s.idx ≤ k.snap.idx then none else some ⟨k.trm, k.vote, s, if has k s.idx s.trm then k.ents.drop (pl k s.idx + 1) else []⟩
structure Fit (k : K) : Prop where
  idx : ∀ i (h : i < k.ents.length), k.ents[i].idx = k.snap.idx + i + 1
  trm : ∀ i (h : i < k.ents.length), before k i ≤ k.ents[i].trm
  may : ∀ i (h : i < k.ents.length), En.may k.ents[i] = true
theorem before_succ (k : K) {i : Nat} (h : i < k.ents.length) : before k (i + 1) = k.ents[i].trm := by
  show (k.ents.getD i En.zero).trm = _
  rw [List.getD_eq_getElem?_getD, List.getElem?_eq_getElem h]; rfl
theorem before_take (k k' : K) (p : Nat) (x : List En.E) (hs : k'.snap = k.snap) (he : k'.ents = k.ents.take p ++ x) {i : Nat} (h : i ≤ p) (hp : p ≤ k.ents.length) : before k' i = before k i := by
  cases i with
  | zero => show k'.snap.trm = _; rw [hs]; rfl
  | succ i =>
    have h1 : i < k.ents.length := by omega
    have h2 : i < k'.ents.length := by rw [he, List.length_append, List.length_take]; omega
    rw [before_succ k h1, before_succ k' h2]
    congr 1
    simp only [he]
    rw [List.getElem_append_left (by rw [List.length_take]; omega), List.getElem_take]
theorem one_state {k : K} {r : R} (h : Wl.right r = true) (h2 : r.kind = 2) : one k r = some ⟨r.trm, r.vote, k.snap, k.ents⟩ := by
  unfold one; rw [h, if_neg (by decide), if_pos h2]
theorem one_some {k k' : K} {r : R} (h : one k r = some k') : Wl.right r = true ∧ ((r.kind = 2 ∧ k' = ⟨r.trm, r.vote, k.snap, k.ents⟩) ∨ (r.kind ≠ 2 ∧ k.snap.idx < r.ent.idx ∧ pl k r.ent.idx ≤ k.ents.length ∧ before k (pl k r.ent.idx) ≤ r.ent.trm ∧ k' = ⟨k.trm, k.vote, k.snap, k.ents.take (pl k r.ent.idx) ++ [r.ent]⟩)) := by
  unfold one at h
  split at h
  · cases h
  · rename_i h1
    refine ⟨by simpa using h1, ?_⟩
    split at h
    · rename_i h2
      exact .inl ⟨h2, by injection h with h; exact h.symm⟩
    · rename_i h2
      split at h
      · rename_i h3
        exact .inr ⟨h2, h3.1, h3.2.1, h3.2.2, by injection h with h; exact h.symm⟩
      · cases h
theorem right_may {r : R} (h : Wl.right r = true) (h2 : r.kind ≠ 2) : r.kind = 3 ∧ r.trm = 0 ∧ r.vote = 0 ∧ En.may r.ent = true := by
  unfold Wl.right at h
  rw [if_neg h2] at h
  simpa using h
theorem one_fit {k k' : K} {r : R} (hf : Fit k) (h : one k r = some k') : Fit k' ∧ k'.snap = k.snap := by
  obtain ⟨hr, h | h⟩ := one_some h
  · obtain ⟨_, rfl⟩ := h
    exact ⟨⟨hf.idx, fun i h => by have := hf.trm i h; cases i <;> exact this, hf.may⟩, rfl⟩
  · obtain ⟨h2, h3, h4, h5, he⟩ := h
    have hm := (right_may hr h2).2.2.2
    obtain ⟨p, hp⟩ : ∃ p, p = pl k r.ent.idx := ⟨_, rfl⟩
    rw [← hp] at h4 h5 he
    have hpi : r.ent.idx = k.snap.idx + p + 1 := by rw [hp]; unfold pl; omega
    have hs : k'.snap = k.snap := by rw [he]
    have hen : k'.ents = k.ents.take p ++ [r.ent] := by rw [he]
    have hl : k'.ents.length = p + 1 := by rw [hen, List.length_append, List.length_take, List.length_singleton]; omega
    have hlt : ∀ i (h : i < k'.ents.length) (hi : i < p), k'.ents[i] = k.ents[i]'(by omega) := fun i h hi => by
      simp only [hen]
      rw [List.getElem_append_left (by rw [List.length_take]; omega), List.getElem_take]
    have hge : ∀ (h : p < k'.ents.length), k'.ents[p] = r.ent := fun h => by
      simp only [hen]
      rw [List.getElem_append_right (by rw [List.length_take]; omega)]
      simp [List.length_take, Nat.min_eq_left h4]
    refine ⟨⟨fun i h => ?_, fun i h => ?_, fun i h => ?_⟩, hs⟩
    · rcases Nat.lt_or_ge i p with hi | hi
      · rw [hlt i h hi, hs, hf.idx]
      · have : i = p := by omega
        subst this
        rw [hge, hs, hpi]
    · rw [before_take k k' p [r.ent] hs hen (by omega) h4]
      rcases Nat.lt_or_ge i p with hi | hi
      · rw [hlt i h hi]; exact hf.trm i _
      · have : i = p := by omega
        subst this
        rw [hge]; exact h5
    · rcases Nat.lt_or_ge i p with hi | hi
      · rw [hlt i h hi]; exact hf.may i _
      · have : i = p := by omega
        subst this
        rw [hge]; exact hm
theorem after_append : ∀ (l m : List R) (k : K), after k (l ++ m) = (after k l).bind fun k' => after k' m
  | [], m, k => rfl
  | r :: l, m, k => by
    show (one k r).bind _ = ((one k r).bind _).bind _
    rw [Option.bind_assoc]
    congr 1
    funext k'
    exact after_append l m k'
theorem after_take {l : List R} {k k' : K} (h : after k l = some k') (i : Nat) : ∃ k1, after k (l.take i) = some k1 := by
  have e : after k (l.take i ++ l.drop i) = some k' := by rw [List.take_append_drop]; exact h
  rw [after_append] at e
  obtain ⟨k1, h1, _⟩ := Option.bind_eq_some_iff.1 e
  exact ⟨k1, h1⟩
def rent (e : En.E) : R := ⟨3, 0, 0, e⟩
def base (k : K) : List R := ⟨2, k.trm, k.vote, En.zero⟩ :: k.ents.map rent
theorem base_length (k : K) : (base k).length = k.ents.length + 1 := by simp [base]
theorem after_ents (k : K) (hf : Fit k) : ∀ (i : Nat), i ≤ k.ents.length → after ⟨k.trm, k.vote, k.snap, []⟩ ((k.ents.take i).map rent) = some ⟨k.trm, k.vote, k.snap, k.ents.take i⟩
  | 0, _ => rfl
  | i + 1, h => by
    have hi : i < k.ents.length := by omega
    rw [List.take_add_one, List.getElem?_eq_getElem hi, Option.toList_some, List.map_append, after_append, after_ents k hf i (by omega), Option.bind_some]
    show (one _ (rent k.ents[i])).bind _ = _
    have hp : pl ⟨k.trm, k.vote, k.snap, k.ents.take i⟩ (rent k.ents[i]).ent.idx = i := by
      show k.ents[i].idx - k.snap.idx - 1 = i
      rw [hf.idx i hi]; omega
    have hr : Wl.right (rent k.ents[i]) = true := by
      unfold Wl.right
      rw [if_neg (by show ¬ (3 = 2); decide)]
      simp [rent, hf.may i hi]
    have hlt : (k.ents.take i).length = i := by rw [List.length_take]; omega
    have e : one ⟨k.trm, k.vote, k.snap, k.ents.take i⟩ (rent k.ents[i]) = some ⟨k.trm, k.vote, k.snap, k.ents.take i ++ [k.ents[i]]⟩ := by
      unfold one
      rw [hr, if_neg (by decide), if_neg (by show ¬ (3 = 2); decide), hp, if_pos]
      · simp only [rent]
        rw [List.take_of_length_le (by omega)]
      · refine ⟨?_, by show i ≤ (k.ents.take i).length; omega, ?_⟩
        · show k.snap.idx < k.ents[i].idx
          rw [hf.idx i hi]; omega
        · have h1 := hf.trm i hi
          refine Nat.le_trans (Nat.le_of_eq ?_) h1
          cases i with
          | zero => rfl
          | succ j =>
            rw [before_succ k (by omega), before_succ _ (by show j < (k.ents.take (j + 1)).length; rw [List.length_take]; omega)]
            show ((k.ents.take (j + 1))[j]'_).trm = _
            rw [List.getElem_take]
    rw [e]; rfl
theorem after_base (k : K) (hf : Fit k) : after ⟨0, 0, k.snap, []⟩ (base k) = some k := by
  show (one _ _).bind _ = _
  rw [one_state (by simp [Wl.right]) rfl, Option.bind_some]
  have := after_ents k hf k.ents.length (Nat.le_refl _)
  rw [List.take_of_length_le (Nat.le_refl _)] at this
  exact this
end St
end Go.Proofs.YtjhbpcecdhdnoaaGreatDoor
namespace Go.Proofs.YtjhbpcecdhdnoaaGreatDoor
namespace St
open Wl (R row rows row1 all rws ba name lay segT headT seg Is Was)
open Dk (D Fl find put drop okName e0 Inv)
/-! ### A snapshot's name -/
def snL (n : Nat) : List UInt8 := 115 :: 110 :: 97 :: 112 :: 46 :: Wl.wd (Wl.w10 n) n
def sname (n : Nat) : ByteArray := ⟨(snL n).toArray⟩
theorem snL_length (n : Nat) : (snL n).length = 5 + Wl.w10 n := by
  show (Wl.wd (Wl.w10 n) n).length + 1 + 1 + 1 + 1 + 1 = _
  rw [Wl.wd_length]; omega
theorem sname_size {n : Nat} (h : n < Nm.top) : 13 ≤ (sname n).size ∧ (sname n).size ≤ 25 := by
  have h1 : (sname n).size = (snL n).length := by simp [sname, ByteArray.size]
  rw [h1, snL_length]
  have := Wl.w10_le h
  omega
/-! ### Files of rows -/
structure TFl (f : Fl) (T : List (List UInt8)) (s : Nat) : Prop where
  recs : f.recs = rws T
  syn : f.syn = s
  le : s ≤ T.length
  torn : row1 f.torn.data.toList = none
  cl : s < T.length → f.torn = e0 ∧ f.cut = false
def TF (d : D) (n : ByteArray) (T : List (List UInt8)) (s : Nat) : Prop := ∃ f, find d.files n = some f ∧ TFl f T s
theorem row1_e0 : row1 e0.data.toList = none := Wl.row1_nil
theorem tf_is {d : D} {n : ByteArray} {T : List (List UInt8)} {s : Nat} (h : Is d n T s) (hs : s ≤ T.length) : TF d n T s := ⟨_, h, rfl, rfl, hs, row1_e0, fun _ => ⟨rfl, rfl⟩⟩
theorem tf_find {d d' : D} {n : ByteArray} {T : List (List UInt8)} {s : Nat} (h : TF d n T s) (he : find d'.files n = find d.files n) : TF d' n T s := by
  obtain ⟨f, h1, h2⟩ := h; exact ⟨f, he.trans h1, h2⟩
theorem tf_crash {d : D} {n : ByteArray} {T : List (List UInt8)} {s : Nat} (h : TF d n T s) (hT : ∀ t ∈ T, t.length < Nm.top) (keep torn : List Int) :
    ∃ m, s ≤ m ∧ m ≤ T.length ∧ TF (Dk.start (Dk.crash d keep torn)) n (T.take m) m := by
  obtain ⟨f, h, hf⟩ := h
  obtain ⟨j, hj⟩ := Dk.find_crash keep torn n 0 d.files
  rw [h] at hj
  simp only [Option.map_some] at hj
  have hfl : f.recs.length = T.length := by rw [hf.recs, Wl.rws_length]
  by_cases hl : s < T.length
  case neg =>
    have : s = T.length := by have := hf.le; omega
    refine ⟨T.length, by omega, Nat.le_refl _, f, ?_, ?_⟩
    · show find (Dk.crashL keep torn 0 d.files) n = _
      rw [hj, if_neg (by rw [hf.syn, hfl]; omega)]
    · rw [List.take_of_length_le (Nat.le_refl _)]
      exact ⟨hf.recs, by rw [hf.syn]; exact this, Nat.le_refl _, hf.torn, fun h => absurd h (Nat.lt_irrefl _)⟩
  obtain ⟨m, hm⟩ : ∃ m, m = Dk.kept f keep j := ⟨_, rfl⟩
  have hm1 : s ≤ m := by rw [hm, ← hf.syn]; exact Dk.le_kept (by rw [hf.syn, hfl]; exact hf.le) keep j
  have hm2 : m ≤ T.length := by rw [hm, ← hfl]; exact Dk.kept_le f keep j
  refine ⟨m, hm1, hm2, Dk.leave f keep torn j, ?_, ?_⟩
  · show find (Dk.crashL keep torn 0 d.files) n = _
    rw [hj, if_pos (by rw [hf.syn, hfl]; exact hl)]
  have hlen : (T.take m).length = m := by rw [List.length_take]; omega
  refine ⟨?_, hm.symm, by omega, ?_, fun h => by omega⟩
  · show f.recs.take (Dk.kept f keep j) = _
    rw [← hm, hf.recs]
    unfold rws
    rw [List.map_take]
  · show row1 (if Dk.kept f keep j < f.recs.length ∧ j < torn.length then (f.recs.getD (Dk.kept f keep j) e0).extract 0 (torn.getD j 0 % ((f.recs.getD (Dk.kept f keep j) e0).size : Int)).toNat else f.torn).data.toList = none
    rw [← hm]
    split
    · rename_i hc
      obtain ⟨h1, h2⟩ := hc
      rw [hfl] at h1
      have hr : f.recs.getD m e0 = ba (Wl.row T[m]) := by
        rw [hf.recs, List.getD_eq_getElem?_getD]
        unfold rws
        rw [List.getElem?_map, List.getElem?_eq_getElem h1]
        rfl
      rw [hr, Lib.extract_data, Wl.ba_size]
      have hp : (0 : Int) < ((Wl.row T[m]).length : Int) := by have := Wl.row_len T[m]; omega
      have h3 := Int.emod_nonneg (torn.getD j 0) (show ((Wl.row T[m]).length : Int) ≠ 0 by omega)
      have h4 := Int.emod_lt_of_pos (torn.getD j 0) hp
      obtain ⟨k, hk⟩ : ∃ k, k = (torn.getD j 0 % ((Wl.row T[m]).length : Int)).toNat := ⟨_, rfl⟩
      have hk2 : k < (Wl.row T[m]).length := by omega
      rw [← hk]
      rw [Wl.ba_data, List.drop_zero, Nat.sub_zero]
      refine Wl.row1_cut (hT _ (List.getElem_mem h1)) (List.take_prefix _ _) fun e2 => ?_
      have := congrArg List.length e2
      rw [List.length_take] at this
      omega
    · exact hf.torn
theorem tf_full {d : D} {n : ByteArray} {T : List (List UInt8)} (h : TF d n T T.length) (hT : ∀ t ∈ T, t.length < Nm.top) (keep torn : List Int) : TF (Dk.start (Dk.crash d keep torn)) n T T.length := by
  obtain ⟨m, h1, h2, h3⟩ := tf_crash h hT keep torn
  have : m = T.length := by omega
  subst this
  rwa [List.take_of_length_le (Nat.le_refl _)] at h3
theorem tf_read {d : D} {n : ByteArray} {T : List (List UInt8)} {s : Nat} (h : TF d n T s) (ho : d.off = false) (hT : ∀ t ∈ T, t.length < Nm.top) :
    ∃ p, Dk.read d n = (all T ++ p, .ok) ∧ row1 p = none ∧ rows (all T ++ p) = T := by
  obtain ⟨f, h, hf⟩ := h
  refine ⟨f.torn.data.toList, ?_, hf.torn, Wl.rows_all hT hf.torn⟩
  unfold Dk.read
  rw [ho, if_neg (by decide), h]
  simp only []
  unfold Dk.bytes
  rw [hf.recs, Wl.cat_rws]
/-! ### A snapshot's file -/
def headS (s : Sn) : List UInt8 := Nm.grp s.idx ++ (Nm.grp s.trm ++ Nm.grp s.mem)
def headP (t : List UInt8) : Option (Nat × Nat × Nat) :=
  (Cm.rdV t).bind fun (a, l) => (Cm.rdV l).bind fun (b, l) => (Cm.rdV l).bind fun (c, l) => if l = [] ∧ c ≤ 255 then some (a, b, c) else none
structure SnFits (s : Sn) : Prop where
  idx : s.idx < Nm.top
  trm : s.trm < Nm.top
  mem : s.mem < 256
  len : s.sec.length = 5
  sec : ∀ x ∈ s.sec, x.size ≤ 100000
theorem headP_headS {s : Sn} (h : SnFits s) : headP (headS s) = some (s.idx, s.trm, s.mem) := by
  unfold headP headS
  rw [(Cm.rdV_iff _ _ _).2 ⟨h.idx, rfl⟩, Option.bind_some]
  simp only []
  rw [(Cm.rdV_iff _ _ _).2 ⟨h.trm, rfl⟩, Option.bind_some]
  simp only []
  have hm : s.mem < Nm.top := by have := h.mem; unfold Nm.top; omega
  have := (Cm.rdV_iff (Nm.grp s.mem) s.mem []).2 ⟨hm, by simp⟩
  rw [this, Option.bind_some]
  have := h.mem
  simp; omega
def srow (s : Sn) : List (List UInt8) := headS s :: s.sec.map (·.data.toList)
theorem srow_length {s : Sn} (h : SnFits s) : (srow s).length = 6 := by simp [srow, h.len]
theorem srow_len {s : Sn} (h : SnFits s) : ∀ t ∈ srow s, t.length ≤ 100000 := by
  intro t ht
  rcases List.mem_cons.1 ht with rfl | ht
  · have hm : s.mem < Nm.top := by have := h.mem; unfold Nm.top; omega
    have h1 := (Nm.cnt_spec s.idx h.idx).2.2
    have h2 := (Nm.cnt_spec s.trm h.trm).2.2
    have h3 := (Nm.cnt_spec s.mem hm).2.2
    unfold headS
    rw [List.length_append, List.length_append, Nm.grp_length, Nm.grp_length, Nm.grp_length]
    omega
  · obtain ⟨x, hx, rfl⟩ := List.mem_map.1 ht
    have := h.sec x hx
    rw [← Lib.size_eq]; omega
theorem srow_top {s : Sn} (h : SnFits s) : ∀ t ∈ srow s, t.length < Nm.top := fun t ht => by have := srow_len h t ht; unfold Nm.top; omega
def rdSnap (i : Nat) (T : List (List UInt8)) : Option Sn := match T with
  | h :: T => (headP h).bind fun (x, t, m) => if x = i ∧ 5 ≤ T.length then some ⟨x, t, m, (T.take 5).map ba⟩ else none
  | [] => none
def readSnap (d : D) (i : Nat) : Option Sn := if i = 0 then some zs else if (Dk.read d (sname i)).2 = .ok then rdSnap i (rows (Dk.read d (sname i)).1) else none
def SnapOk (d : D) (s : Sn) : Prop := (s.idx = 0 ∧ s = zs) ∨ (s.idx ≠ 0 ∧ SnFits s ∧ TF d (sname s.idx) (srow s) 6)
theorem ba_of (b : ByteArray) : ba b.data.toList = b := ByteArray.ext (by simp [ba])
theorem rdSnap_srow {s : Sn} (h : SnFits s) : rdSnap s.idx (srow s) = some s := by
  unfold rdSnap srow
  simp only []
  rw [headP_headS h, Option.bind_some]
  simp only []
  rw [if_pos (by simp [h.len]), List.take_of_length_le (by rw [List.length_map, h.len]; exact Nat.le_refl _), List.map_map]
  congr 1
  have : (ba ∘ fun x : ByteArray => x.data.toList) = id := funext fun x => ba_of x
  rw [this, List.map_id]
theorem readSnap_ok {d : D} {s : Sn} (h : SnapOk d s) (ho : d.off = false) : readSnap d s.idx = some s := by
  unfold readSnap
  rcases h with ⟨h0, rfl⟩ | ⟨h0, hf, ht⟩
  · rw [if_pos h0]
  · rw [if_neg h0]
    obtain ⟨p, h1, _, h2⟩ := tf_read ht ho (srow_top hf)
    rw [h1, if_pos rfl, h2, rdSnap_srow hf]
theorem snapOk_crash {d : D} {s : Sn} (h : SnapOk d s) (keep torn : List Int) : SnapOk (Dk.start (Dk.crash d keep torn)) s := by
  rcases h with h | ⟨h0, hf, ht⟩
  · exact .inl h
  · refine .inr ⟨h0, hf, ?_⟩
    have hl := srow_length hf
    rw [← hl] at ht ⊢
    exact tf_full ht (srow_top hf) keep torn
/-! ### Segments -/
theorem read_take {b n : Nat} (hb : b < Nm.top) (hn : n < Nm.top) {l : List R} (hg : Wl.Good l) {i : Nat} (hi : i ≤ l.length + 1) {p : List UInt8} (hp : row1 p = none) :
    Wl.read (all ((segT b n l).take i) ++ p) = if i = 0 then (0, [], false) else (n, l.take (i - 1), decide (b ≤ i - 1)) := by
  by_cases hm : i = 0
  · subst hm
    rw [if_pos rfl]
    exact Wl.read_none hp
  · rw [if_neg hm]
    obtain ⟨k, rfl⟩ : ∃ k, i = k + 1 := ⟨i - 1, by omega⟩
    have e : (segT b n l).take (k + 1) = headT b n :: (l.take k).map Wl.text := by simp [segT]
    rw [e, Wl.read_seg hb hn (fun r hr => (hg r (List.mem_of_mem_take hr)).1) (fun r hr => (hg r (List.mem_of_mem_take hr)).2) hp, List.length_take]
    simp only [Nat.add_sub_cancel]
    rw [Nat.min_eq_left (by omega)]
def found (d : D) (n : Nat) : Option K :=
  if (Wl.readD d n).2 = .ok ∧ (Wl.readD d n).1.2.2 = true then (readSnap d (Wl.readD d n).1.1).bind fun s => after ⟨0, 0, s, []⟩ (Wl.readD d n).1.2.1 else none
def newestR (d : D) : List Nat → K
  | [] => zero
  | n :: l => (found d n).getD (newestR d l)
def newest (d : D) (L : List Nat) : K := newestR d L.reverse
structure Segs (d : D) (L : List Nat) : Prop where
  rise : L.Pairwise (· < ·)
  mem : ∀ m, m ∈ L ↔ m < Nm.top ∧ name m ∈ Dk.list d
structure Sg (d : D) (P : K → Prop) (m b idx : Nat) (l : List R) (i s : Nat) : Prop where
  hi : i ≤ l.length + 1
  tf : TF d (name m) ((segT b idx l).take i) s
  hb : b < Nm.top
  hx : idx < Nm.top
  good : Wl.Good l
  all : ∀ j, s ≤ j + 1 → b ≤ j → j + 1 ≤ i → ∃ sn k, sn.idx = idx ∧ SnapOk d sn ∧ after ⟨0, 0, sn, []⟩ (l.take j) = some k ∧ P k
def Pend (d : D) (P : K → Prop) (m : Nat) : Prop := ∃ b idx l i s, Sg d P m b idx l i s
def Settled (d : D) (P : K → Prop) (m : Nat) : Prop := ∃ b idx l i s, Sg d P m b idx l i s ∧ b + 1 ≤ s
def Good (d : D) (P : K → Prop) : Prop := ∃ n, n < Nm.top ∧ Settled d P n ∧ ∀ m, n < m → m < Nm.top → (find d.files (name m)).isSome → Pend d P m
theorem Sg.mono {d : D} {P Q : K → Prop} {m b idx i s : Nat} {l : List R} (h : Sg d P m b idx l i s) (hPQ : ∀ k, P k → Q k) : Sg d Q m b idx l i s :=
  ⟨h.hi, h.tf, h.hb, h.hx, h.good, fun j h1 h2 h3 => by obtain ⟨sn, k, a, b, c, e⟩ := h.all j h1 h2 h3; exact ⟨sn, k, a, b, c, hPQ k e⟩⟩
theorem Pend.mono {d : D} {P Q : K → Prop} {m : Nat} (h : Pend d P m) (hPQ : ∀ k, P k → Q k) : Pend d Q m := by obtain ⟨b, x, l, i, s, h⟩ := h; exact ⟨b, x, l, i, s, h.mono hPQ⟩
theorem Settled.mono {d : D} {P Q : K → Prop} {m : Nat} (h : Settled d P m) (hPQ : ∀ k, P k → Q k) : Settled d Q m := by obtain ⟨b, x, l, i, s, h, h2⟩ := h; exact ⟨b, x, l, i, s, h.mono hPQ, h2⟩
theorem Good.mono {d : D} {P Q : K → Prop} (h : Good d P) (hPQ : ∀ k, P k → Q k) : Good d Q := by
  obtain ⟨n, h1, h2, h3⟩ := h; exact ⟨n, h1, h2.mono hPQ, fun m a b c => (h3 m a b c).mono hPQ⟩
theorem seg_top {b idx : Nat} {l : List R} {i : Nat} (hb : b < Nm.top) (hx : idx < Nm.top) (hg : Wl.Good l) : ∀ t ∈ (segT b idx l).take i, t.length < Nm.top := fun t ht => Wl.segT_len hb hx hg t (List.mem_of_mem_take ht)
theorem take_length {b idx : Nat} {l : List R} {i : Nat} (hi : i ≤ l.length + 1) : ((segT b idx l).take i).length = i := by rw [List.length_take, Wl.segT_length]; omega
theorem Sg.readD {d : D} {P : K → Prop} {m b idx i s : Nat} {l : List R} (h : Sg d P m b idx l i s) (ho : d.off = false) :
    Wl.readD d m = (if i = 0 then (0, [], false) else (idx, l.take (i - 1), decide (b ≤ i - 1)), .ok) := by
  obtain ⟨p, h1, h2, _⟩ := tf_read h.tf ho (seg_top h.hb h.hx h.good)
  unfold Wl.readD
  rw [h1, if_pos rfl, read_take h.hb h.hx h.good h.hi h2]
theorem Sg.le {d : D} {P : K → Prop} {m b idx i s : Nat} {l : List R} (h : Sg d P m b idx l i s) : s ≤ i := by
  obtain ⟨f, _, hf⟩ := h.tf
  have := hf.le
  rwa [take_length h.hi] at this
theorem Sg.found {d : D} {P : K → Prop} {m b idx i s : Nat} {l : List R} (h : Sg d P m b idx l i s) (ho : d.off = false) :
    if b + 1 ≤ i then ∃ k, found d m = some k ∧ P k else found d m = none := by
  have hr := h.readD ho
  have hle := h.le
  split
  · rename_i hbi
    obtain ⟨sn, k, h1, h2, h3, h4⟩ := h.all (i - 1) (by omega) (by omega) (by omega)
    refine ⟨k, ?_, h4⟩
    unfold St.found
    rw [if_neg (by omega)] at hr
    rw [hr]
    simp only []
    rw [if_pos ⟨by simp, by simp; omega⟩, ← h1, readSnap_ok h2 ho, Option.bind_some, h3]
  · rename_i hbi
    unfold St.found
    rw [hr]
    refine if_neg fun hc => ?_
    obtain ⟨_, hc⟩ := hc
    split at hc
    · cases hc
    · simp at hc; omega
theorem Pend.found {d : D} {P : K → Prop} {m : Nat} (h : Pend d P m) (ho : d.off = false) : St.found d m = none ∨ ∃ k, St.found d m = some k ∧ P k := by
  obtain ⟨b, x, l, i, s, h⟩ := h
  have := h.found ho
  split at this
  · exact .inr this
  · exact .inl this
theorem Settled.found {d : D} {P : K → Prop} {m : Nat} (h : Settled d P m) (ho : d.off = false) : ∃ k, St.found d m = some k ∧ P k := by
  obtain ⟨b, x, l, i, s, h, hs⟩ := h
  have h1 := h.found ho
  have := h.le
  rwa [if_pos (by omega)] at h1
theorem TF.there {d : D} {n : ByteArray} {T : List (List UInt8)} {s : Nat} (h : TF d n T s) : (find d.files n).isSome := by obtain ⟨f, h, _⟩ := h; rw [h]; rfl
theorem Sg.crash {d : D} {P : K → Prop} {m b idx i s : Nat} {l : List R} (h : Sg d P m b idx l i s) (keep torn : List Int) : ∃ j, s ≤ j ∧ Sg (Dk.start (Dk.crash d keep torn)) P m b idx l j j := by
  obtain ⟨j, h1, h2, h3⟩ := tf_crash h.tf (seg_top h.hb h.hx h.good) keep torn
  rw [take_length h.hi] at h2
  rw [List.take_take, Nat.min_eq_left h2] at h3
  refine ⟨j, h1, by have := h.hi; omega, h3, h.hb, h.hx, h.good, fun x a b c => ?_⟩
  obtain ⟨sn, k, e1, e2, e3, e4⟩ := h.all x (by omega) b (by omega)
  exact ⟨sn, k, e1, snapOk_crash e2 keep torn, e3, e4⟩
theorem Sg.same {d d' : D} {P : K → Prop} {m b idx i s : Nat} {l : List R} (h : Sg d P m b idx l i s) (h1 : find d'.files (name m) = find d.files (name m)) (h2 : ∀ sn, sn.idx = idx → SnapOk d sn → SnapOk d' sn) : Sg d' P m b idx l i s :=
  ⟨h.hi, tf_find h.tf h1, h.hb, h.hx, h.good, fun j a b c => by obtain ⟨sn, k, e1, e2, e3, e4⟩ := h.all j a b c; exact ⟨sn, k, e1, h2 sn e1 e2, e3, e4⟩⟩
end St
end Go.Proofs.YtjhbpcecdhdnoaaGreatDoor
