/-
  The plain mathematics of layer 9 (stable): what Save, Cut and Open do to a disk, where the power stays and where it goes. No program's function is named here.
-/
import Derived.Test.YtjhbpcecdhdnoaaGreatDoorRStMathZ
import Derived.Test.YtjhbpcecdhdnoaaGreatDoorRWwI
set_option linter.unusedSimpArgs false
set_option linter.unusedVariables false
namespace Go.Proofs.YtjhbpcecdhdnoaaGreatDoor
namespace St
open Wl (R row rows row1 all rws ba name lay segT headT seg Is Was)
open Dk (D Fl find put drop okName e0 Inv)
/-! ### What is done -/
def remove (d : D) (x : ByteArray) : Dk.E × D := if (Dk.delete d x).1 = .none then (.ok, (Dk.delete d x).2) else Dk.delete d x
def writeSnap (d : D) (s : Sn) : Dk.E × D := if (remove d (sname s.idx)).1 = .ok then Wl.lay (remove d (sname s.idx)).2 (sname s.idx) (srow s) else remove d (sname s.idx)
def bgn (d : D) (n : Nat) (k : K) : Wl.Er × D := Wl.begins d n k.snap.idx (base k)
def turn (d : D) (n b : Nat) (k : K) : Int × D × (Nat × Nat) :=
  if (bgn d (n + 1) k).1 = .of .ok then (eno (remove (bgn d (n + 1) k).2 (name n)).1, (remove (bgn d (n + 1) k).2 (name n)).2, (n + 1, 0))
  else ((bgn d (n + 1) k).1.no, (bgn d (n + 1) k).2, (n, b))
def add (d : D) (n b : Nat) (l : List R) (k : K) : Int × D × (Nat × Nat) :=
  if (Wl.add d n l).1 = .ok then (if b + l.length < 32 then (0, (Wl.add d n l).2, (n, b + l.length)) else turn (Wl.add d n l).2 n (b + l.length) k)
  else (eno (Wl.add d n l).1, (Wl.add d n l).2, (n, b))
def install (d : D) (n b old : Nat) (k : K) : Int × D × (Nat × Nat) :=
  if (writeSnap d k.snap).1 = .ok then
    (if (turn (writeSnap d k.snap).2 n b k).1 = 0 then (eno (remove (turn (writeSnap d k.snap).2 n b k).2.1 (sname old)).1, (remove (turn (writeSnap d k.snap).2 n b k).2.1 (sname old)).2, (turn (writeSnap d k.snap).2 n b k).2.2)
     else turn (writeSnap d k.snap).2 n b k)
  else (eno (writeSnap d k.snap).1, (writeSnap d k.snap).2, (n, b))
def number (x : ByteArray) : Option Nat := if Wl.v10 (x.data.toList.drop 4) < Nm.top ∧ name (Wl.v10 (x.data.toList.drop 4)) = x then some (Wl.v10 (x.data.toList.drop 4)) else none
def isSn (x : ByteArray) : Bool := decide (Wl.v10 (x.data.toList.drop 5) < Nm.top ∧ sname (Wl.v10 (x.data.toList.drop 5)) = x)
def stale (n idx : Nat) (x : ByteArray) : Bool := (match number x with | some m => decide (m ≠ n) | none => false) || (isSn x && decide (x ≠ sname idx))
def sweep (n idx : Nat) : D → List ByteArray → Dk.E × D
  | d, [] => (.ok, d)
  | d, x :: l => if stale n idx x then (if (Dk.delete d x).1 = .ok then sweep n idx (Dk.delete d x).2 l else Dk.delete d x) else sweep n idx d l
def insU (n : Nat) : List Nat → List Nat
  | [] => [n]
  | m :: l => if n ≤ m then n :: m :: l else m :: insU n l
def sortU (l : List Nat) : List Nat := l.foldr insU []
def segs (d : D) : List Nat := sortU ((Dk.list d).filterMap number)
def nextN (L : List Nat) : Nat := match L.getLast? with
  | some n => n + 1
  | none => 1
def opens (d : D) : Int × D × Option (Nat × K) :=
  if d.off then (7, d, none)
  else if (bgn d (nextN (segs d)) (newest d (segs d))).1 = .of .ok then
    (if (sweep (nextN (segs d)) (newest d (segs d)).snap.idx (bgn d (nextN (segs d)) (newest d (segs d))).2 (Dk.list (bgn d (nextN (segs d)) (newest d (segs d))).2)).1 = .ok
      then (0, (sweep (nextN (segs d)) (newest d (segs d)).snap.idx (bgn d (nextN (segs d)) (newest d (segs d))).2 (Dk.list (bgn d (nextN (segs d)) (newest d (segs d))).2)).2, some (nextN (segs d), newest d (segs d)))
      else (eno (sweep (nextN (segs d)) (newest d (segs d)).snap.idx (bgn d (nextN (segs d)) (newest d (segs d))).2 (Dk.list (bgn d (nextN (segs d)) (newest d (segs d))).2)).1, (sweep (nextN (segs d)) (newest d (segs d)).snap.idx (bgn d (nextN (segs d)) (newest d (segs d))).2 (Dk.list (bgn d (nextN (segs d)) (newest d (segs d))).2)).2, none))
  else ((bgn d (nextN (segs d)) (newest d (segs d))).1.no, (bgn d (nextN (segs d)) (newest d (segs d))).2, none)
theorem number_some {x : ByteArray} {m : Nat} (h : number x = some m) : m < Nm.top ∧ name m = x := by
  unfold number at h
  split at h
  · rename_i hc
    injection h with h
    subst h; exact hc
  · cases h
theorem number_name {m : Nat} (h : m < Nm.top) : number (name m) = some m := by
  have e : (name m).data.toList = Wl.nameL m := by simp [name]
  have h1 := (Wl.nameL_of h rfl).1
  unfold number
  rw [e, h1, if_pos ⟨h, rfl⟩]
theorem isSn_sname {i : Nat} (h : i < Nm.top) : isSn (sname i) = true := by
  have e : (sname i).data.toList = snL i := by simp [sname]
  have h1 : Wl.v10 ((snL i).drop 5) = i := Wl.w10_val h
  unfold isSn
  rw [e, h1]
  simp [h]
theorem isSn_some {x : ByteArray} (h : isSn x = true) : ∃ i, i < Nm.top ∧ sname i = x := by
  unfold isSn at h
  simp only [decide_eq_true_eq] at h
  exact ⟨_, h⟩
theorem insU_mem (n m : Nat) : ∀ l, m ∈ insU n l ↔ m = n ∨ m ∈ l
  | [] => by simp [insU]
  | x :: l => by
    unfold insU
    split
    · simp
    · rw [List.mem_cons, insU_mem n m l, List.mem_cons]
      constructor
      · rintro (h | h | h)
        · exact .inr (.inl h)
        · exact .inl h
        · exact .inr (.inr h)
      · rintro (h | h | h)
        · exact .inr (.inl h)
        · exact .inl h
        · exact .inr (.inr h)
theorem sortU_mem (m : Nat) : ∀ l, m ∈ sortU l ↔ m ∈ l
  | [] => by simp [sortU]
  | x :: l => by
    show m ∈ insU x (sortU l) ↔ _
    rw [insU_mem, sortU_mem m l, List.mem_cons]
theorem insU_rise {n : Nat} : ∀ {l : List Nat}, l.Pairwise (· < ·) → n ∉ l → (insU n l).Pairwise (· < ·)
  | [], _, _ => by simp [insU]
  | x :: l, h, hn => by
    obtain ⟨h1, h2⟩ := List.pairwise_cons.1 h
    have hx : n ≠ x := fun e => hn (by rw [e]; exact List.mem_cons_self ..)
    unfold insU
    split
    · refine List.pairwise_cons.2 ⟨fun y hy => ?_, h⟩
      rcases List.mem_cons.1 hy with rfl | hy
      · omega
      · have := h1 y hy; omega
    · refine List.pairwise_cons.2 ⟨fun y hy => ?_, insU_rise h2 fun e => hn (List.mem_cons_of_mem _ e)⟩
      rcases (insU_mem n y l).1 hy with rfl | hy
      · omega
      · exact h1 y hy
theorem sortU_rise : ∀ {l : List Nat}, l.Nodup → (sortU l).Pairwise (· < ·)
  | [], _ => List.Pairwise.nil
  | x :: l, h => by
    obtain ⟨h1, h2⟩ := List.nodup_cons.1 h
    exact insU_rise (sortU_rise h2) fun e => h1 ((sortU_mem x l).1 e)
theorem list_nodup {d : D} (h : Inv d) : (Dk.list d).Nodup := by
  have key : ∀ fs : List Fl, Dk.Rises fs → (fs.map (·.name)).Nodup := by
    intro fs
    induction fs with
    | nil => exact fun _ => List.nodup_nil
    | cons f fs ih =>
      intro hr
      rw [List.map_cons]
      refine List.nodup_cons.2 ⟨fun hm => ?_, ih hr.2⟩
      obtain ⟨g, hg, he⟩ := List.mem_map.1 hm
      have := hr.1 g hg
      rw [he] at this
      exact Dk.lt_irrefl _ this
  exact key _ h.rises
theorem filterMap_nodup : ∀ {l : List ByteArray}, l.Nodup → (l.filterMap number).Nodup
  | [], _ => List.nodup_nil
  | x :: l, h => by
    obtain ⟨h1, h2⟩ := List.nodup_cons.1 h
    rw [List.filterMap_cons]
    split
    · exact filterMap_nodup h2
    · rename_i m hm
      refine List.nodup_cons.2 ⟨fun h3 => ?_, filterMap_nodup h2⟩
      obtain ⟨y, hy, hy2⟩ := List.mem_filterMap.1 h3
      have e1 := (number_some hm).2
      have e2 := (number_some hy2).2
      exact h1 (by rw [← e1, e2]; exact hy)
/-! ### How it goes -/
def Else (d d' : D) (x : ByteArray) : Prop := ∀ m, m ≠ x → find d'.files m = find d.files m
/-! ### A state on a disk -/
structure Small (k : K) : Prop where
  snap : k.snap = zs ∨ (k.snap.idx ≠ 0 ∧ SnFits k.snap)
  trm : k.trm < Nm.top
  vote : k.vote < 256
  ents : ∀ e ∈ k.ents, En.Fits e ∧ e.body.size ≤ 100000
theorem Small.six {k : K} (h : Small k) : k.snap.idx < Nm.top := by
  rcases h.snap with h | ⟨_, h⟩
  · rw [h]; decide
  · exact h.idx
theorem text_len {r : R} (hf : Wl.Fits r) (hb : r.ent.body.size ≤ 100000) : (Wl.text r).length ≤ 100060 := by
  unfold Wl.text
  split
  · have h1 := (Nm.cnt_spec r.trm hf.trm).2.2
    rw [List.length_append, List.length_append, Nm.grp_length]
    simp [Cm.one]; omega
  · have h1 := En.enc_len r.ent hf.ent hf.body
    rw [List.length_append]
    unfold En.write
    split
    · simp [Cm.one]; omega
    · simp [Cm.one]
theorem good_of {l : List R} (hr : l.all Wl.right = true) (hf : ∀ r ∈ l, Wl.Fits r ∧ r.ent.body.size ≤ 100000) : Wl.Good l := fun r h =>
  ⟨⟨(hf r h).1, List.all_eq_true.1 hr r h⟩, by have := text_len (hf r h).1 (hf r h).2; unfold Nm.top; omega⟩
theorem base_fits {k : K} (hs : Small k) : ∀ r ∈ base k, Wl.Fits r ∧ r.ent.body.size ≤ 100000 := by
  intro r hr
  rcases List.mem_cons.1 hr with rfl | hr
  · exact ⟨⟨(by show 2 < 256; decide), hs.trm, hs.vote, En.zero_fits, (by show En.zero.body.size < Nm.top; decide)⟩, (by show En.zero.body.size ≤ 100000; decide)⟩
  · obtain ⟨e, he, rfl⟩ := List.mem_map.1 hr
    obtain ⟨h1, h2⟩ := hs.ents e he
    exact ⟨⟨(by show 3 < 256; decide), (by show 0 < Nm.top; decide), (by show 0 < 256; decide), h1, (by show e.body.size < Nm.top; unfold Nm.top; omega)⟩, h2⟩
theorem base_right {k : K} (hf : Fit k) : (base k).all Wl.right = true := by
  refine List.all_eq_true.2 fun r hr => ?_
  rcases List.mem_cons.1 hr with rfl | hr
  · simp [Wl.right]
  · obtain ⟨e, he, rfl⟩ := List.mem_map.1 hr
    obtain ⟨i, hi, rfl⟩ := List.getElem_of_mem he
    simp [Wl.right, rent, hf.may i hi]
theorem base_good {k : K} (hf : Fit k) (hs : Small k) : Wl.Good (base k) := good_of (base_right hf) (base_fits hs)
structure Ready (d : D) (n b : Nat) (k : K) : Prop where
  off : d.off = false
  lt : n < Nm.top
  fit : Fit k
  small : Small k
  ex : ∃ c l, Is d (name n) (segT c k.snap.idx l) (l.length + 1) ∧ c ≤ l.length ∧ l.length < Nm.top ∧ Wl.Good l ∧ after ⟨0, 0, k.snap, []⟩ l = some k
  snap : SnapOk d k.snap
  segs : ∀ m, m < Nm.top → m ≠ n → find d.files (name m) = none
  snaps : ∀ i, i < Nm.top → i ≠ k.snap.idx → find d.files (sname i) = none
theorem Ready.sg {d : D} {n b : Nat} {k : K} (h : Ready d n b k) {P : K → Prop} (hP : P k) : Settled d P n := by
  obtain ⟨c, l, h1, h2, h3, h4, h5⟩ := h.ex
  refine ⟨c, k.snap.idx, l, l.length + 1, l.length + 1, ⟨Nat.le_refl _, ?_, by omega, h.small.six, h4, fun j a b c => ?_⟩, by omega⟩
  · rw [← Wl.segT_length c k.snap.idx l, List.take_of_length_le (Nat.le_refl _), Wl.segT_length]
    exact tf_is h1 (by rw [Wl.segT_length]; exact Nat.le_refl _)
  · have : j = l.length := by omega
    subst this
    exact ⟨k.snap, k, rfl, h.snap, by rw [List.take_of_length_le (Nat.le_refl _)]; exact h5, hP⟩
theorem Ready.good {d : D} {n b : Nat} {k : K} (h : Ready d n b k) {P : K → Prop} (hP : P k) : Good d P :=
  ⟨n, h.lt, h.sg hP, fun m a b c => by rw [h.segs m b (by omega)] at c; cases c⟩
theorem Settled.same {d d' : D} {P : K → Prop} {m : Nat} (h : Settled d P m) (h1 : find d'.files (name m) = find d.files (name m)) (h2 : ∀ sn, SnapOk d sn → SnapOk d' sn) : Settled d' P m := by
  obtain ⟨b, x, l, i, s, h3, h4⟩ := h
  exact ⟨b, x, l, i, s, h3.same h1 (fun sn _ => h2 sn), h4⟩
theorem Pend.same {d d' : D} {P : K → Prop} {m : Nat} (h : Pend d P m) (h1 : find d'.files (name m) = find d.files (name m)) (h2 : ∀ sn, SnapOk d sn → SnapOk d' sn) : Pend d' P m := by
  obtain ⟨b, x, l, i, s, h3⟩ := h
  exact ⟨b, x, l, i, s, h3.same h1 (fun sn _ => h2 sn)⟩
theorem Is.sg {d : D} {n : Nat} {k : K} (hf : Fit k) (hs : Small k) (hl : k.ents.length < 1000000) (hi : Is d (name n) (segT (base k).length k.snap.idx (base k)) ((base k).length + 1)) (hsn : SnapOk d k.snap) {P : K → Prop} (hP : P k) : Settled d P n := by
  have hb := base_length k
  refine ⟨(base k).length, k.snap.idx, base k, (base k).length + 1, (base k).length + 1, ⟨Nat.le_refl _, ?_, by unfold Nm.top; omega, hs.six, base_good hf hs, fun j a b c => ?_⟩, Nat.le_refl _⟩
  · rw [← Wl.segT_length (base k).length k.snap.idx (base k), List.take_of_length_le (Nat.le_refl _), Wl.segT_length]
    exact tf_is hi (by rw [Wl.segT_length]; exact Nat.le_refl _)
  · have : j = (base k).length := by omega
    subst this
    exact ⟨k.snap, k, rfl, hsn, by rw [List.take_of_length_le (Nat.le_refl _)]; exact after_base k hf, hP⟩
end St
end Go.Proofs.YtjhbpcecdhdnoaaGreatDoor
