/-
  The plain mathematics of layer 7 (disk): a disk as a row of files by rising names, what is done to it, and what follows. No program is named here.
  The plain mathematics of layer 7 (disk), second part: what is so of every disk, and what a crash leaves. No program is named here.
  The plain mathematics of layer 7 (disk), third part: how much a disk holds, and that an act adds no more than its texts. No program is named here.
-/
import Derived.Sort.Walk0
import Derived.Lib.BufferWrite
set_option linter.unusedSimpArgs false
set_option linter.unusedVariables false
namespace Go.Proofs.YtjhbpcecdhdnoaaGreatDoor
namespace Dk
def e0 : ByteArray := ⟨#[]⟩
structure Fl where
  name : ByteArray
  recs : List ByteArray
  syn : Nat
  cut : Bool
  torn : ByteArray
structure D where
  files : List Fl
  off : Bool
  left : Nat
def D.new : D := ⟨[], false, 0⟩
def lt (a b : ByteArray) : Prop := a.data.toList < b.data.toList
instance (a b : ByteArray) : Decidable (lt a b) := inferInstanceAs (Decidable (a.data.toList < b.data.toList))
def okName (n : ByteArray) : Prop := 1 ≤ n.size ∧ n.size ≤ 32
instance (n : ByteArray) : Decidable (okName n) := inferInstanceAs (Decidable (_ ∧ _))
def find (fs : List Fl) (n : ByteArray) : Option Fl := fs.find? fun f => decide (f.name = n)
def drop (fs : List Fl) (n : ByteArray) : List Fl := fs.filter fun f => decide (f.name ≠ n)
def put : List Fl → Fl → List Fl
  | [], f => [f]
  | g :: gs, f => if g.name = f.name then f :: gs else if lt f.name g.name then f :: g :: gs else g :: put gs f
def goes (d : D) : Bool × D :=
  if d.left = 1 then (false, { d with off := true, left := 0 }) else (true, { d with left := d.left - 1 })
inductive E where
  | ok | arg | nil | none | down | state
  deriving DecidableEq
def append (d : D) (n r : ByteArray) : E × D :=
  if d.off then (.down, d) else if ¬ okName n ∨ r.size = 0 then (.arg, d)
  else if ((find d.files n).map (·.cut)).getD false then (.state, d)
  else if (goes d).1 = false then (.down, (goes d).2)
  else (.ok, { (goes d).2 with files := put d.files (match find d.files n with | some f => { f with recs := f.recs ++ [r] } | none => ⟨n, [r], 0, false, e0⟩) })
def sync (d : D) (n : ByteArray) : E × D :=
  if d.off then (.down, d) else match find d.files n with
  | none => (.none, d)
  | some f => if (goes d).1 = false then (.down, (goes d).2) else (.ok, { (goes d).2 with files := put d.files { f with syn := f.recs.length } })
def rename (d : D) (a b : ByteArray) : E × D :=
  if d.off then (.down, d) else if ¬ okName b then (.arg, d) else match find d.files a with
  | none => (.none, d)
  | some f => if (goes d).1 = false then (.down, (goes d).2) else (.ok, { (goes d).2 with files := put (drop d.files a) { f with name := b } })
def delete (d : D) (n : ByteArray) : E × D :=
  if d.off then (.down, d) else match find d.files n with
  | none => (.none, d)
  | some _ => if (goes d).1 = false then (.down, (goes d).2) else (.ok, { (goes d).2 with files := drop d.files n })
def cat (l : List ByteArray) : List UInt8 := (l.map (·.data.toList)).flatten
def bytes (f : Fl) : List UInt8 := cat f.recs ++ f.torn.data.toList
def read (d : D) (n : ByteArray) : List UInt8 × E :=
  if d.off then ([], .down) else match find d.files n with
  | none => ([], .none)
  | some f => (bytes f, .ok)
def records (d : D) (n : ByteArray) : Nat × Nat := match find d.files n with
  | none => (0, 0)
  | some f => (f.recs.length, f.syn)
def list (d : D) : List ByteArray := d.files.map (·.name)
def fuse (d : D) (n : Int) : D := { d with left := n.toNat }
def kept (f : Fl) (keep : List Int) (k : Nat) : Nat := min (f.syn + (keep.getD k 0).toNat) f.recs.length
def leave (f : Fl) (keep torn : List Int) (k : Nat) : Fl :=
  let n := kept f keep k
  ⟨f.name, f.recs.take n, n, f.cut || decide (n < f.recs.length),
    if n < f.recs.length ∧ k < torn.length then (f.recs.getD n e0).extract 0 (torn.getD k 0 % ((f.recs.getD n e0).size : Int)).toNat else f.torn⟩
def crashL (keep torn : List Int) : Nat → List Fl → List Fl
  | _, [] => []
  | k, f :: fs => if f.syn < f.recs.length then leave f keep torn k :: crashL keep torn (k + 1) fs else f :: crashL keep torn k fs
def crash (d : D) (keep torn : List Int) : D := { d with off := true, files := crashL keep torn 0 d.files }
def start (d : D) : D := { d with off := false }
structure Act where
  op : Nat
  a : ByteArray
  b : ByteArray
  n : Int
  keep : List Int
  torn : List Int
def does (d : D) (x : Act) : (List UInt8 × E) × D :=
  if x.op = 0 then (([], (append d x.a x.b).1), (append d x.a x.b).2)
  else if x.op = 1 then (([], (sync d x.a).1), (sync d x.a).2)
  else if x.op = 2 then (([], (rename d x.a x.b).1), (rename d x.a x.b).2)
  else if x.op = 3 then (([], (delete d x.a).1), (delete d x.a).2)
  else if x.op = 4 then (read d x.a, d)
  else if x.op = 5 then (([], .ok), fuse d x.n)
  else if x.op = 6 then (([], .ok), crash d x.keep x.torn)
  else if x.op = 7 then (([], .ok), start d)
  else (([], .ok), d)
def plays (d : D) : List Act → D
  | [] => d
  | x :: l => plays (does d x).2 l

/-! ### A row of files by rising names -/
theorem lt_irrefl (a : ByteArray) : ¬ lt a a := List.lt_irrefl _
theorem lt_trans {a b c : ByteArray} (h1 : lt a b) (h2 : lt b c) : lt a c := List.lt_trans h1 h2
theorem name_ext {a b : ByteArray} (h : a.data.toList = b.data.toList) : a = b := ByteArray.ext (Array.toList_inj.1 h)
theorem lt_total {a b : ByteArray} (h : a ≠ b) (h1 : ¬ lt a b) : lt b a := by
  unfold lt at *
  rcases Std.lt_trichotomy a.data.toList b.data.toList with h2 | h2 | h2
  · exact absurd h2 h1
  · exact absurd (name_ext h2) h
  · exact h2
def Rises : List Fl → Prop
  | [] => True
  | f :: fs => (∀ g ∈ fs, lt f.name g.name) ∧ Rises fs
theorem mem_put {fs : List Fl} {f g : Fl} (h : g ∈ put fs f) : g = f ∨ g ∈ fs := by
  induction fs with
  | nil => simp [put] at h; exact .inl h
  | cons x xs ih =>
    unfold put at h
    repeat' split at h
    · rcases List.mem_cons.1 h with h | h
      · exact .inl h
      · exact .inr (List.mem_cons_of_mem _ h)
    · rcases List.mem_cons.1 h with h | h
      · exact .inl h
      · exact .inr h
    · rcases List.mem_cons.1 h with h | h
      · exact .inr (by rw [h]; exact List.mem_cons_self ..)
      · rcases ih h with h | h
        · exact .inl h
        · exact .inr (List.mem_cons_of_mem _ h)
theorem rises_put {fs : List Fl} (h : Rises fs) (f : Fl) : Rises (put fs f) := by
  induction fs with
  | nil => exact ⟨fun g hg => (by cases hg), trivial⟩
  | cons x xs ih =>
    obtain ⟨h1, h2⟩ := h
    unfold put
    split
    · rename_i he
      exact ⟨fun g hg => by rw [← he]; exact h1 g hg, h2⟩
    · rename_i he
      split
      · rename_i hl
        refine ⟨fun g hg => ?_, h1, h2⟩
        rcases List.mem_cons.1 hg with hg | hg
        · rw [hg]; exact hl
        · exact lt_trans hl (h1 g hg)
      · rename_i hl
        refine ⟨fun g hg => ?_, ih h2⟩
        rcases mem_put hg with hg | hg
        · rw [hg]; exact lt_total (fun h => he h.symm) hl
        · exact h1 g hg
theorem rises_filter {fs : List Fl} (h : Rises fs) (p : Fl → Bool) : Rises (fs.filter p) := by
  induction fs with
  | nil => trivial
  | cons x xs ih =>
    obtain ⟨h1, h2⟩ := h
    rw [List.filter_cons]
    split
    · exact ⟨fun g hg => h1 g (List.mem_filter.1 hg).1, ih h2⟩
    · exact ih h2
theorem rises_drop {fs : List Fl} (h : Rises fs) (n : ByteArray) : Rises (drop fs n) := rises_filter h _
theorem find_name {fs : List Fl} {n : ByteArray} {f : Fl} (h : find fs n = some f) : f.name = n := by
  have := List.find?_some h
  simpa using this
theorem find_mem {fs : List Fl} {n : ByteArray} {f : Fl} (h : find fs n = some f) : f ∈ fs := List.mem_of_find?_eq_some h
theorem find_cons (f : Fl) (fs : List Fl) (n : ByteArray) : find (f :: fs) n = if f.name = n then some f else find fs n := by
  unfold find
  rw [List.find?_cons]
  by_cases h : f.name = n <;> simp [h]
/-! ### A crash -/
theorem leave_name (f : Fl) (keep torn : List Int) (k : Nat) : (leave f keep torn k).name = f.name := rfl
theorem find_crash (keep torn : List Int) (n : ByteArray) : ∀ (k : Nat) (fs : List Fl), ∃ j, find (crashL keep torn k fs) n = (find fs n).map fun f => if f.syn < f.recs.length then leave f keep torn j else f
  | k, [] => ⟨0, rfl⟩
  | k, f :: fs => by
    unfold crashL
    by_cases h : f.name = n
    · refine ⟨k, ?_⟩
      rw [find_cons, if_pos h]
      split
      · rw [find_cons, leave_name, if_pos h]; simp [*]
      · rw [find_cons, if_pos h]; simp [*]
    · rw [find_cons, if_neg h]
      split
      · obtain ⟨j, hj⟩ := find_crash keep torn n (k + 1) fs
        exact ⟨j, by rw [find_cons, leave_name, if_neg h, hj]⟩
      · obtain ⟨j, hj⟩ := find_crash keep torn n k fs
        exact ⟨j, by rw [find_cons, if_neg h, hj]⟩
end Dk
end Go.Proofs.YtjhbpcecdhdnoaaGreatDoor
namespace Go.Proofs.YtjhbpcecdhdnoaaGreatDoor
namespace Dk
structure Okf (f : Fl) : Prop where
  name : okName f.name
  syn : f.syn ≤ f.recs.length
  cut : f.cut = true → f.syn = f.recs.length
  torn : f.cut = false → f.torn = e0
  recs : ∀ r ∈ f.recs, r.size ≠ 0
structure Inv (d : D) : Prop where
  rises : Rises d.files
  ok : ∀ f ∈ d.files, Okf f
theorem inv_new : Inv D.new := ⟨trivial, fun f hf => by cases hf⟩
theorem inv_files {d e : D} (h : Inv d) (he : e.files = d.files) : Inv e := ⟨by rw [he]; exact h.rises, by rw [he]; exact h.ok⟩
theorem goes_files (d : D) : (goes d).2.files = d.files := by unfold goes; split <;> rfl
theorem inv_put {d : D} (h : Inv d) {f : Fl} (hf : Okf f) {e : D} (he : e.files = put d.files f) : Inv e :=
  ⟨by rw [he]; exact rises_put h.rises f, by
    rw [he]; intro g hg
    rcases mem_put hg with rfl | hg
    · exact hf
    · exact h.ok g hg⟩
theorem mem_drop {fs : List Fl} {n : ByteArray} {g : Fl} (h : g ∈ drop fs n) : g ∈ fs := (List.mem_filter.1 h).1
theorem kept_le (f : Fl) (keep : List Int) (k : Nat) : kept f keep k ≤ f.recs.length := Nat.min_le_right _ _
theorem le_kept {f : Fl} (h : f.syn ≤ f.recs.length) (keep : List Int) (k : Nat) : f.syn ≤ kept f keep k := by unfold kept; omega
theorem leave_len (f : Fl) (keep torn : List Int) (k : Nat) : (leave f keep torn k).recs.length = kept f keep k := by
  show (f.recs.take (kept f keep k)).length = _
  rw [List.length_take]; have := kept_le f keep k; omega
theorem okf_leave {f : Fl} (h : Okf f) (keep torn : List Int) (k : Nat) : Okf (leave f keep torn k) := by
  refine ⟨h.name, by rw [leave_len]; exact Nat.le_refl _, fun _ => by rw [leave_len]; rfl, fun hc => ?_, fun r hr => h.recs r (List.mem_of_mem_take hr)⟩
  have hc : (f.cut || decide (kept f keep k < f.recs.length)) = false := hc
  rw [Bool.or_eq_false_iff, decide_eq_false_iff_not] at hc
  show (if kept f keep k < f.recs.length ∧ k < torn.length then _ else f.torn) = e0
  rw [if_neg (fun h => hc.2 h.1)]
  exact h.torn hc.1
theorem find_ok {d : D} (h : Inv d) {n : ByteArray} {f : Fl} (hf : find d.files n = some f) : Okf f := h.ok f (find_mem hf)
theorem inv_append {d : D} (h : Inv d) (n r : ByteArray) : Inv (append d n r).2 := by
  unfold append
  split
  · exact h
  split
  · exact h
  rename_i ha
  have hn : okName n := Decidable.byContradiction fun hh => ha (.inl hh)
  have hr : r.size ≠ 0 := fun hh => ha (.inr hh)
  split
  · exact h
  rename_i hc
  split
  · exact inv_files h (goes_files d)
  refine inv_put h ?_ rfl
  cases hf : find d.files n with
  | none => exact ⟨hn, Nat.zero_le _, fun hh => Bool.noConfusion hh, fun _ => rfl, fun x hx => by rw [List.mem_singleton.1 hx]; exact hr⟩
  | some f =>
    have ho := find_ok h hf
    rw [hf] at hc
    have hc : f.cut = false := by simpa using hc
    refine ⟨ho.name, ?_, fun hh => ?_, fun _ => ho.torn hc, fun x hx => ?_⟩
    · show f.syn ≤ (f.recs ++ [r]).length
      rw [List.length_append]; have := ho.syn; omega
    · exact Bool.noConfusion (hc.symm.trans hh)
    · rcases List.mem_append.1 hx with hx | hx
      · exact ho.recs x hx
      · rw [List.mem_singleton.1 hx]; exact hr
theorem inv_sync {d : D} (h : Inv d) (n : ByteArray) : Inv (sync d n).2 := by
  unfold sync
  split
  · exact h
  split
  · exact h
  rename_i f hf
  split
  · exact inv_files h (goes_files d)
  have ho := find_ok h hf
  exact inv_put h (f := { f with syn := f.recs.length }) ⟨ho.name, Nat.le_refl _, fun _ => rfl, ho.torn, ho.recs⟩ rfl
theorem inv_rename {d : D} (h : Inv d) (a b : ByteArray) : Inv (rename d a b).2 := by
  unfold rename
  split
  · exact h
  split
  · exact h
  rename_i hb
  split
  · exact h
  rename_i f hf
  split
  · exact inv_files h (goes_files d)
  have ho := find_ok h hf
  have hd : Inv ⟨drop d.files a, d.off, d.left⟩ := ⟨rises_drop h.rises a, fun g hg => h.ok g (mem_drop hg)⟩
  exact inv_put hd (f := { f with name := b }) ⟨Decidable.byContradiction hb, ho.syn, ho.cut, ho.torn, ho.recs⟩ rfl
theorem inv_delete {d : D} (h : Inv d) (n : ByteArray) : Inv (delete d n).2 := by
  unfold delete
  split
  · exact h
  split
  · exact h
  split
  · exact inv_files h (goes_files d)
  exact ⟨rises_drop h.rises n, fun g hg => h.ok g (mem_drop hg)⟩
/-! ### What was synced is there behind any crash -/
theorem cat_append (a b : List ByteArray) : cat (a ++ b) = cat a ++ cat b := by simp [cat]
structure In (f0 f : Fl) : Prop where
  recs : f0.recs <+: f.recs
  syn : f0.recs.length ≤ f.syn
  same : f0.cut = true → f.recs = f0.recs ∧ f.torn = f0.torn ∧ f.cut = true
def Has (f0 : Fl) (d : D) : Prop := ∃ f, find d.files f0.name = some f ∧ In f0 f
/-! ### A crash hangs on numbers of records alone -/
def R (f g : Fl) : Prop := f.name = g.name ∧ f.recs.length = g.recs.length ∧ f.syn = g.syn ∧ f.cut = g.cut
def RL : List Fl → List Fl → Prop
  | [], [] => True
  | f :: fs, g :: gs => R f g ∧ RL fs gs
  | _, _ => False
structure Rd (d e : D) : Prop where
  files : RL d.files e.files
  off : d.off = e.off
  left : d.left = e.left
/-! ### What a crash leaves is a beginning -/
theorem cat_take_drop (l : List ByteArray) (n : Nat) : cat l = cat (l.take n) ++ cat (l.drop n) := by rw [← cat_append, List.take_append_drop]
theorem begins {f : Fl} (ho : Okf f) (keep torn : List Int) (j : Nat) {f' : Fl} (he : f' = if f.syn < f.recs.length then leave f keep torn j else f) :
    bytes f' <+: bytes f ∧ f'.recs.length ≤ f.recs.length ∧ f'.syn = f'.recs.length ∧ (f'.recs.length < f.recs.length → bytes f' ≠ bytes f) := by
  by_cases hl : f.syn < f.recs.length
  case neg =>
    rw [if_neg hl] at he
    subst he
    have := ho.syn
    exact ⟨List.prefix_refl _, Nat.le_refl _, by omega, fun h => absurd h (Nat.lt_irrefl _)⟩
  rw [if_pos hl] at he
  have hc : f.cut = false := by
    cases h : f.cut with
    | false => rfl
    | true => have := ho.cut h; omega
  have h0 := ho.torn hc
  obtain ⟨n, hn⟩ : ∃ n, n = kept f keep j := ⟨_, rfl⟩
  have hle : n ≤ f.recs.length := by rw [hn]; exact kept_le f keep j
  have hlen : f'.recs.length = n := by rw [he, leave_len, hn]
  have hsyn : f'.syn = f'.recs.length := by rw [hlen, he, hn]; rfl
  have hrecs : f'.recs = f.recs.take n := by rw [he, hn]; rfl
  have htorn : f'.torn = if n < f.recs.length ∧ j < torn.length then (f.recs.getD n e0).extract 0 (torn.getD j 0 % ((f.recs.getD n e0).size : Int)).toNat else f.torn := by rw [he, hn]; rfl
  have hb : bytes f = cat (f.recs.take n) ++ cat (f.recs.drop n) := by
    unfold bytes; rw [h0, cat_take_drop f.recs n]
    show _ ++ _ ++ ([] : List UInt8) = _
    rw [List.append_nil]
  have hb' : bytes f' = cat (f.recs.take n) ++ f'.torn.data.toList := by unfold bytes; rw [hrecs]
  by_cases hnl : n < f.recs.length
  · have hr : f.recs.getD n e0 = f.recs[n] := by rw [List.getD_eq_getElem?_getD, List.getElem?_eq_getElem hnl]; rfl
    have hsz : f.recs[n].size ≠ 0 := ho.recs _ (List.getElem_mem hnl)
    have hd : cat (f.recs.drop n) = f.recs[n].data.toList ++ cat (f.recs.drop (n + 1)) := by
      rw [List.drop_eq_getElem_cons hnl]
      rfl
    have hsz2 : f.recs[n].data.toList.length = f.recs[n].size := (Lib.size_eq _).symm
    have ht : ∃ t, t < f.recs[n].size ∧ f'.torn.data.toList = f.recs[n].data.toList.take t := by
      by_cases hj : j < torn.length
      · refine ⟨(torn.getD j 0 % (f.recs[n].size : Int)).toNat, ?_, ?_⟩
        · have h1 := Int.emod_nonneg (torn.getD j 0) (show (f.recs[n].size : Int) ≠ 0 by omega)
          have h2 := Int.emod_lt_of_pos (torn.getD j 0) (show (0 : Int) < (f.recs[n].size : Int) by omega)
          omega
        · rw [htorn, if_pos ⟨hnl, hj⟩, hr, Lib.extract_data]; simp
      · refine ⟨0, by omega, ?_⟩
        rw [htorn, if_neg (fun h => hj h.2), h0]; rfl
    obtain ⟨t, ht1, ht2⟩ := ht
    refine ⟨?_, by omega, hsyn, fun _ hh => ?_⟩
    · rw [hb, hb', ht2, hd]
      refine ⟨f.recs[n].data.toList.drop t ++ cat (f.recs.drop (n + 1)), ?_⟩
      rw [List.append_assoc, ← List.append_assoc (List.take t _), List.take_append_drop]
    · rw [hb, hb', ht2, hd] at hh
      have := congrArg List.length (List.append_cancel_left hh)
      rw [List.length_append, List.length_take, hsz2] at this
      omega
  · have hn2 : n = f.recs.length := by omega
    have htt : f'.torn = e0 := by rw [htorn, if_neg (fun h => hnl h.1), h0]
    refine ⟨?_, by omega, hsyn, fun h => by omega⟩
    rw [hb, hb', htt]
    show _ ++ [] <+: _
    rw [List.append_nil]
    exact List.prefix_append _ _
end Dk
end Go.Proofs.YtjhbpcecdhdnoaaGreatDoor
namespace Go.Proofs.YtjhbpcecdhdnoaaGreatDoor
namespace Dk
def sz (l : List ByteArray) : Nat := (l.map (·.size)).sum
theorem sz_nil : sz [] = 0 := rfl
theorem sz_cons (r : ByteArray) (l : List ByteArray) : sz (r :: l) = r.size + sz l := by simp [sz]
theorem sz_append (a b : List ByteArray) : sz (a ++ b) = sz a + sz b := by simp [sz]
theorem cat_length : ∀ l : List ByteArray, (cat l).length = sz l
  | [] => rfl
  | r :: l => by
    have := cat_length l
    show (r.data.toList ++ cat l).length = _
    rw [List.length_append, this, sz_cons, Lib.size_eq]
theorem sz_mem {l : List ByteArray} {r : ByteArray} (h : r ∈ l) : r.size ≤ sz l := by
  induction l with
  | nil => cases h
  | cons x xs ih =>
    rw [sz_cons]
    rcases List.mem_cons.1 h with rfl | h
    · omega
    · have := ih h; omega
theorem sz_take_get (l : List ByteArray) (n : Nat) (h : n < l.length) : sz (l.take n) + (l.getD n e0).size ≤ sz l := by
  have h1 : sz l = sz (l.take n) + sz (l.drop n) := by rw [← sz_append, List.take_append_drop]
  have h2 : (l.getD n e0).size ≤ sz (l.drop n) := by
    rw [List.getD_eq_getElem?_getD, List.getElem?_eq_getElem h]
    exact sz_mem (by rw [List.drop_eq_getElem_cons h]; exact List.mem_cons_self ..)
  omega
theorem sz_take (l : List ByteArray) (n : Nat) : sz (l.take n) ≤ sz l := by
  have h1 : sz l = sz (l.take n) + sz (l.drop n) := by rw [← sz_append, List.take_append_drop]
  omega
def flLoad (f : Fl) : Nat := 1 + f.name.size + f.recs.length + sz f.recs + f.torn.size
def fsLoad (fs : List Fl) : Nat := (fs.map flLoad).sum
def load (d : D) : Nat := fsLoad d.files
theorem fsLoad_cons (f : Fl) (fs : List Fl) : fsLoad (f :: fs) = flLoad f + fsLoad fs := by simp [fsLoad]
theorem fsLoad_mem {fs : List Fl} {f : Fl} (h : f ∈ fs) : flLoad f ≤ fsLoad fs := by
  induction fs with
  | nil => cases h
  | cons x xs ih =>
    rw [fsLoad_cons]
    rcases List.mem_cons.1 h with rfl | h
    · omega
    · have := ih h; omega
theorem fsLoad_len (fs : List Fl) : fs.length ≤ fsLoad fs := by
  induction fs with
  | nil => exact Nat.le_refl _
  | cons x xs ih =>
    rw [fsLoad_cons, List.length_cons]
    have : 1 ≤ flLoad x := by unfold flLoad; omega
    omega
def foundLoad (o : Option Fl) : Nat := match o with
  | some g => flLoad g
  | none => 0
theorem find_rises_none {fs : List Fl} {n : ByteArray} (h : ∀ g ∈ fs, lt n g.name) : find fs n = none := by
  cases hf : find fs n with
  | none => rfl
  | some g =>
    have h1 := h g (find_mem hf)
    rw [find_name hf] at h1
    exact absurd h1 (lt_irrefl _)
theorem fsLoad_put {fs : List Fl} (h : Rises fs) (f : Fl) : fsLoad (put fs f) + foundLoad (find fs f.name) = fsLoad fs + flLoad f := by
  induction fs with
  | nil => simp [put, find, foundLoad, fsLoad]
  | cons x xs ih =>
    obtain ⟨h1, h2⟩ := h
    have ih := ih h2
    unfold put
    rw [find_cons]
    by_cases he : x.name = f.name
    · rw [if_pos he, if_pos he, fsLoad_cons, fsLoad_cons]
      show _ + flLoad x = _
      omega
    · rw [if_neg he, if_neg he]
      split
      · rename_i hl
        rw [find_rises_none (fun g hg => lt_trans hl (h1 g hg)), fsLoad_cons]
        show _ + 0 = _
        omega
      · rw [fsLoad_cons, fsLoad_cons]; omega
theorem fsLoad_drop (fs : List Fl) (n : ByteArray) : fsLoad (drop fs n) + foundLoad (find fs n) ≤ fsLoad fs := by
  induction fs with
  | nil => simp [drop, find, foundLoad, fsLoad]
  | cons x xs ih =>
    unfold drop at ih ⊢
    rw [List.filter_cons, find_cons, fsLoad_cons]
    by_cases he : x.name = n
    · rw [if_pos he, if_neg (by simpa using he)]
      show _ + flLoad x ≤ _
      have : fsLoad (xs.filter fun f => decide (f.name ≠ n)) ≤ fsLoad xs := by omega
      omega
    · rw [if_neg he, if_pos (by simpa using he), fsLoad_cons]; omega
theorem load_append {d : D} (h : Inv d) (n r : ByteArray) : load (append d n r).2 ≤ load d + 2 + n.size + r.size := by
  unfold append
  repeat' split
  all_goals first
    | (show fsLoad d.files ≤ fsLoad d.files + 2 + n.size + r.size; omega)
    | (show fsLoad (goes d).2.files ≤ _; rw [goes_files]; show _ ≤ fsLoad d.files + 2 + n.size + r.size; omega)
    | skip
  · rename_i f hf
    show fsLoad (put d.files { f with recs := f.recs ++ [r] }) ≤ fsLoad d.files + 2 + n.size + r.size
    have h1 := fsLoad_put h.rises { f with recs := f.recs ++ [r] }
    have h2 : find d.files f.name = some f := by rw [find_name hf]; exact hf
    rw [show ({ f with recs := f.recs ++ [r] } : Fl).name = f.name from rfl, h2] at h1
    have h3 : foundLoad (some f) = 1 + f.name.size + f.recs.length + sz f.recs + f.torn.size := rfl
    have h4 : flLoad { f with recs := f.recs ++ [r] } = 1 + f.name.size + (f.recs ++ [r]).length + sz (f.recs ++ [r]) + f.torn.size := rfl
    rw [List.length_append, sz_append, sz_cons, sz_nil, List.length_singleton] at h4
    omega
  · rename_i hf
    show fsLoad (put d.files ⟨n, [r], 0, false, e0⟩) ≤ fsLoad d.files + 2 + n.size + r.size
    have h1 := fsLoad_put h.rises ⟨n, [r], 0, false, e0⟩
    have h4 : flLoad ⟨n, [r], 0, false, e0⟩ = 1 + n.size + 1 + (r.size + 0) + 0 := rfl
    omega
theorem load_sync {d : D} (h : Inv d) (n : ByteArray) : load (sync d n).2 ≤ load d := by
  unfold sync
  repeat' split
  all_goals first
    | exact Nat.le_refl _
    | (show fsLoad (goes d).2.files ≤ _; rw [goes_files]; exact Nat.le_refl _)
    | skip
  rename_i f hf _
  show fsLoad (put d.files { f with syn := f.recs.length }) ≤ fsLoad d.files
  have h1 := fsLoad_put h.rises { f with syn := f.recs.length }
  have h2 : find d.files f.name = some f := by rw [find_name hf]; exact hf
  rw [show ({ f with syn := f.recs.length } : Fl).name = f.name from rfl, h2] at h1
  have h3 : foundLoad (some f) = flLoad { f with syn := f.recs.length } := rfl
  omega
theorem load_rename {d : D} (h : Inv d) (a b : ByteArray) : load (rename d a b).2 ≤ load d + b.size := by
  unfold rename
  repeat' split
  all_goals first
    | exact Nat.le_add_right _ _
    | (show fsLoad (goes d).2.files ≤ _; rw [goes_files]; exact Nat.le_add_right _ _)
    | skip
  rename_i f hf _
  show fsLoad (put (drop d.files a) { f with name := b }) ≤ fsLoad d.files + b.size
  have h1 := fsLoad_put (rises_drop h.rises a) { f with name := b }
  have h2 := fsLoad_drop d.files a
  rw [hf] at h2
  have h3 : foundLoad (some f) = 1 + f.name.size + f.recs.length + sz f.recs + f.torn.size := rfl
  have h4 : flLoad { f with name := b } = 1 + b.size + f.recs.length + sz f.recs + f.torn.size := rfl
  omega
theorem load_delete (d : D) (n : ByteArray) : load (delete d n).2 ≤ load d := by
  unfold delete
  repeat' split
  all_goals first
    | exact Nat.le_refl _
    | (show fsLoad (goes d).2.files ≤ _; rw [goes_files]; exact Nat.le_refl _)
    | skip
  show fsLoad (drop d.files n) ≤ fsLoad d.files
  have := fsLoad_drop d.files n
  omega
theorem load_leave {f : Fl} (h : Okf f) (keep torn : List Int) (k : Nat) : flLoad (leave f keep torn k) ≤ flLoad f := by
  have hl := leave_len f keep torn k
  have hk := kept_le f keep k
  unfold flLoad
  rw [hl]
  show 1 + f.name.size + kept f keep k + sz (f.recs.take (kept f keep k)) + (if kept f keep k < f.recs.length ∧ k < torn.length then (f.recs.getD (kept f keep k) e0).extract 0 (torn.getD k 0 % ((f.recs.getD (kept f keep k) e0).size : Int)).toNat else f.torn).size ≤ _
  split
  · rename_i hh
    have h1 := sz_take_get f.recs _ hh.1
    have h2 : ((f.recs.getD (kept f keep k) e0).extract 0 (torn.getD k 0 % ((f.recs.getD (kept f keep k) e0).size : Int)).toNat).size ≤ (f.recs.getD (kept f keep k) e0).size := by
      rw [ByteArray.size_extract]; omega
    omega
  · have h1 := sz_take f.recs (kept f keep k)
    omega
def actLoad (x : Act) : Nat := 2 + x.a.size + x.b.size
def actsLoad (l : List Act) : Nat := (l.map actLoad).sum
end Dk
end Go.Proofs.YtjhbpcecdhdnoaaGreatDoor
