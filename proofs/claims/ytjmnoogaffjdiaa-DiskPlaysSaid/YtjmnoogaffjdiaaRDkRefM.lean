/-
  The plain mathematics of the document's disk: how it puts a file in, finds one, lets one stand anew. No program is named here.
-/
import Derived.Test.YtjmnoogaffjdiaaRDkM
set_option linter.unusedSimpArgs false
set_option linter.unusedVariables false
namespace Go.Proofs.Ytjmnoogaffjdiaa
namespace Dk
/-- A file is put in: one of its name is passed by. -/
def rput (f : Fl) : List Fl → Bool → List Fl
  | [], done => if done then [] else [f]
  | g :: gs, done => if g.name = f.name then rput f gs done else if done = false ∧ lt f.name g.name then f :: g :: rput f gs true else g :: rput f gs done
theorem rput_true {f : Fl} : ∀ {gs : List Fl}, (∀ g ∈ gs, g.name ≠ f.name) → rput f gs true = gs
  | [], _ => rfl
  | g :: gs, h => by
    unfold rput
    rw [if_neg (h g (List.mem_cons_self ..)), if_neg (by simp), rput_true fun x hx => h x (List.mem_cons_of_mem _ hx)]
theorem rput_eq {f : Fl} : ∀ {fs : List Fl}, Rises fs → rput f fs false = put fs f
  | [], _ => rfl
  | g :: gs, ⟨h1, h2⟩ => by
    unfold rput put
    by_cases he : g.name = f.name
    · rw [if_pos he, if_pos he]
      match gs, h1 with
      | [], _ => rfl
      | x :: xs, h1 =>
        have hx := h1 x (List.mem_cons_self ..)
        rw [he] at hx
        unfold rput
        rw [if_neg (fun h => lt_irrefl f.name (by rwa [h] at hx)), if_pos ⟨rfl, hx⟩, rput_true]
        intro y hy h
        have := h1 y (List.mem_cons_of_mem _ hy)
        rw [he, h] at this
        exact lt_irrefl _ this
    · rw [if_neg he, if_neg he]
      by_cases hl : lt f.name g.name
      · rw [if_pos ⟨rfl, hl⟩, if_pos hl, rput_true]
        intro y hy h
        have := h1 y hy
        rw [h] at this
        exact lt_irrefl _ (lt_trans hl this)
      · rw [if_neg (fun h => hl h.2), if_neg hl, rput_eq h2]
theorem rput_same {f g : Fl} {gs : List Fl} {d : Bool} (h : g.name = f.name) : rput f (g :: gs) d = rput f gs d := by rw [rput, if_pos h]
theorem rput_here {f g : Fl} {gs : List Fl} (h : g.name ≠ f.name) (hl : lt f.name g.name) : rput f (g :: gs) false = f :: g :: rput f gs true := by rw [rput, if_neg h, if_pos ⟨rfl, hl⟩]
theorem rput_past {f g : Fl} {gs : List Fl} {d : Bool} (h : g.name ≠ f.name) (hl : ¬ (d = false ∧ lt f.name g.name)) : rput f (g :: gs) d = g :: rput f gs d := by rw [rput, if_neg h, if_neg hl]
/-- A name's place. -/
def idx (fs : List Fl) (n : ByteArray) : Option Nat := fs.findIdx? fun f => decide (f.name = n)
theorem idx_cons (f : Fl) (fs : List Fl) (n : ByteArray) : idx (f :: fs) n = if f.name = n then some 0 else (idx fs n).map (· + 1) := by
  unfold idx
  rw [List.findIdx?_cons]
  by_cases h : f.name = n <;> simp [h]
theorem find_idx (fs : List Fl) (n : ByteArray) : find fs n = (idx fs n).bind fun k => fs[k]? := by
  induction fs with
  | nil => rfl
  | cons f fs ih =>
    rw [find_cons, idx_cons, ih]
    by_cases h : f.name = n
    · rw [if_pos h, if_pos h]; rfl
    · rw [if_neg h, if_neg h]
      cases idx fs n <;> rfl
theorem idx_lt {fs : List Fl} {n : ByteArray} {k : Nat} (h : idx fs n = some k) : k < fs.length := by
  unfold idx at h
  have := List.findIdx?_eq_some_iff_getElem.1 h
  exact this.1
theorem idx_none {fs : List Fl} {n : ByteArray} (h : idx fs n = none) : find fs n = none := by rw [find_idx, h]; rfl
theorem idx_some {fs : List Fl} {n : ByteArray} {k : Nat} (h : idx fs n = some k) : find fs n = some (fs[k]'(idx_lt h)) := by
  rw [find_idx, h]
  exact List.getElem?_eq_getElem (idx_lt h)
/-- A loop over the places finds the first. -/
theorem idx_take (fs : List Fl) (n : ByteArray) (k : Nat) (hk : k < fs.length) (h0 : ∀ i, (hi : i < k) → (fs[i]'(by omega)).name ≠ n) (h1 : fs[k].name = n) : idx fs n = some k := by
  unfold idx
  rw [List.findIdx?_eq_some_iff_getElem]
  exact ⟨hk, by simpa using h1, fun j hj => by simpa using h0 j hj⟩
theorem idx_all (fs : List Fl) (n : ByteArray) (h0 : ∀ i, (hi : i < fs.length) → (fs[i]).name ≠ n) : idx fs n = none := by
  unfold idx
  rw [List.findIdx?_eq_none_iff]
  intro x hx
  obtain ⟨i, hi, rfl⟩ := List.mem_iff_getElem.1 hx
  simpa using h0 i hi
/-- A file of the same name let stand anew. -/
theorem set_put {fs : List Fl} (h : Rises fs) {k : Nat} (hk : k < fs.length) {f : Fl} (hn : f.name = fs[k].name) : fs.set k f = put fs f := by
  induction fs generalizing k with
  | nil => simp at hk
  | cons g gs ih =>
    obtain ⟨h1, h2⟩ := h
    match k with
    | 0 =>
      have hn : f.name = g.name := hn
      rw [put, if_pos hn.symm]; rfl
    | k + 1 =>
      have hk2 : k < gs.length := by simpa using hk
      have hn : f.name = gs[k].name := hn
      have hl := h1 _ (List.getElem_mem hk2)
      rw [← hn] at hl
      rw [put, if_neg (fun he => lt_irrefl f.name (by rwa [he] at hl)), if_neg (fun h => lt_irrefl _ (lt_trans h hl)), ← ih h2 hk2 hn]
      rfl
theorem drop_cons (f : Fl) (fs : List Fl) (n : ByteArray) : drop (f :: fs) n = if f.name = n then drop fs n else f :: drop fs n := by
  unfold drop
  rw [List.filter_cons]
  by_cases h : f.name = n <;> simp [h]
/-- How many files ahead of the k-th have records that are not synced. -/
def dirty (fs : List Fl) : Nat := (fs.filter fun f => decide (f.syn < f.recs.length)).length
theorem crashL_yes {keep torn : List Int} {j : Nat} {f : Fl} {fs : List Fl} (h : f.syn < f.recs.length) : crashL keep torn j (f :: fs) = leave f keep torn j :: crashL keep torn (j + 1) fs := by rw [crashL, if_pos h]
theorem crashL_no {keep torn : List Int} {j : Nat} {f : Fl} {fs : List Fl} (h : ¬ f.syn < f.recs.length) : crashL keep torn j (f :: fs) = f :: crashL keep torn j fs := by rw [crashL, if_neg h]
theorem crashL_take (keep torn : List Int) : ∀ (fs : List Fl) (j i : Nat), (crashL keep torn j (fs.take i)) ++ crashL keep torn (j + dirty (fs.take i)) (fs.drop i) = crashL keep torn j fs
  | [], _, _ => by simp [crashL, dirty]
  | f :: fs, j, 0 => by simp [crashL, dirty]
  | f :: fs, j, i + 1 => by
    have h := crashL_take keep torn fs
    rw [List.take_succ_cons, List.drop_succ_cons]
    by_cases hl : f.syn < f.recs.length
    · have hd : dirty (f :: fs.take i) = dirty (fs.take i) + 1 := by simp [dirty, hl]
      rw [crashL_yes hl, crashL_yes hl, hd, ← h (j + 1) i, List.cons_append, show j + (dirty (fs.take i) + 1) = j + 1 + dirty (fs.take i) by omega]
    · have hd : dirty (f :: fs.take i) = dirty (fs.take i) := by simp [dirty, hl]
      rw [crashL_no hl, crashL_no hl, hd, ← h j i, List.cons_append]
theorem crashL_length (keep torn : List Int) : ∀ (j : Nat) (fs : List Fl), (crashL keep torn j fs).length = fs.length
  | _, [] => rfl
  | j, f :: fs => by
    unfold crashL
    split
    · rw [List.length_cons, crashL_length, List.length_cons]
    · rw [List.length_cons, crashL_length, List.length_cons]
end Dk
end Go.Proofs.Ytjmnoogaffjdiaa
