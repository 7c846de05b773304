/-
  The document's disk: Read and Delete walked.
-/
import Derived.Test.YtjmnoogaffjdiaaRRkPut
set_option linter.unusedSimpArgs false
set_option linter.unusedVariables false
namespace Go.Proofs.Ytjmnoogaffjdiaa
open Go.RowKit
/-- Found, or not. -/
theorem fi_cases (xs : List Fx) (n : ByteArray) : (fi xs n = -1 ∧ Dk.find (fls xs) n = none) ∨ ∃ (k : Nat) (hk : k < xs.length), fi xs n = (k : Int) ∧ Dk.find (fls xs) n = some xs[k].f ∧ xs[k].f.name = n := by
  unfold fi
  cases h : Dk.idx (fls xs) n with
  | none => exact .inl ⟨rfl, Dk.idx_none h⟩
  | some k =>
    have hk := Dk.idx_lt h
    have hf := Dk.idx_some h
    rw [fls_length] at hk
    rw [fls_at xs k hk] at hf
    exact .inr ⟨k, hk, rfl, hf, Dk.find_name hf⟩
theorem goes_eq {d : Dk.D} (h : d.off = false) : Dk.goes d = (decide (d.left ≠ 1), { d with off := decide (d.left = 1), left := d.left - 1 }) := by
  unfold Dk.goes
  by_cases h1 : d.left = 1
  · rw [if_pos h1]; simp [h1]
  · rw [if_neg h1]
    cases d; simp_all
/-- The document's disk as it stands for d. -/
structure RD (W : World) (p : Nat) (xs : List Fx) (A : Option Addr) (cap : Nat) (d : Dk.D) : Prop where
  ri : RI W p xs A cap d.off d.left
  files : fls xs = d.files
  inv : Dk.Inv d
  load : Dk.load d ≤ 100000000
  left : d.left ≤ 9223372036854775807
/-- What an operation of the document's disk answers, and how it stands then. -/
def RetOp (p : Nat) (xs : List Fx) (A : Option Addr) (W : World) (R : Dk.E × Dk.D) (e : Ending) (w' : World) : Prop :=
  e = .returned (.int .i64 (eno R.1)) ∧ ∃ ys A' cap', RI w' p ys A' cap' R.2.off R.2.left ∧ fls ys = R.2.files ∧ Ko (atP p) W w' ∧ (∀ b o, A' = some ⟨b, o, none⟩ → A = some ⟨b, o, none⟩ ∨ W.heap.size ≤ b) ∧ ∀ y ∈ ys, (∃ x ∈ xs, y.f.recs = x.f.recs ∧ y.ra = x.ra) ∨ ∀ b o, y.f.recs ≠ [] → y.ra = some ⟨b, o, none⟩ → W.heap.size ≤ b
theorem RD.len {W : World} {p : Nat} {xs : List Fx} {A : Option Addr} {cap : Nat} {d : Dk.D} (h : RD W p xs A cap d) : xs.length ≤ 100000000 := by
  have h1 := Dk.fsLoad_len d.files
  have h2 := h.load
  have h3 : (fls xs).length = xs.length := fls_length xs
  rw [h.files] at h3
  have : Dk.load d = Dk.fsLoad d.files := rfl
  omega
theorem RD.fl {W : World} {p : Nat} {xs : List Fx} {A : Option Addr} {cap : Nat} {d : Dk.D} (h : RD W p xs A cap d) {x : Fx} (hx : x ∈ xs) : Dk.Okf x.f ∧ Dk.flLoad x.f ≤ 100000000 := by
  have hm : x.f ∈ d.files := by rw [← h.files]; exact List.mem_map.2 ⟨x, hx, rfl⟩
  exact ⟨h.inv.ok _ hm, Nat.le_trans (Dk.fsLoad_mem hm) h.load⟩
set_option maxRecDepth 100000 in
set_option maxHeartbeats 4000000 in
theorem rRead_any (W : World) (p : Nat) (xs : List Fx) (A : Option Addr) (cap : Nat) (d : Dk.D) (h : RD W p xs A cap d) (n : ByteArray) :
    Calls Try.prog 36 #[.pointer (some ⟨p, 0, none⟩), .string n] W fun e w' => e = .returned (.tuple #[.string ⟨(Dk.read d n).1.toArray⟩, .int .i64 (eno (Dk.read d n).2)]) ∧ Below W.heap.size W w' := by
  have c0 : W.cell? ⟨p, 0, none⟩ = some (.slice A xs.length cap) := cell_of_row W p 0 _ _ _ h.ri.row
  have c1 : W.cell? ⟨p, 1, none⟩ = some (.bool d.off) := cell_of_row W p 1 _ _ _ h.ri.row
  have hl := h.len
  have HF := Lib.hid (find_any W p xs A cap d.off d.left h.ri n hl)
  obtain ⟨R, hR⟩ : ∃ R, R = Dk.read d n := ⟨_, rfl⟩
  rw [← hR]
  have hR2 : R = if d.off then ([], .down) else match Dk.find (fls xs) n with | none => ([], .none) | some f => (Dk.bytes f, .ok) := by rw [hR, h.files]; rfl
  obtain ⟨off, hoff⟩ : ∃ b, b = d.off := ⟨_, rfl⟩
  rw [← hoff] at c1 hR2
  cases off
  case true =>
    have HR : Hid (R = ([], .down)) := Lib.hid (by rw [hR2]; rfl)
    clear h hR hR2 hoff
    go_enter Try.func36, Try.ntmps36
    go_wp2_with fail
    go_ret2
    exact ⟨by rw [HR.out]; rfl, Below.refl _ _⟩
  rcases fi_cases xs n with ⟨hf1, hf2⟩ | ⟨k, hk, hf1, hf2, _⟩
  · have HR : Hid (R = ([], .none)) := Lib.hid (by rw [hR2, hf2]; rfl)
    rw [hf1] at HF
    clear h hR hR2 hoff hf1 hf2
    go_enter Try.func36, Try.ntmps36
    go_wp2_with fail
    refine (HF.out).mono ?_
    rintro e w1 ⟨rfl, rfl⟩
    go_wp2_with fail
    go_ret2
    exact ⟨by rw [HR.out]; rfl, Below.refl _ _⟩
  · have HR : Hid (R = (Dk.bytes xs[k].f, .ok)) := Lib.hid (by rw [hR2, hf2]; rfl)
    rw [hf1] at HF
    have hmem : xs[k] ∈ xs := List.getElem_mem hk
    have HBy := Lib.hid (bytes_any W xs[k] (h.ri.lies _ hmem) (h.fl hmem).2)
    obtain ⟨g, hA, hg, hr⟩ := h.ri.cellsAt k hk
    have HRg := Lib.hid hr
    have HZ := Lib.hid (sizeFl xs[k])
    obtain ⟨X, hX⟩ : ∃ X, X = flC xs[k] := ⟨_, rfl⟩
    obtain ⟨t, ht⟩ : ∃ t : ByteArray, t = ⟨(Dk.bytes xs[k].f).toArray⟩ := ⟨_, rfl⟩
    rw [← hX, ← ht] at HBy
    rw [← hX] at HRg HZ
    have HT := Lib.hid ht
    subst hA
    have q1 : decide ((k : Int) < 0) = false := by simp
    clear h hR hR2 hoff hf1 hf2 hr hX ht hmem
    go_enter Try.func36, Try.ntmps36
    go_wp2_with fail
    refine (HF.out).mono ?_
    rintro e w1 ⟨rfl, rfl⟩
    go_wp2_with (refine wpList_load_rng rfl 65 _ rfl g (k * 5) rfl X _ HRg.out Try.underlying65 rfl HZ.out ?_)
    refine (HBy.out).mono ?_
    rintro e w2 ⟨rfl, hb⟩
    go_wp2_with fail
    go_ret2
    exact ⟨by rw [HR.out, HT.out]; rfl, hb⟩
set_option maxRecDepth 100000 in
set_option maxHeartbeats 4000000 in
theorem rDelete_any (W : World) (p : Nat) (xs : List Fx) (A : Option Addr) (cap : Nat) (d : Dk.D) (h : RD W p xs A cap d) (n : ByteArray) :
    Calls Try.prog 35 #[.pointer (some ⟨p, 0, none⟩), .string n] W (RetOp p xs A W (Dk.delete d n)) := by
  have c1 : W.cell? ⟨p, 1, none⟩ = some (.bool d.off) := cell_of_row W p 1 _ _ _ h.ri.row
  have hl := h.len
  have HF := Lib.hid (find_any W p xs A cap d.off d.left h.ri n hl)
  obtain ⟨R, hR⟩ : ∃ R, R = Dk.delete d n := ⟨_, rfl⟩
  rw [← hR]
  obtain ⟨fs, off, left⟩ := d
  have hfs : fls xs = fs := h.files
  subst hfs
  have HRi := Lib.hid h.ri
  cases off
  case true =>
    have HR : Hid (R = (.down, ⟨fls xs, true, left⟩)) := Lib.hid (by rw [hR]; rfl)
    clear h hR
    go_enter Try.func35, Try.ntmps35
    go_wp2_with fail
    go_ret
    rw [HR.out]
    exact ⟨rfl, xs, A, cap, HRi.out, rfl, Ko.refl _ _, fun _ _ he => .inl he, fun y hy => .inl ⟨y, hy, rfl, rfl⟩⟩
  rcases fi_cases xs n with ⟨hf1, hf2⟩ | ⟨k, hk, hf1, hf2, _⟩
  · have HR : Hid (R = (.none, ⟨fls xs, false, left⟩)) := Lib.hid (by rw [hR]; simp [Dk.delete, hf2])
    rw [hf1] at HF
    clear h hR hf1 hf2
    go_enter Try.func35, Try.ntmps35
    go_wp2_with fail
    refine (HF.out).mono ?_
    rintro e w1 ⟨rfl, rfl⟩
    go_wp2_with fail
    go_ret
    rw [HR.out]
    exact ⟨rfl, xs, A, cap, HRi.out, rfl, Ko.refl _ _, fun _ _ he => .inl he, fun y hy => .inl ⟨y, hy, rfl, rfl⟩⟩
  · rw [hf1] at HF
    have q1 : decide ((k : Int) < 0) = false := by simp
    have HGo := Lib.hid (goes_any W p xs A cap left h.ri h.left)
    by_cases h1 : left = 1
    · have HR : Hid (R = (.down, ⟨fls xs, true, 0⟩)) := Lib.hid (by rw [hR]; subst h1; simp [Dk.delete, hf2, Dk.goes])
      rw [decide_eq_false (by simpa using h1), decide_eq_true h1] at HGo
      clear h hR hf1 hf2
      go_enter Try.func35, Try.ntmps35
      go_wp2_with fail
      refine (HF.out).mono ?_
      rintro e w1 ⟨rfl, rfl⟩
      go_wp2_with fail
      refine (HGo.out).mono ?_
      rintro e w2 ⟨rfl, r1, r2⟩
      go_wp2_with fail
      go_ret
      rw [HR.out]
      exact ⟨rfl, xs, A, cap, by subst h1; exact r1, rfl, r2, fun _ _ he => .inl he, fun y hy => .inl ⟨y, hy, rfl, rfl⟩⟩
    · have HR : Hid (R = (.ok, ⟨Dk.drop (fls xs) n, false, left - 1⟩)) := Lib.hid (by rw [hR]; simp [Dk.delete, hf2, Dk.goes, h1])
      rw [decide_eq_true (by simpa using h1), decide_eq_false h1] at HGo
      clear h hR hf1 hf2
      go_enter Try.func35, Try.ntmps35
      go_wp2_with fail
      refine (HF.out).mono ?_
      rintro e w1 ⟨rfl, rfl⟩
      go_wp2_with fail
      refine (HGo.out).mono ?_
      rintro e w2 ⟨rfl, r1, r2⟩
      have HD := Lib.hid (drop_any w2 p xs A cap false (left - 1) r1 n hl)
      have HK2 := Lib.hid r2
      clear r1 r2
      go_wp2_with fail
      refine (HD.out).mono ?_
      rintro e w3 ⟨rfl, A', cap', r3, r4, r5⟩
      have H3 := Lib.hid (And.intro r3 (And.intro (HK2.out.trans r4 (fun _ hk => .inl hk)) (fun b o he => Nat.le_trans HK2.out.size (r5 b o he))))
      clear r3 r4 r5
      go_wp2_with fail
      go_ret
      rw [HR.out]
      exact ⟨rfl, dropX xs n, A', cap', H3.out.1, dropX_fls xs n, H3.out.2.1, fun b o he => .inr (H3.out.2.2 b o he), fun y hy => .inl ⟨y, (List.mem_filter.1 hy).1, rfl, rfl⟩⟩
end Go.Proofs.Ytjmnoogaffjdiaa
