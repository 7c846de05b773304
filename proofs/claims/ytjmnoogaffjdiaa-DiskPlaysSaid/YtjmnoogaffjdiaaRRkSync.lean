/-
  The document's disk: Sync walked: a store into the row of files.
-/
import Derived.Test.YtjmnoogaffjdiaaRRkApp
import Derived.Test.YtjmnoogaffjdiaaRDmCrash
set_option linter.unusedSimpArgs false
set_option linter.unusedVariables false
namespace Go.Proofs.Ytjmnoogaffjdiaa
open Go.RowKit
def syncF (x : Fx) : Fx := ⟨{ x.f with syn := x.f.recs.length }, x.ra, x.rc⟩
theorem fc_set : ∀ (xs : List Fx) (k : Nat) (hk : k < xs.length), (fc xs).set (k * 5 + 2) (.int .i64 (xs[k].f.recs.length : Int)) = fc (xs.set k (syncF xs[k]))
  | x :: xs, 0, _ => rfl
  | x :: xs, k + 1, hk => by
    have hk' : k < xs.length := by simpa using hk
    have ih := fc_set xs k hk'
    show (fc1 x ++ fc xs).set ((k + 1) * 5 + 2) _ = fc1 x ++ fc (xs.set k (syncF xs[k]))
    rw [← ih, List.set_append_right _ _ (by rw [fc1_length]; omega), fc1_length]
    congr 2; omega
theorem sync_files {xs : List Fx} (hr : Dk.Rises (fls xs)) (k : Nat) (hk : k < xs.length) : fls (xs.set k (syncF xs[k])) = Dk.put (fls xs) (syncF xs[k]).f := by
  have e1 : fls xs = fls (xs.take k) ++ xs[k].f :: fls (xs.drop (k + 1)) := by
    unfold fls
    conv => lhs; rw [← List.take_append_drop k xs, List.drop_eq_getElem_cons hk]
    rw [List.map_append, List.map_cons]
  have e2 : fls (xs.set k (syncF xs[k])) = fls (xs.take k) ++ (syncF xs[k]).f :: fls (xs.drop (k + 1)) := by
    rw [List.set_eq_take_append_cons_drop, if_pos hk]
    simp [fls]
  rw [e2, e1]
  rw [e1] at hr
  exact (Dk.put_mid (fls (xs.take k)) xs[k].f (syncF xs[k]).f (fls (xs.drop (k + 1))) hr rfl).symm
/-- p's block, or that of the row of files. -/
def pA (p : Nat) (A : Option Addr) (q : Nat) : Prop := q = p ∨ ∃ o, A = some ⟨q, o, none⟩
theorem ri_sync {W : World} {p : Nat} {xs : List Fx} {g cap : Nat} {off : Bool} {left : Nat} (h : RI W p xs (some ⟨g, 0, none⟩) cap off left) (k : Nat) (hk : k < xs.length) :
    RI (W.setCell ⟨g, k * 5 + 2, none⟩ (.int .i64 (xs[k].f.recs.length : Int))) p (xs.set k (syncF xs[k])) (some ⟨g, 0, none⟩) cap off left ∧ Ko (pA p (some ⟨g, 0, none⟩)) W (W.setCell ⟨g, k * 5 + 2, none⟩ (.int .i64 (xs[k].f.recs.length : Int))) := by
  have hpg := h.pv g 0 rfl
  have hkg : Ko (fun q => q = g) W (W.setCell ⟨g, k * 5 + 2, none⟩ (.int .i64 (xs[k].f.recs.length : Int))) := ⟨rfl, rfl, rfl, by simp, fun q _ hn => Below.heap_setCell _ _ _ _ hn⟩
  have hmem : ∀ y ∈ xs.set k (syncF xs[k]), ∃ x ∈ xs, y.f.recs = x.f.recs ∧ y.ra = x.ra ∧ y.rc = x.rc := fun y hy => by
    rcases List.mem_or_eq_of_mem_set hy with hy | rfl
    · exact ⟨y, hy, rfl, rfl, rfl⟩
    · exact ⟨xs[k], List.getElem_mem hk, rfl, rfl, rfl⟩
  refine ⟨⟨?_, ?_, fun y hy => ?_, fun y hy => ?_, fun y hy => ?_, h.pv, fun y hy => ?_⟩, hkg.mono fun q _ hq => .inr ⟨0, by rw [show q = g from hq]⟩⟩
  · rw [List.length_set]
    exact (Below.heap_setCell _ _ _ _ (fun e => hpg e.symm)).trans h.row
  · refine ⟨by rw [fc_length], ?_⟩
    rcases h.own.2 with ⟨hv, _⟩ | ⟨g2, cap2, cur, hv, h1, h2, h3, h4, h5, h6⟩
    · cases hv
    · injection hv with a b c
      injection a with a
      injection a with a
      subst a c
      refine .inr ⟨g, cap, _, by rw [List.length_set], Nat.zero_le _, heap_setCell_same W g (k * 5 + 2) cur _ _ h2, by rw [List.length_set]; exact h3, h4, by rw [Array.size_setIfInBounds]; exact h5, ?_⟩
      rw [List.length_set, ← fc_set xs k hk, ← h6, Array.toList_setIfInBounds, List.take_set]
  · obtain ⟨x, hx, e1, e2, _⟩ := hmem y hy
    rw [e1, e2]
    exact (h.lies x hx).ko (fun b o hv he hs => h.av x hx g 0 rfl b o (fun hh => hv (by rw [hh]; rfl)) he hs) hkg
  · obtain ⟨x, hx, e1, e2, _⟩ := hmem y hy
    intro b o hr he
    exact h.ap x hx b o (by rw [← e1]; exact hr) (by rw [← e2]; exact he)
  · obtain ⟨x, hx, e1, e2, _⟩ := hmem y hy
    intro b0 o0 hA b o hr he
    exact h.av x hx b0 o0 hA b o (by rw [← e1]; exact hr) (by rw [← e2]; exact he)
  · obtain ⟨x, hx, e1, _, e3⟩ := hmem y hy
    rw [e1, e3]; exact h.room x hx
/-- What Sync answers, and how it stands then. -/
def RetSync (p : Nat) (xs : List Fx) (A : Option Addr) (cap : Nat) (W : World) (R : Dk.E × Dk.D) (e : Ending) (w' : World) : Prop :=
  e = .returned (.int .i64 (eno R.1)) ∧ ∃ ys, RI w' p ys A cap R.2.off R.2.left ∧ fls ys = R.2.files ∧ Ko (pA p A) W w' ∧ ∀ y ∈ ys, ∃ x ∈ xs, y.f.recs = x.f.recs ∧ y.ra = x.ra
set_option maxRecDepth 100000 in
set_option maxHeartbeats 4000000 in
theorem rSync_any (W : World) (p : Nat) (xs : List Fx) (A : Option Addr) (cap : Nat) (d : Dk.D) (h : RD W p xs A cap d) (n : ByteArray) :
    Calls Try.prog 33 #[.pointer (some ⟨p, 0, none⟩), .string n] W (RetSync p xs A cap W (Dk.sync d n)) := by
  have c1 : W.cell? ⟨p, 1, none⟩ = some (.bool d.off) := cell_of_row W p 1 _ _ _ h.ri.row
  have hl := h.len
  have HF := Lib.hid (find_any W p xs A cap d.off d.left h.ri n hl)
  have hris := h.inv.rises
  have HFl := Lib.hid (fun x hx => h.fl (x := x) hx)
  obtain ⟨R, hR⟩ : ∃ R, R = Dk.sync d n := ⟨_, rfl⟩
  rw [← hR]
  obtain ⟨fs, off, left⟩ := d
  have hfs : fls xs = fs := h.files
  subst hfs
  have HRi := Lib.hid h.ri
  cases off
  case true =>
    have HR : Hid (R = (.down, ⟨fls xs, true, left⟩)) := Lib.hid (by rw [hR]; rfl)
    clear h hR hris
    go_enter Try.func33, Try.ntmps33
    go_wp2_with fail
    go_ret
    rw [HR.out]
    exact ⟨rfl, xs, HRi.out, rfl, Ko.refl _ _, fun y hy => ⟨y, hy, rfl, rfl⟩⟩
  rcases fi_cases xs n with ⟨hf1, hf2⟩ | ⟨k, hk, hf1, hf2, _⟩
  · have HR : Hid (R = (.none, ⟨fls xs, false, left⟩)) := Lib.hid (by rw [hR]; simp [Dk.sync, hf2])
    rw [hf1] at HF
    clear h hR hf1 hf2 hris
    go_enter Try.func33, Try.ntmps33
    go_wp2_with fail
    refine (HF.out).mono ?_
    rintro e w1 ⟨rfl, rfl⟩
    go_wp2_with fail
    go_ret
    rw [HR.out]
    exact ⟨rfl, xs, HRi.out, rfl, Ko.refl _ _, fun y hy => ⟨y, hy, rfl, rfl⟩⟩
  · rw [hf1] at HF
    have q1 : decide ((k : Int) < 0) = false := by simp
    have HGo := Lib.hid (goes_any W p xs A cap left h.ri h.left)
    by_cases h1 : left = 1
    · have HR : Hid (R = (.down, ⟨fls xs, true, 0⟩)) := Lib.hid (by rw [hR]; subst h1; simp [Dk.sync, hf2, Dk.goes])
      rw [decide_eq_false (by simpa using h1), decide_eq_true h1] at HGo
      clear h hR hf1 hf2 hris
      go_enter Try.func33, Try.ntmps33
      go_wp2_with fail
      refine (HF.out).mono ?_
      rintro e w1 ⟨rfl, rfl⟩
      go_wp2_with fail
      refine (HGo.out).mono ?_
      rintro e w2 ⟨rfl, r1, r2⟩
      go_wp2_with fail
      go_ret
      rw [HR.out]
      exact ⟨rfl, xs, by subst h1; exact r1, rfl, r2.mono fun q _ hq => .inl hq, fun y hy => ⟨y, hy, rfl, rfl⟩⟩
    · have HR : Hid (R = (.ok, ⟨Dk.put (fls xs) (syncF xs[k]).f, false, left - 1⟩)) := Lib.hid (by rw [hR]; simp [Dk.sync, hf2, Dk.goes, h1, syncF])
      have HSf := Lib.hid (sync_files hris k hk)
      rw [decide_eq_true (by simpa using h1), decide_eq_false h1] at HGo
      clear h hR hf1 hf2 hris
      go_enter Try.func33, Try.ntmps33
      go_wp2_with fail
      refine (HF.out).mono ?_
      rintro e w1 ⟨rfl, rfl⟩
      go_wp2_with fail
      refine (HGo.out).mono ?_
      rintro e w2 ⟨rfl, r1, r2⟩
      obtain ⟨g, hA, hg, hr⟩ := r1.cellsAt k hk
      subst hA
      have hs := ri_sync r1 k hk
      have k0 : w2.cell? ⟨p, 0, none⟩ = some (.slice (some ⟨g, 0, none⟩) xs.length cap) := cell_of_row w2 p 0 _ _ _ r1.row
      have k1 : w2.cell? ⟨g, k * 5 + 1, none⟩ = some (.slice xs[k].ra xs[k].f.recs.length xs[k].rc) := hr 1 _ rfl
      have k2 : w2.cell? ⟨g, k * 5 + 2, none⟩ = some (.int .i64 (xs[k].f.syn : Int)) := hr 2 _ rfl
      have f2 : w2.frozen? ⟨g, k * 5 + 2, none⟩ = false := by
        rcases r1.blk with ⟨_, h2, _⟩ | ⟨g2, cur, h2, _, h3, _⟩
        · cases h2
        · cases h2
          exact frozen_of_row w2 g (k * 5 + 2) _ _ h3
      obtain ⟨z, hz⟩ : ∃ z, z = xs[k].f.recs.length := ⟨_, rfl⟩
      obtain ⟨ra, hra⟩ : ∃ z, z = xs[k].ra := ⟨_, rfl⟩
      obtain ⟨rc, hrc⟩ : ∃ z, z = xs[k].rc := ⟨_, rfl⟩
      obtain ⟨sy, hsy⟩ : ∃ z, z = xs[k].f.syn := ⟨_, rfl⟩
      rw [← hz, ← hra, ← hrc] at k1
      rw [← hsy] at k2
      rw [← hz] at hs
      have p1 : (0 : Int) ≤ (k : Int) := by omega
      have p2 : (k : Int) < (xs.length : Int) := by omega
      have HE : Hid (RI (w2.setCell ⟨g, k * 5 + 2, none⟩ (.int .i64 (z : Int))) p (xs.set k (syncF xs[k])) (some ⟨g, 0, none⟩) cap false (left - 1) ∧ Ko (pA p (some ⟨g, 0, none⟩)) W (w2.setCell ⟨g, k * 5 + 2, none⟩ (.int .i64 (z : Int)))) := Lib.hid ⟨hs.1, (r2.mono (T := pA p (some ⟨g, 0, none⟩)) fun q _ hq => .inl hq).trans hs.2 fun _ hq => .inl hq⟩
      have HK := Lib.hid hk
      clear r1 r2 hr hs hz hra hrc hsy
      go_wp2_with fail
      go_region
      all_goals go_wp2_with fail
      all_goals go_ret
      all_goals
        rw [HR.out]
        refine ⟨rfl, xs.set k (syncF xs[k]), HE.out.1.below (below_drew (Below.refl _ _)), HSf.out, HE.out.2.drew, fun y hy => ?_⟩
        rcases List.mem_or_eq_of_mem_set hy with hy | rfl
        · exact ⟨y, hy, rfl, rfl⟩
        · exact ⟨xs[k], List.getElem_mem HK.out, rfl, rfl⟩
end Go.Proofs.Ytjmnoogaffjdiaa
