/-
  The document's disk: Rename walked.
-/
import Derived.Test.YtjmnoogaffjdiaaRRkMeth
import Derived.Test.YtjmnoogaffjdiaaRRkCrash
import Derived.Test.YtjmnoogaffjdiaaRRkPut3
set_option linter.unusedSimpArgs false
set_option linter.unusedVariables false
namespace Go.Proofs.Ytjmnoogaffjdiaa
open Go.RowKit
/-- What it stands on is as it was. -/
theorem RI.ko {W W' : World} {p : Nat} {xs : List Fx} {A : Option Addr} {cap : Nat} {off : Bool} {left : Nat} {S : Nat → Prop} (h : RI W p xs A cap off left) (hk : Ko S W W') (hp : ¬ S p) (hA : ∀ b o, A = some ⟨b, o, none⟩ → ¬ S b) (hx : ∀ x ∈ xs, Away S x.ra (sc x.f.recs)) : RI W' p xs A cap off left := by
  refine ⟨hk.row hp h.row, ?_, fun x hm => (h.lies x hm).ko (hx x hm) hk, h.ap, h.av, h.pv, h.room⟩
  refine ⟨h.own.1, ?_⟩
  rcases h.own.2 with h2 | ⟨g, cap', cur, h1, h3, hg, rest⟩
  · exact .inl h2
  · refine .inr ⟨g, cap', cur, h1, h3, hk.row (hA g 0 ?_) hg, rest⟩
    injection h1
set_option maxRecDepth 100000 in
set_option maxHeartbeats 8000000 in
theorem rRename_any (W : World) (p : Nat) (xs : List Fx) (A : Option Addr) (cap : Nat) (d : Dk.D) (h : RD W p xs A cap d) (n m : ByteArray) :
    Calls Try.prog 34 #[.pointer (some ⟨p, 0, none⟩), .string n, .string m] W (RetOp p xs A W (Dk.rename d n m)) := by
  have c1 : W.cell? ⟨p, 1, none⟩ = some (.bool d.off) := cell_of_row W p 1 _ _ _ h.ri.row
  have hl := h.len
  have HF := Lib.hid (find_any W p xs A cap d.off d.left h.ri n hl)
  have HRt := Lib.hid (right_any W m)
  obtain ⟨R, hR⟩ : ∃ R, R = Dk.rename d n m := ⟨_, rfl⟩
  rw [← hR]
  have hris := h.inv.rises
  obtain ⟨fs, off, left⟩ := d
  have hfs : fls xs = fs := h.files
  subst hfs
  have HRi := Lib.hid h.ri
  have HSame : Hid (RetOp p xs A W (R.1, ⟨fls xs, off, left⟩) (.returned (.int .i64 (eno R.1))) W) := Lib.hid ⟨rfl, xs, A, cap, HRi.out, rfl, Ko.refl _ _, fun _ _ he => .inl he, fun y hy => .inl ⟨y, hy, rfl, rfl⟩⟩
  cases off
  case true =>
    have HR : Hid (R = (.down, ⟨fls xs, true, left⟩)) := Lib.hid (by rw [hR]; rfl)
    clear h hR
    go_enter Try.func34, Try.ntmps34
    go_wp2_with fail
    go_ret
    have := HSame.out
    rw [HR.out] at this ⊢
    exact this
  by_cases hok : Dk.okName m
  case neg =>
    have HR : Hid (R = (.arg, ⟨fls xs, false, left⟩)) := Lib.hid (by rw [hR]; simp [Dk.rename, hok])
    rw [decide_eq_false hok] at HRt
    clear h hR hok
    go_enter Try.func34, Try.ntmps34
    go_wp2_with fail
    refine (HRt.out).mono ?_
    rintro e w1 ⟨rfl, rfl⟩
    go_wp2_with fail
    go_ret
    have := HSame.out
    rw [HR.out] at this ⊢
    exact this
  rw [decide_eq_true hok] at HRt
  rcases fi_cases xs n with ⟨hf1, hf2⟩ | ⟨k, hk, hf1, hf2, _⟩
  · have HR : Hid (R = (.none, ⟨fls xs, false, left⟩)) := Lib.hid (by rw [hR]; simp [Dk.rename, hok, hf2])
    rw [hf1] at HF
    clear h hR hf1 hf2 hok
    go_enter Try.func34, Try.ntmps34
    go_wp2_with fail
    refine (HRt.out).mono ?_
    rintro e w1 ⟨rfl, rfl⟩
    go_wp2_with fail
    refine (HF.out).mono ?_
    rintro e w1 ⟨rfl, rfl⟩
    go_wp2_with fail
    go_ret
    have := HSame.out
    rw [HR.out] at this ⊢
    exact this
  · rw [hf1] at HF
    have q1 : decide ((k : Int) < 0) = false := by simp
    have HGo := Lib.hid (goes_any W p xs A cap left h.ri h.left)
    by_cases h1 : left = 1
    · have HR : Hid (R = (.down, ⟨fls xs, true, 0⟩)) := Lib.hid (by rw [hR]; subst h1; simp [Dk.rename, hok, hf2, Dk.goes])
      rw [decide_eq_false (by simpa using h1), decide_eq_true h1] at HGo
      clear h hR hf1 hf2 hok
      go_enter Try.func34, Try.ntmps34
      go_wp2_with fail
      refine (HRt.out).mono ?_
      rintro e w1 ⟨rfl, rfl⟩
      go_wp2_with fail
      refine (HF.out).mono ?_
      rintro e w1 ⟨rfl, rfl⟩
      go_wp2_with fail
      refine (HGo.out).mono ?_
      rintro e w2 ⟨rfl, r1, r2⟩
      go_wp2_with fail
      go_ret
      rw [HR.out]
      exact ⟨rfl, xs, A, cap, by subst h1; exact r1, rfl, r2, fun _ _ he => .inl he, fun y hy => .inl ⟨y, hy, rfl, rfl⟩⟩
    · have hmem : xs[k] ∈ xs := List.getElem_mem hk
      have HR : Hid (R = (.ok, ⟨Dk.put (Dk.drop (fls xs) n) { xs[k].f with name := m }, false, left - 1⟩)) := Lib.hid (by rw [hR]; simp [Dk.rename, hok, hf2, Dk.goes, h1])
      rw [decide_eq_true (by simpa using h1), decide_eq_false h1] at HGo
      have hlx := h.ri.lies _ hmem
      have hrx := h.ri.room _ hmem
      have hax := h.ri.ap _ hmem
      obtain ⟨x, hx⟩ : ∃ x, x = xs[k] := ⟨_, rfl⟩
      have HFile : Hid (∀ y : Fx, y = ⟨{ x.f with name := m }, x.ra, x.rc⟩ → fls (rputX y (dropX xs n) false) = R.2.files) := Lib.hid fun y hy => by
        rw [HR.out, rputX_fls, dropX_fls, Dk.rput_eq (Dk.rises_drop hris n), hy, hx]
      have HX := Lib.hid hx
      rw [← hx] at hlx hrx hax
      have HLx := Lib.hid (And.intro hlx (And.intro hrx hax))
      clear h hR hf1 hf2 hok hlx hrx hax hmem
      go_enter Try.func34, Try.ntmps34
      go_wp2_with fail
      refine (HRt.out).mono ?_
      rintro e w1 ⟨rfl, rfl⟩
      go_wp2_with fail
      refine (HF.out).mono ?_
      rintro e w1 ⟨rfl, rfl⟩
      go_wp2_with fail
      refine (HGo.out).mono ?_
      rintro e w2 ⟨rfl, r1, r2⟩
      have c0 : w2.cell? ⟨p, 0, none⟩ = some (.slice A xs.length cap) := cell_of_row w2 p 0 _ _ _ r1.row
      obtain ⟨g, hA, hg, hr⟩ := r1.cellsAt k hk
      rw [← hx] at hr
      have hst := storeFl x w2
      have HRg := Lib.hid hr
      have HZ := Lib.hid (sizeFl x)
      have HRi2 := Lib.hid r1
      have HK2 := Lib.hid r2
      have HLx2 : Hid (Lies w2 x.ra (sc x.f.recs)) := Lib.hid (by rw [hx]; exact r1.lies _ (List.getElem_mem hk))
      obtain ⟨⟨nm, rs, sy, ct, tn⟩, ra, rc⟩ := x
      unfold flC at hst HRg HZ
      simp only at hst HRg HZ
      subst hA
      clear r1 r2 hr hx
      go_wp2_with (refine wpList_load_rng rfl 65 _ rfl g (k * 5) rfl #[.string nm, .slice ra rs.length rc, .int .i64 (sy : Int), .bool ct, .string tn] _ HRg.out Try.underlying65 rfl HZ.out ?_)
      refine (drop_any _ p xs (some ⟨g, 0, none⟩) cap false (left - 1) (HRi2.out.below (bnew (Below.refl _ _) _)) n hl).mono ?_
      rintro e w3 ⟨rfl, A', cap', r3, r4, r5⟩
      have hgp : w2.heap.size ≠ p := by have := HRi2.out.lt; omega
      have hrow : w3.heap[w2.heap.size]? = some (.cells #[.string nm, .slice ra rs.length rc, .int .i64 (sy : Int), .bool ct, .string tn] 65 (0, 0)) := r4.row (fun h => hgp h) (heap_alloc_new w2 _)
      have cg := cell_of_row w3 w2.heap.size 0 _ _ _ hrow
      have fg := frozen_of_row w3 w2.heap.size 0 _ _ hrow
      have hka : Ko (fun q => q = w2.heap.size) w3 (w3.setCell ⟨w2.heap.size, 0, none⟩ (.string m)) := ⟨rfl, rfl, rfl, by simp, fun q _ hn => Below.heap_setCell _ _ _ _ hn⟩
      have hblk : ∀ y ∈ xs, ∀ b o, y.f.recs ≠ [] → y.ra = some ⟨b, o, none⟩ → b < w2.heap.size := fun y hy b o hre he => by
        rcases HRi2.out.lies y hy with h2 | ⟨b3, o3, h3, hl3, _⟩
        · have := sc_length y.f.recs
          rw [h2] at this
          exact absurd (List.eq_nil_of_length_eq_zero this.symm) hre
        · rw [he] at h3
          simp only [Option.some.injEq, Addr.mk.injEq, and_true] at h3
          omega
      have r6 : RI (w3.setCell ⟨w2.heap.size, 0, none⟩ (.string m)) p (dropX xs n) A' cap' false (left - 1) := r3.ko hka (fun h => hgp h.symm) (fun b o he hb => by have := r5 b o he; simp at this; omega) (fun y hy b o hv he hb => by
        have h5 := hblk y (List.mem_filter.1 hy).1 b o (fun hh => hv (by rw [hh]; rfl)) he
        omega)
      have hkx : Ko (atP p) w2 w3 := (Ko.bel (S := atP p) (bnew (Below.refl _ _) _)).trans r4 (fun _ hk => .inl hk)
      have hxk := HX.out
      have hlz : Lies (w3.setCell ⟨w2.heap.size, 0, none⟩ (.string m)) ra (sc rs) := (HLx2.out.ko (fun b o hv he hb => HLx.out.2.2 b o (fun hh => hv (by show sc rs = []; rw [show rs = [] from hh]; rfl)) he hb) hkx).ko (fun b o hv he hb => by
        have h5 := hblk ⟨⟨nm, rs, sy, ct, tn⟩, ra, rc⟩ (by rw [hxk]; exact List.getElem_mem hk) b o (fun hh => hv (by show sc rs = []; rw [show rs = [] from hh]; rfl)) he
        omega) hka
      have HPut := Lib.hid (put_any (w3.setCell ⟨w2.heap.size, 0, none⟩ (.string m)) p (dropX xs n) A' cap' false (left - 1) r6 ⟨⟨m, rs, sy, ct, tn⟩, ra, rc⟩ hlz (fun b o hre he => HLx.out.2.2 b o hre he) HLx.out.2.1 (Nat.le_trans (dropX_len xs n) hl))
      have hrow4 : (w3.setCell ⟨w2.heap.size, 0, none⟩ (.string m)).heap[w2.heap.size]? = some (.cells #[.string m, .slice ra rs.length rc, .int .i64 (sy : Int), .bool ct, .string tn] 65 (0, 0)) := heap_setCell_same w3 _ 0 _ _ (.string m) hrow
      have HR4 := Lib.hid hrow4
      have HK4 : Hid (Ko (atP p) W (w3.setCell ⟨w2.heap.size, 0, none⟩ (.string m))) := Lib.hid ((HK2.out.trans hkx (fun _ hk => .inl hk)).trans hka (fun q hq => .inr (by rw [hq]; exact HK2.out.size)))
      have HS4 : Hid (W.heap.size ≤ (w3.setCell ⟨w2.heap.size, 0, none⟩ (.string m)).heap.size) := Lib.hid HK4.out.size
      have HZ4 := Lib.hid (sizeFl ⟨⟨m, rs, sy, ct, tn⟩, ra, rc⟩)
      have HSb : Hid (∀ q, q < (#[.string m, .slice ra rs.length rc, .int .i64 (sy : Int), .bool ct, .string tn] : Array Value).size → (#[.string m, .slice ra rs.length rc, .int .i64 (sy : Int), .bool ct, .string tn] : Array Value)[0 + q]? = (#[.string m, .slice ra rs.length rc, .int .i64 (sy : Int), .bool ct, .string tn] : Array Value)[q]?) := Lib.hid fun q _ => by rw [Nat.zero_add]
      have HMem : Hid (∀ y ∈ rputX ⟨⟨m, rs, sy, ct, tn⟩, ra, rc⟩ (dropX xs n) false, y ∈ xs ∨ (∃ x ∈ xs, y.f.recs = x.f.recs ∧ y.ra = x.ra)) := Lib.hid fun y hy => by
        rcases mem_rputX hy with rfl | hy
        · exact .inr ⟨⟨⟨nm, rs, sy, ct, tn⟩, ra, rc⟩, by rw [hxk]; exact List.getElem_mem hk, rfl, rfl⟩
        · exact .inl (List.mem_filter.1 hy).1
      unfold flC at HPut HZ4
      simp only at HPut HZ4
      clear r3 r4 r5 r6 hka hkx hlz hrow hrow4 hblk hst c0 hxk
      go_wp2_with (refine wpList_load_sub rfl 65 _ rfl w2.heap.size 0 rfl 65 #[.string m, .slice ra rs.length rc, .int .i64 (sy : Int), .bool ct, .string tn] #[.string m, .slice ra rs.length rc, .int .i64 (sy : Int), .bool ct, .string tn] (0, 0) _ HR4.out HSb.out Try.underlying65 rfl HZ4.out ?_)
      refine (HPut.out).mono ?_
      rintro e w5 ⟨rfl, A5, cap5, r7, r8, r9⟩
      have H5 := Lib.hid (And.intro r7 (And.intro (HK4.out.trans r8 (fun _ hk => .inl hk)) (fun b o he => Nat.le_trans HS4.out (r9 b o he))))
      clear r7 r8 r9 cg fg
      go_wp2_with fail
      go_ret
      have hfi := HFile.out ⟨⟨m, rs, sy, ct, tn⟩, ra, rc⟩ rfl
      refine ⟨by rw [HR.out]; rfl, _, A5, cap5, by rw [HR.out]; exact H5.out.1, hfi, H5.out.2.1, fun b o he => .inr (H5.out.2.2 b o he), fun y hy => ?_⟩
      rcases HMem.out y hy with h | h
      · exact .inl ⟨y, h, rfl, rfl⟩
      · exact .inl h
end Go.Proofs.Ytjmnoogaffjdiaa
