/-
  The document's disk: drop and put walked: its row of files is made anew.
-/
import Derived.Test.YtjmnoogaffjdiaaRRkSmall
import Derived.Test.YtjmnoogaffjdiaaROwnB
import Derived.Deep.RegionLaw
import Derived.StillTailTactics
set_option linter.unusedSimpArgs false
set_option linter.unusedVariables false
namespace Go.Proofs.Ytjmnoogaffjdiaa
open Go.RowKit
def flZ : Value := .agg #[.string ⟨#[]⟩, .slice none 0 0, .int .i64 0, .bool false, .string ⟨#[]⟩]
theorem infoFl : (Try.prog.info? 65).map (fun i => (i.zero, i.size, i.bytes)) = some (some flZ, 5, 72) := by kernel_rfl
theorem fl_one (x : Fx) : ∀ u ∈ fc1 x, u.oneCell' = true := fun u hu => fcOne [x] u (by rw [fc_one]; exact hu)
/-- A row made anew is let in. -/
theorem RI.renew {W wr : World} {p : Nat} {xs ys : List Fx} {A : Option Addr} {cap : Nat} {off : Bool} {left : Nat} (h : RI W p xs A cap off left) (hb : Below W.heap.size W wr) {v : Value}
    (hown : wr.ownsRow W.heap.size 65 5 v ys.length (fc ys)) (hl : ∀ y ∈ ys, Lies W y.ra (sc y.f.recs)) (ha : ∀ y ∈ ys, Off y p) (hc : ∀ y ∈ ys, y.f.recs.length ≤ y.rc) :
    ∃ A' cap', RI (wr.setCell ⟨p, 0, none⟩ v) p ys A' cap' off left ∧ Ko (atP p) W (wr.setCell ⟨p, 0, none⟩ v) ∧ ∀ b o, A' = some ⟨b, o, none⟩ → W.heap.size ≤ b := by
  obtain ⟨A', cap', rfl, hA⟩ := own_slice hown
  have hp := h.lt
  have hpb : wr.heap[p]? = W.heap[p]? := hb.block p hp
  have hk : Ko (atP p) W (wr.setCell ⟨p, 0, none⟩ (.slice A' ys.length cap')) := (Ko.bel (S := atP p) hb).setp 0 _
  have hne : (Value.slice A' ys.length cap').ownBlock ≠ some p := fun he => by
    have := (own_lt hown he).2
    omega
  refine ⟨A', cap', ⟨heap_setCell_same wr p 0 _ _ _ (hpb.trans h.row), own_zero (own_setCell hown hne _), fun y hy => (hl y hy).ko (fun b o hv he hs => ha y hy b o (fun hh => hv (by rw [hh]; rfl)) he hs) hk, ha, fun y hy b o he b2 o2 hr he2 hbb => ?_, fun b o he hbp => ?_, hc⟩, hk, fun b o he => (hA b o he).1⟩
  · have h1 := (hA b o he).1
    rcases hl y hy with h2 | ⟨b3, o3, h3, hlt, _⟩
    · exact hr (by have := sc_length y.f.recs; rw [h2] at this; exact List.eq_nil_of_length_eq_zero this.symm)
    · rw [he2] at h3
      simp only [Option.some.injEq, Addr.mk.injEq, and_true] at h3
      omega
  · have h1 := (hA b o he).1
    omega
def dropX (xs : List Fx) (n : ByteArray) : List Fx := xs.filter fun x => decide (x.f.name ≠ n)
theorem dropX_fls (xs : List Fx) (n : ByteArray) : fls (dropX xs n) = Dk.drop (fls xs) n := by
  unfold fls dropX Dk.drop
  rw [List.filter_map]; rfl
theorem dropX_take (xs : List Fx) (n : ByteArray) (k : Nat) (h : k < xs.length) : dropX (xs.take (k + 1)) n = dropX (xs.take k) n ++ (if xs[k].f.name = n then [] else [xs[k]]) := by
  unfold dropX
  rw [List.take_succ_eq_append_getElem h, List.filter_append]
  congr 1
  by_cases he : xs[k].f.name = n <;> simp [he]
theorem dropX_len (xs : List Fx) (n : ByteArray) : (dropX xs n).length ≤ xs.length := List.length_filter_le ..
set_option maxRecDepth 100000 in
set_option maxHeartbeats 4000000 in
theorem drop_any (W : World) (p : Nat) (xs : List Fx) (A : Option Addr) (cap : Nat) (off : Bool) (left : Nat) (h : RI W p xs A cap off left) (n : ByteArray) (hl : xs.length ≤ 100000000) :
    Calls Try.prog 57 #[.pointer (some ⟨p, 0, none⟩), .string n] W fun e w' => e = .returned (.tuple #[]) ∧ ∃ A' cap', RI w' p (dropX xs n) A' cap' off left ∧ Ko (atP p) W w' ∧ ∀ b o, A' = some ⟨b, o, none⟩ → W.heap.size ≤ b := by
  have hplt := h.lt
  have HC0 : Hid (∀ W2, Below W.heap.size W W2 → W2.cell? ⟨p, 0, none⟩ = some (.slice A xs.length cap) ∧ W2.frozen? ⟨p, 0, none⟩ = false) := Lib.hid fun W2 hb => ⟨(hb.cell (p := ⟨p, 0, none⟩) hplt).trans (cell_of_row W p 0 _ _ _ h.row), (hb.frozen (p := ⟨p, 0, none⟩) hplt).trans (frozen_of_row W p 0 _ _ h.row)⟩
  have H := Lib.hid h
  have HF : Hid (∀ wr v, Below W.heap.size W wr → wr.ownsRow W.heap.size 65 5 v (dropX xs n).length (fc (dropX xs n)) → ∃ A' cap', RI (wr.setCell ⟨p, 0, none⟩ v) p (dropX xs n) A' cap' off left ∧ Ko (atP p) W (wr.setCell ⟨p, 0, none⟩ v) ∧ ∀ b o, A' = some ⟨b, o, none⟩ → W.heap.size ≤ b) := Lib.hid fun wr v hb ho =>
    h.renew hb ho (fun y hy => h.lies y (List.mem_filter.1 hy).1) (fun y hy => h.ap y (List.mem_filter.1 hy).1) (fun y hy => h.room y (List.mem_filter.1 hy).1)
  obtain ⟨i0, hi, hz0, hz1, hz2⟩ := info_parts infoFl
  have HI := Lib.hid (And.intro hi (And.intro hz0 (And.intro hz1 hz2)))
  clear h hi hz0 hz1 hz2 hplt
  obtain ⟨c0, f0⟩ := HC0.out W (Below.refl _ _)
  go_enter Try.func57, Try.ntmps57
  go_wp2_with fail
  clear c0 f0
  go_loopw [4, 5] (fun v i wr => ∃ k : Nat, k ≤ xs.length ∧ i = .int .i64 (k : Int) ∧ wr.ownsRow W.heap.size 65 5 v (dropX (xs.take k) n).length (fc (dropX (xs.take k) n)) ∧ Below W.heap.size W wr) (fun _ i _ => xs.length - (intOf i).toNat)
  case atStart => exact ⟨0, Nat.zero_le _, rfl, World.ownsRow_nil _ _ _ _, Below.refl _ _⟩
  case round =>
    obtain ⟨k, hk, rfl, hown, hb⟩ := hrel
    have Hb := Lib.hid hb
    obtain ⟨c0, f0⟩ := HC0.out wr hb
    clear hb
    by_cases hlt : k < xs.length
    · obtain ⟨g, hA, hg, hr⟩ := H.out.cellsAt k hlt
      have hr2 : wr.rangeAt g (k * 5) (flC xs[k]).toList := fun j v hv => (Hb.out.cell (p := ⟨g, k * 5 + j, none⟩) hg).trans (hr j v hv)
      have hst := dropX_take xs n k hlt
      have hyl : (dropX (xs.take k) n).length ≤ 100000000 := Nat.le_trans (dropX_len _ _) (by rw [List.length_take]; omega)
      obtain ⟨x, hx⟩ : ∃ x, x = xs[k] := ⟨_, rfl⟩
      rw [← hx] at hr2 hst
      obtain ⟨ys, hys⟩ : ∃ ys, ys = dropX (xs.take k) n := ⟨_, rfl⟩
      rw [← hys] at hown hst hyl
      obtain ⟨⟨nm, rs, sy, ct, tn⟩, ra, rc⟩ := x
      have c1 : wr.cell? ⟨g, k * 5, none⟩ = some (.string nm) := hr2 0 _ rfl
      have HRg := Lib.hid hr2
      have HZ := Lib.hid (sizeFl ⟨⟨nm, rs, sy, ct, tn⟩, ra, rc⟩)
      subst hA
      clear hr hr2 hx hys
      by_cases he : nm = n
      · subst he
        rw [if_pos rfl, List.append_nil] at hst
        have Hst := Lib.hid hst
        have HO := Lib.hid hown
        clear hst hown
        go_wp2_with fail
        go_roundw
        case rel => exact ⟨k + 1, by omega, by go_num, by rw [Hst.out]; exact HO.out, Hb.out⟩
        case measure => simp [intOf]; omega
      · have q1 := beq_f he
        rw [if_neg he] at hst
        have Hst := Lib.hid hst
        obtain ⟨hi, hz0, hz1, hz2⟩ := HI.out
        clear hst he
        go_wp2_with (first
          | (refine wpList_load_rng rfl 65 _ rfl g (k * 5) rfl (flC ⟨⟨nm, rs, sy, ct, tn⟩, ra, rc⟩) _ HRg.out Try.underlying65 rfl HZ.out ?_; unfold flC; simp only [])
          | (at_builtin; refine wpList_app_own rfl (.tmp 25) (.tmp 33) 28 rfl W.heap.size 65 i0 flZ 5 72 Try.underlying28 hi hz0 hz1 hz2 rfl (by decide) _ _ _ rfl (World.ownsRow.alloc hown _) ⟨wr.heap.size, 0, none⟩ 1 1 (fc1 ⟨⟨nm, rs, sy, ct, tn⟩, ra, rc⟩) rfl rfl (news_fl wr _ _) (fl_one _) (by simp only [maxLen]; omega) (by omega) (by have := Hb.out.size; simp; omega) ?_; intro v' w2 ho2 hg2 hn2; have HO2 := Lib.hid ho2; have HB2 : Hid (Below W.heap.size W w2) := Lib.hid ((bnew Hb.out _).grown hg2 (by have := Hb.out.size; simp; omega) (fun j hj => (own_lt hown hj).2)); clear ho2 hg2 hn2 hown))
        go_roundw
        case rel => exact ⟨k + 1, by omega, by go_num, by rw [Hst.out, List.length_append, fc_append]; exact HO2.out, HB2.out⟩
        case measure => simp [intOf]; omega
    · obtain rfl : k = xs.length := by omega
      rw [List.take_length] at hown
      obtain ⟨A', cap', rfl, _⟩ := own_slice hown
      have HO := Lib.hid hown
      clear hown
      go_wp2_with fail
      go_end0
      exact ⟨rfl, HF.out _ _ Hb.out HO.out⟩
end Go.Proofs.Ytjmnoogaffjdiaa
