/-
  wapentakelaw07.stands walked: the program's disk and the document's stand for the same.
-/
import Derived.Test.YtjmnoogaffjdiaaRRkSaid
import Derived.Test.YtjmnoogaffjdiaaRDkInst
import Derived.Test.YtjmnoogaffjdiaaRFrAw
import Derived.Deep.QuietTactic
set_option linter.unusedSimpArgs false
set_option linter.unusedVariables false
namespace Go.Proofs.Ytjmnoogaffjdiaa
open Go.RowKit Go.Sort
set_option maxRecDepth 100000 in
theorem dFused_same (W : World) (p : Nat) (S : Nat → Prop) (d : Dk.D) (h : DmAt W p S d) :
    Calls Try.prog 26 #[.pointer (some ⟨p, 0, none⟩)] W fun e w' => e = .returned (.int .i64 (d.left : Int)) ∧ W = w' := by
  obtain ⟨mb, hh⟩ := h.head
  have H := Lib.hid (isMade_any W p mb _ _ hh)
  have c1 := hh.c1
  clear h hh
  go_enter Try.func26, Try.ntmps26
  go_wp2_with fail
  refine (H.out).mono ?_
  rintro e w1 ⟨rfl, rfl⟩
  go_wp2_with fail
  go_ret
  exact ⟨rfl, rfl⟩
set_option maxRecDepth 100000 in
theorem dDown_same (W : World) (p : Nat) (S : Nat → Prop) (d : Dk.D) (h : DmAt W p S d) :
    Calls Try.prog 27 #[.pointer (some ⟨p, 0, none⟩)] W fun e w' => e = .returned (.bool d.off) ∧ W = w' := by
  obtain ⟨mb, hh⟩ := h.head
  have H := Lib.hid (isMade_any W p mb _ _ hh)
  have c2 := hh.c2
  clear h hh
  go_enter Try.func27, Try.ntmps27
  go_wp2_with fail
  refine (H.out).mono ?_
  rintro e w1 ⟨rfl, rfl⟩
  go_wp2_with fail
  go_ret
  exact ⟨rfl, rfl⟩
set_option maxRecDepth 100000 in
set_option maxHeartbeats 8000000 in
theorem stands_any (w : World) (p q : Nat) (S T : Nat → Prop) (d : Dk.D) (hp : DmAt w p S d) (hq : RAt w q T d) :
    Calls Try.prog 15 #[.pointer (some ⟨p, 0, none⟩), .pointer (some ⟨q, 0, none⟩)] w fun e w' => e = .returned (.bool true) ∧ Below w.heap.size w w' := by
  obtain ⟨xs, A, cap, hr, _⟩ := hq
  have hinv := hr.inv
  have hn8 := hr.len
  have hnl : (Dk.list d).length = xs.length := by
    show (d.files.map (·.name)).length = _
    rw [← hr.files, List.length_map, fls_length]
  have HL := Lib.hid (diskK.list w p S d hp)
  obtain ⟨n, hn⟩ : ∃ n, n = xs.length := ⟨_, rfl⟩
  rw [hnl, ← hn] at HL
  rw [← hn] at hn8
  obtain ⟨off, hoff⟩ : ∃ o, o = d.off := ⟨_, rfl⟩
  obtain ⟨left, hleft⟩ : ∃ o, o = d.left := ⟨_, rfl⟩
  have HP : Hid (∀ W, Below w.heap.size w W → DmAt W p S d) := Lib.hid fun W hb => diskK.below hp hb
  have HQ : Hid (∀ W, Below w.heap.size w W → RI W q xs A cap off left) := Lib.hid fun W hb => by rw [hoff, hleft]; exact hr.ri.below hb
  have HD : Hid (∀ W, Below w.heap.size w W → Calls Try.prog 27 #[.pointer (some ⟨p, 0, none⟩)] W fun e w' => e = .returned (.bool off) ∧ W = w') := Lib.hid fun W hb => by rw [hoff]; exact dDown_same W p S d (diskK.below hp hb)
  have HF : Hid (∀ W, Below w.heap.size w W → Calls Try.prog 26 #[.pointer (some ⟨p, 0, none⟩)] W fun e w' => e = .returned (.int .i64 (left : Int)) ∧ W = w') := Lib.hid fun W hb => by rw [hleft]; exact dFused_same W p S d (diskK.below hp hb)
  have HX : Hid (RD w q xs A cap d ∧ n = xs.length ∧ off = d.off) := Lib.hid ⟨hr, hn, hoff⟩
  clear hp hr hinv hnl hn hoff hleft
  go_enter Try.func15, Try.ntmps15
  go_wp2_with fail
  refine (HL.out).mono ?_
  rintro e w1 ⟨B, cb, rfl, hl1, hg1, hb1⟩
  have HL1 := Lib.hid (And.intro hl1 hb1)
  have hri := HQ.out w1 hb1
  have c0 : w1.cell? ⟨q, 0, none⟩ = some (.slice A n cap) := by
    have := cell_of_row w1 q 0 _ _ _ hri.row
    rw [HX.out.2.1]; exact this
  have c1 : w1.cell? ⟨q, 1, none⟩ = some (.bool off) := cell_of_row w1 q 1 _ _ _ hri.row
  have c2 : w1.cell? ⟨q, 2, none⟩ = some (.int .i64 (left : Int)) := cell_of_row w1 q 2 _ _ _ hri.row
  have n1 : ((n : Int) != (n : Int)) = false := by simp
  have n2 : (off != off) = false := by simp
  have n3 : ((left : Int) != (left : Int)) = false := by simp
  have hbd : ∀ m, Below w.heap.size w (w1.drewN m) := fun m => below_drewN hb1 m
  have HBd := Lib.hid hbd
  clear hl1 hg1 hb1 hri hbd
  go_wp2_with fail
  go_quiet (first | (go_at_call 27; exact quietLeft (HD.out _ (HBd.out _))) | (go_at_call 26; exact quietLeft (HF.out _ (HBd.out _))))
  go_wp2_with fail
  go_loopw [6] (fun i wr => ∃ k : Nat, k ≤ n ∧ i = .int .i64 (k : Int) ∧ Below w1.heap.size w1 wr) (fun i _ => n - (intOf i).toNat)
  case atStart => exact ⟨0, Nat.zero_le _, rfl, below_drewN (Below.refl _ _) _⟩
  case round =>
    obtain ⟨k, hk, rfl, hb⟩ := hrel
    have hbw := HL1.out.2.trans (hb.mono HL1.out.2.size)
    by_cases hlt : k < n
    · have hkx : k < xs.length := by have := HX.out.2.1; omega
      have hri := HQ.out wr hbw
      obtain ⟨g, hA, hgl, hrg⟩ := hri.cellsAt k hkx
      have hkl : k < (Dk.list d).length := by
        show k < (d.files.map (·.name)).length
        rw [← HX.out.1.files, List.length_map, fls_length]; exact hkx
      obtain ⟨b1, o1, hB, hbl, hcl⟩ := (HL1.out.1.below hb).str k hkl
      have hnm : (Dk.list d)[k] = xs[k].f.name := by
        show (d.files.map (·.name))[k]'_ = _
        simp only [← HX.out.1.files]
        simp [fls]
      rw [hnm] at hcl
      have hmem : xs[k] ∈ xs := List.getElem_mem hkx
      have hfl := HX.out.1.fl hmem
      have hfnd : Dk.find d.files xs[k].f.name = some xs[k].f := Dk.find_of_mem HX.out.1.inv.rises (by rw [← HX.out.1.files]; exact List.mem_map.2 ⟨_, hmem, rfl⟩)
      have hrec : Dk.records d xs[k].f.name = (xs[k].f.recs.length, xs[k].f.syn) := by unfold Dk.records; rw [hfnd]
      have hrd : Dk.read d xs[k].f.name = if off then ([], .down) else (Dk.bytes xs[k].f, .ok) := by unfold Dk.read; rw [hfnd, ← HX.out.2.2]
      have hlz := hri.lies _ hmem
      have HBy : Hid (∀ W, Below wr.heap.size wr W → Calls Try.prog 39 #[.agg (flC xs[k])] W fun e w' => e = .returned (.string ⟨(Dk.bytes xs[k].f).toArray⟩) ∧ Below W.heap.size W w') := Lib.hid fun W hbz => bytes_any W xs[k] (hlz.below hbz) hfl.2
      have HRec : Hid (∀ W, Below wr.heap.size wr W → Calls Try.prog 20 #[.pointer (some ⟨p, 0, none⟩), .string xs[k].f.name] W fun e w' => e = .returned (.tuple #[.int .i64 (xs[k].f.recs.length : Int), .int .i64 (xs[k].f.syn : Int)]) ∧ Below W.heap.size W w') := Lib.hid fun W hbz => by
        have := diskK.records W p S d xs[k].f.name (HP.out W (hbw.trans (hbz.mono hbw.size))) (by have := hfl.1.name.2; omega)
        rw [hrec] at this; exact this
      have HRd : Hid (∀ W, Below wr.heap.size wr W → Calls Try.prog 19 #[.pointer (some ⟨p, 0, none⟩), .string xs[k].f.name] W fun e w' => e = .returned (.tuple #[.string ⟨(if off then ([], Dk.E.down) else (Dk.bytes xs[k].f, .ok)).1.toArray⟩, .int .i64 (eno (if off then ([], Dk.E.down) else (Dk.bytes xs[k].f, .ok)).2)]) ∧ Below W.heap.size W w') := Lib.hid fun W hbz => by
        have := diskK.read W p S d xs[k].f.name (HP.out W (hbw.trans (hbz.mono hbw.size))) (by have := hfl.1.name.2; omega)
        rw [hrd] at this; exact this
      have HRow : Hid (∀ W, Below wr.heap.size wr W → W.cell? ⟨q, 1, none⟩ = some (.bool off) ∧ W.cell? ⟨b1, o1 + k, none⟩ = some (.string xs[k].f.name)) := Lib.hid fun W hbz => ⟨cell_of_row W q 1 _ _ _ (HQ.out W (hbw.trans (hbz.mono hbw.size))).row, (hbz.cell (p := ⟨b1, o1 + k, none⟩) hbl).trans hcl⟩
      have c0 : wr.cell? ⟨q, 0, none⟩ = some (.slice A n cap) := by
        have := cell_of_row wr q 0 _ _ _ hri.row
        rw [HX.out.2.1]; exact this
      obtain ⟨x, hx⟩ : ∃ x, x = xs[k] := ⟨_, rfl⟩
      rw [← hx] at hrg HBy HRec HRd HRow hcl
      have hst := storeFl x wr
      have HZ := Lib.hid (sizeFl x)
      have HRg := Lib.hid hrg
      have HOx := Lib.hid (flOne x)
      have HB0 := Lib.hid (And.intro hb hbw)
      have HRow0 : Hid ((wr.alloc (.cells (flC x) 65)).heap[wr.heap.size]? = some (.cells (flC x) 65 (0, 0))) := Lib.hid (heap_alloc_new wr _)
      obtain ⟨⟨nx, rx, sx, cx, tx⟩, ax, kx⟩ := x
      obtain ⟨rn, hrn⟩ : ∃ rn, rn = rx.length := ⟨_, rfl⟩
      obtain ⟨bt, hbt⟩ : ∃ b : ByteArray, b = ⟨(Dk.bytes ⟨nx, rx, sx, cx, tx⟩).toArray⟩ := ⟨_, rfl⟩
      unfold flC at hst HZ HRg HOx HBy HRow0
      simp only at hst HZ HRg HOx HBy HRec HRd HRow HRow0 hcl
      subst hA hB
      clear hri hrg hkl hnm hmem hfl hfnd hrec hrd hlz hx hb hbw hbl hkx
      go_upto_region 8 with (refine wpList_load_rng rfl 65 _ rfl g (k * 5) rfl #[.string nx, .slice ax rx.length kx, .int .i64 (sx : Int), .bool cx, .string tx] _ HRg.out Try.underlying65 rfl HZ.out ?_)
      refine forget (fun Wz => Below wr.heap.size wr Wz ∧ Wz.heap[wr.heap.size]? = some (.cells #[.string nx, .slice ax rx.length kx, .int .i64 (sx : Int), .bool cx, .string tx] 65 (0, 0))) ⟨bnew (Below.refl _ _) _, HRow0.out⟩ ?_
      clear hst c0
      intro Wz hz
      have Hz := Lib.hid hz
      obtain ⟨y1, y2⟩ := HRow.out Wz hz.1
      have HRe := Lib.hid (HRec.out Wz hz.1)
      clear hz hcl
      go_wp2_with fail
      refine (HRe.out).mono ?_
      rintro e w2 ⟨rfl, h2⟩
      have H2 : Hid (Below wr.heap.size wr w2 ∧ Below Wz.heap.size Wz w2) := Lib.hid ⟨Hz.out.1.trans (h2.mono Hz.out.1.size), h2⟩
      clear y1 y2 h2
      obtain ⟨y1, y2⟩ := HRow.out w2 H2.out.1
      have HR2 := Lib.hid (HRd.out w2 H2.out.1)
      go_wp2_with fail
      refine (HR2.out).mono ?_
      rintro e w3 ⟨rfl, h3⟩
      have H3 : Hid (Below wr.heap.size wr w3 ∧ w3.heap[wr.heap.size]? = some (.cells #[.string nx, .slice ax rx.length kx, .int .i64 (sx : Int), .bool cx, .string tx] 65 (0, 0))) := Lib.hid ⟨H2.out.1.trans (h3.mono H2.out.1.size), ((H2.out.2.trans (h3.mono H2.out.2.size)).block _ (Array.getElem?_eq_some_iff.1 Hz.out.2).1).trans Hz.out.2⟩
      clear y1 y2 h3
      have HFin : Hid (∀ w', Below w3.heap.size w3 w' → Below w1.heap.size w1 w') := Lib.hid fun w' hb => HB0.out.1.trans ((H3.out.1.trans (hb.mono H3.out.1.size)).mono HB0.out.1.size)
      obtain ⟨y1, y2⟩ := HRow.out w3 H3.out.1
      have z0 : w3.cell? ⟨wr.heap.size, 0, none⟩ = some (.string nx) := cell_of_row w3 wr.heap.size 0 _ _ _ H3.out.2
      have z1 : w3.cell? ⟨wr.heap.size, 1, none⟩ = some (.slice ax rx.length kx) := cell_of_row w3 wr.heap.size 1 _ _ _ H3.out.2
      have z2 : w3.cell? ⟨wr.heap.size, 2, none⟩ = some (.int .i64 (sx : Int)) := cell_of_row w3 wr.heap.size 2 _ _ _ H3.out.2
      have z3 : w3.cell? ⟨wr.heap.size, 3, none⟩ = some (.bool cx) := cell_of_row w3 wr.heap.size 3 _ _ _ H3.out.2
      have z4 : w3.cell? ⟨wr.heap.size, 4, none⟩ = some (.string tx) := cell_of_row w3 wr.heap.size 4 _ _ _ H3.out.2
      have m1 : ((rx.length : Int) != (rx.length : Int)) = false := by simp
      have m2 : ((sx : Int) != (sx : Int)) = false := by simp
      have j0 := fun d os => cell_regrown z0 d os
      have j1 := fun d os => cell_regrown z1 d os
      have j2 := fun d os => cell_regrown z2 d os
      have j5 := fun d os => cell_regrown y1 d os
      have j6 := fun d os => cell_regrown y2 d os
      have HSub : Hid (∀ j, j < (#[.string nx, .slice ax rx.length kx, .int .i64 (sx : Int), .bool cx, .string tx] : Array Value).size → (#[.string nx, .slice ax rx.length kx, .int .i64 (sx : Int), .bool cx, .string tx] : Array Value)[0 + j]? = (#[.string nx, .slice ax rx.length kx, .int .i64 (sx : Int), .bool cx, .string tx] : Array Value)[j]?) := Lib.hid fun j _ => by rw [Nat.zero_add]
      have HBz : Hid (∀ W, Below w3.heap.size w3 W → Calls Try.prog 39 #[.agg #[.string nx, .slice ax rx.length kx, .int .i64 (sx : Int), .bool cx, .string tx]] W fun e w' => e = .returned (.string ⟨(Dk.bytes ⟨nx, rx, sx, cx, tx⟩).toArray⟩) ∧ Below W.heap.size W w') := Lib.hid fun W hb => HBy.out W (H3.out.1.trans (hb.mono H3.out.1.size))
      rw [← hbt] at HBz
      clear HBy HRec HRd HR2 HRe HRow
      cases off
      · simp only [Bool.false_eq_true, if_false]
        rw [← hbt]
        clear hbt hrn z0 z1 z2 z3 z4 y1 y2
        go_upto_region 10 with (fail)
        refine wp_region_quiet_below (by kernel_rfl) (by kernel_rfl) ?_
        repeat (first | (refine wpQuiet_load_sub rfl 65 _ rfl wr.heap.size 0 rfl 65 _ #[.string nx, .slice ax rx.length kx, .int .i64 (sx : Int), .bool cx, .string tx] (0, 0) _ H3.out.2 HSub.out Try.underlying65 rfl HZ.out ?_; conv => arg 6; simp [Act.put]) | go_big_quiet_step ((go_at_call 39; exact Calls.regrown_of (HBz.out _ (below_regrown _ _ _)))))
        refine wpQuiet_nil ?_
        intro _ hw'
        obtain ⟨pq, hw''⟩ := hw'
        subst hw''
        have hb1 := HFin.out _ (below_regrown w3 pq.d pq.os)
        have HBe := Lib.hid hb1
        clear hb1
        generalize grow (redrawn w3 pq.d) pq.os = W9 at *
        go_wp2_with fail
        go_roundw
        case rel => exact ⟨k + 1, by omega, by go_num, HBe.out⟩
        case measure => simp [intOf]; omega
      · simp only [if_true]
        clear hbt hrn z0 z1 z2 z3 z4 y1 y2
        go_upto_region 10 with (fail)
        refine wp_region_quiet_below (by kernel_rfl) (by kernel_rfl) ?_
        repeat (go_big_quiet_step (fail))
        refine wpQuiet_nil ?_
        intro _ hw'
        obtain ⟨pq, hw''⟩ := hw'
        subst hw''
        have hb1 := HFin.out _ (below_regrown w3 pq.d pq.os)
        have HBe := Lib.hid hb1
        clear hb1
        generalize grow (redrawn w3 pq.d) pq.os = W9 at *
        go_wp2_with fail
        go_roundw
        case rel => exact ⟨k + 1, by omega, by go_num, HBe.out⟩
        case measure => simp [intOf]; omega
    · obtain rfl : k = n := by omega
      have HB9 := Lib.hid hbw
      clear hb hbw
      go_wp2_with fail
      go_ret
      exact ⟨rfl, HB9.out⟩
end Go.Proofs.Ytjmnoogaffjdiaa
