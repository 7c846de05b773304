/-
  WalKnown's values.
  wal's methods at nil: no disk, no table, no log.
  wal's Segments walked on a disk that has one file, a segment, and at no disk; slices.Sort of one number.
  WalKnown walked.
-/
import Derived.Test.YtdcjhpnakbejkaaGreatDoorRWwX
import Derived.Test.YtdcjhpnakbejkaaGreatDoorRWwI
import Derived.Test.YtdcjhpnakbejkaaGreatDoorRWlSt
import Derived.Test.YtdcjhpnakbejkaaGreatDoorRWwNumb
import Derived.Test.YtdcjhpnakbejkaaGreatDoorRBld
set_option linter.unusedSimpArgs false
set_option linter.unusedVariables false
namespace Go.Proofs.YtdcjhpnakbejkaaGreatDoor
namespace Wl
def k1 : Er × Dk.D := begins Dk.D.new 1 0 [s52]
def k2 : Dk.E × Dk.D := add k1.2 1 [s52, s52]
def r9 : R := ⟨9, 0, 0, En.zero⟩
def rx : R := ⟨2, 0, 0, { En.zero with idx := 1 }⟩
theorem k1_ok : k1.1 = .of .ok := by decide +kernel
theorem k1_load : Dk.load k1.2 ≤ 1000 := by decide +kernel
theorem k1_read : readD k1.2 1 = ((0, [s52], true), .ok) := by decide +kernel
theorem k1_list : Dk.list k1.2 = [name 1] := by decide +kernel
theorem k2_ok : k2.1 = .ok := by decide +kernel
theorem k2_load : Dk.load k2.2 ≤ 1000 := by decide +kernel
theorem k3_arg : add k2.2 1 [s52, r9] = (.arg, k2.2) := by
  have h : (add k2.2 1 [s52, r9]).1 = .arg := by decide +kernel
  have h0 : k2.2.off = false := by decide +kernel
  have h1 : [s52, r9].all right = false := by decide +kernel
  unfold add
  rw [h0, if_neg (by decide), if_pos h1]
theorem k4_there : begins k2.2 1 0 [] = (.there, k2.2) := by
  have h0 : k2.2.off = false := by decide +kernel
  have h1 : (Dk.find k2.2.files (name 1)).isSome = true := by decide +kernel
  unfold begins
  rw [h0, if_neg (by decide), if_pos h1]
theorem k5_arg : begins k2.2 2 0 [rx] = (.of .arg, k2.2) := by
  have h0 : k2.2.off = false := by decide +kernel
  have h1 : (Dk.find k2.2.files (name 2)).isSome = false := by decide +kernel
  have h2 : [rx].all right = false := by decide +kernel
  unfold begins
  rw [h0, if_neg (by decide), h1, if_neg (by decide), if_pos h2]
theorem k6_text : Dk.read k2.2 (name 1) = ([3, 214, 135, 169, 115, 1, 1, 0, 3, 147, 24, 120, 43, 2, 5, 2, 3, 147, 24, 120, 43, 2, 5, 2, 3, 147, 24, 120, 43, 2, 5, 2], .ok) := by decide +kernel
theorem k7_name : name 7 = ⟨#[115, 101, 103, 46, 48, 48, 48, 48, 48, 48, 48, 55]⟩ := by decide +kernel
theorem k7_short (n : Nat) (h : n < Nm.top) : name n ≠ ⟨#[115, 101, 103, 46, 55]⟩ := fun e => by
  have h1 := (name_size h).1
  rw [e] at h1
  exact absurd h1 (by decide)
theorem k6_none : readD k2.2 9 = ((0, [], false), .none) := by decide +kernel
end Wl
end Go.Proofs.YtdcjhpnakbejkaaGreatDoor
namespace Go.Proofs.YtdcjhpnakbejkaaGreatDoor
open Go.RowKit
theorem begin_nod (v n s l : Value) (w : World) : Calls Tryz.prog 27 #[.pointer none, v, n, s, l] w fun e w' => e = .returned (.tuple #[.pointer none, .int .i64 2]) ∧ w = w' := by
  go_enter Tryz.func27, Tryz.ntmps27
  go_wp2_with (go_at_call 79; refine (wpower_nil _ _).mono ?_; rintro e w1 ⟨rfl, rfl⟩)
  go_ret2
  exact ⟨rfl, rfl⟩
theorem begin_notab (p : Nat) (n s l : Value) (w : World) : Calls Tryz.prog 27 #[.pointer (some ⟨p, 0, none⟩), .pointer none, n, s, l] w fun e w' => e = .returned (.tuple #[.pointer none, .int .i64 2]) ∧ w = w' := by
  go_enter Tryz.func27, Tryz.ntmps27
  go_wp2_with (go_at_call 79; refine (wpower_notab _ _).mono ?_; rintro e w1 ⟨rfl, rfl⟩)
  go_ret2
  exact ⟨rfl, rfl⟩
theorem wread_nod (v n : Value) (w : World) : Calls Tryz.prog 28 #[.pointer none, v, n] w fun e w' => e = .returned (.tuple #[.int .u64 0, .slice none 0 0, .bool false, .int .i64 2]) ∧ w = w' := by
  go_enter Tryz.func28, Tryz.ntmps28
  go_wp2_with (go_at_call 79; refine (wpower_nil _ _).mono ?_; rintro e w1 ⟨rfl, rfl⟩)
  refine bodyPost_ret (results_tmp4 rfl _ _ _) rfl ?_
  exact ⟨rfl, rfl⟩
theorem add_nolog (l : Value) (w : World) : Calls Tryz.prog 29 #[.pointer none, l] w fun e w' => e = .returned (.int .i64 2) ∧ w = w' := by
  go_enter Tryz.func29, Tryz.ntmps29
  go_wp2_with (go_at_call 88; refine (isBegun_nil _).mono ?_; rintro e w1 ⟨rfl, rfl⟩)
  go_ret
  exact ⟨rfl, rfl⟩
theorem add_zero (q : Nat) (l : Value) (w : World) (h : w.cell? ⟨q, 0, none⟩ = some (.pointer none)) : Calls Tryz.prog 29 #[.pointer (some ⟨q, 0, none⟩), l] w fun e w' => e = .returned (.int .i64 2) ∧ w = w' := by
  have H := Lib.hid (isBegun_zero w q h)
  clear h
  go_enter Tryz.func29, Tryz.ntmps29
  go_wp2_with (go_at_call 88; refine H.out.mono ?_; rintro e w1 ⟨rfl, rfl⟩)
  go_ret
  exact ⟨rfl, rfl⟩
end Go.Proofs.YtdcjhpnakbejkaaGreatDoor
namespace Go.Proofs.YtdcjhpnakbejkaaGreatDoor
open Go.RowKit
set_option maxRecDepth 100000 in
theorem len64_1 (w : World) : Calls Tryz.prog 196 #[.int .u64 1] w fun e w' => (∃ n, e = .returned (.int .i64 n)) ∧ w = w' := by
  go_enter Tryz.func196, Tryz.ntmps196
  go_wp2_with fail
  go_ret
  exact ⟨⟨_, rfl⟩, rfl⟩
set_option maxRecDepth 100000 in
theorem len_1 (w : World) : Calls Tryz.prog 130 #[.int .u64 1] w fun e w' => (∃ n, e = .returned (.int .i64 n)) ∧ w = w' := by
  go_enter Tryz.func130, Tryz.ntmps130
  go_wp2_with (go_at_call 196; refine (len64_1 _).mono ?_; rintro e w1 ⟨⟨n, rfl⟩, rfl⟩)
  go_ret
  exact ⟨⟨_, rfl⟩, rfl⟩
theorem insU_1 (v : Value) (w : World) : Calls Tryz.prog 186 #[v, .int .i64 0, .int .i64 1] w fun e w' => e = .returned (.tuple #[]) ∧ w = w' := by
  go_enter Tryz.func186, Tryz.ntmps186
  go_wp2_with fail
  go_loopw [6] (fun i wr => i = .int .i64 1 ∧ w = wr) (fun i _ => 0)
  case atStart => exact ⟨rfl, rfl⟩
  case round =>
    obtain ⟨rfl, rfl⟩ := hrel
    go_wp2_with fail
    go_end0
    exact ⟨rfl, rfl⟩
set_option maxRecDepth 100000 in
theorem pdqU_1 (v u : Value) (w : World) : Calls Tryz.prog 129 #[v, .int .i64 0, .int .i64 1, u] w fun e w' => e = .returned (.tuple #[]) ∧ w = w' := by
  go_enter Tryz.func129, Tryz.ntmps129
  go_wp2_with fail
  go_loopw [1, 2] (fun a b wr => a = .int .i64 0 ∧ b = .int .i64 1 ∧ w = wr) (fun _ _ _ => 0)
  case atStart => exact ⟨rfl, rfl, rfl⟩
  case round =>
    obtain ⟨rfl, rfl, rfl⟩ := hrel
    go_wp2_with (go_at_call 186; refine (insU_1 _ _).mono ?_; rintro e w1 ⟨rfl, rfl⟩)
    refine bodyPost_ret (results_none (fn := Tryz.f129) rfl _ _ _) rfl ⟨rfl, rfl⟩
set_option maxRecDepth 100000 in
theorem sortU_1 (A : Option Addr) (cap : Nat) (w : World) : Calls Tryz.prog 74 #[.slice A 1 cap] w fun e w' => e = .returned (.tuple #[]) ∧ w = w' := by
  go_enter Tryz.func74, Tryz.ntmps74
  go_wp2_with (first
    | (go_at_call 130; refine (len_1 _).mono ?_; rintro e w1 ⟨⟨n, rfl⟩, rfl⟩)
    | (go_at_call 129; refine (pdqU_1 _ _ _).mono ?_; rintro e w1 ⟨rfl, rfl⟩))
  go_end0
  exact ⟨rfl, rfl⟩
set_option maxRecDepth 100000 in
theorem made_nil (w : World) : Calls Tryz.prog 92 #[.pointer none] w fun e w' => e = .returned (.bool false) ∧ w = w' := by
  go_enter Tryz.func92, Tryz.ntmps92
  go_wp2_with fail
  go_ret
  exact ⟨rfl, rfl⟩
theorem list_nil (w : World) : Calls Tryz.prog 60 #[.pointer none] w fun e w' => e = .returned (.slice none 0 0) ∧ w = w' := by
  go_enter Tryz.func60, Tryz.ntmps60
  go_wp2_with (go_at_call 92; refine (made_nil _).mono ?_; rintro e w1 ⟨rfl, rfl⟩)
  go_ret
  exact ⟨rfl, rfl⟩
set_option maxRecDepth 100000 in
theorem segs_nil (w : World) : Calls Tryz.prog 20 #[.pointer none] w fun e w' => e = .returned (.slice none 0 0) ∧ w = w' := by
  go_enter Tryz.func20, Tryz.ntmps20
  go_wp2_with (go_at_call 60; refine (list_nil _).mono ?_; rintro e w1 ⟨rfl, rfl⟩)
  go_loopw [3, 11] (fun v i wr => v = .slice none 0 0 ∧ i = .int .i64 0 ∧ w = wr) (fun _ _ _ => 0)
  case atStart => exact ⟨rfl, rfl, rfl⟩
  case round =>
    obtain ⟨rfl, rfl, rfl⟩ := hrel
    go_wp2_with (go_at_call 74; refine (sortU_0 _ _ _).mono ?_; rintro e w1 ⟨rfl, rfl⟩)
    go_ret
    exact ⟨rfl, rfl⟩
theorem infoU64 : (Tryz.prog.info? 38).map (fun i => (i.zero, i.size, i.bytes)) = some (some (.int .u64 0), 1, 8) := by kernel_rfl
section
variable {At : DkAt}
set_option maxRecDepth 100000 in
theorem segs_one (K : DiskK At) (W : World) (p : Nat) (S : Nat → Prop) (d : Dk.D) (hA : At W p S d) (n : Nat) (hn : n < Nm.top) (h1 : Dk.list d = [Wl.name n]) (hE : EnvT W) (hF : EnvE W) :
    Calls Tryz.prog 20 #[.pointer (some ⟨p, 0, none⟩)] W fun e w' => ∃ g cap, e = .returned (.slice (some ⟨g, 0, none⟩) 1 cap) ∧ w'.cell? ⟨g, 0, none⟩ = some (.int .u64 (n : Int)) ∧ g < w'.heap.size ∧ Below W.heap.size W w' := by
  have hL := K.list W p S d hA
  rw [h1] at hL
  have HL := Lib.hid hL
  have hnz := (Wl.name_size hn).2
  obtain ⟨nm, hnm⟩ : ∃ nm, nm = Wl.name n := ⟨_, rfl⟩
  rw [← hnm] at HL hnz
  have HN : Hid (∀ w, Below W.heap.size W w → Calls Tryz.prog 22 #[.string nm] w fun e w' => e = .returned (.tuple #[.int .u64 (n : Int), .bool true]) ∧ Below w.heap.size w w') := Lib.hid fun w hb => (wnumber_any nm w (hE.below hb (Nat.le_refl _)) (hF.below hb (Nat.le_refl _)) (by omega)).mono fun e w' ⟨v, ok, e1, e2, e3, e4, e5⟩ => by
    cases ok with
    | false => exact absurd hnm.symm ((e4 rfl).2 n hn)
    | true =>
      have := Wl.name_inj e2 hn ((e3 rfl).trans hnm)
      subst this
      exact ⟨e1, e5⟩
  obtain ⟨i0, hi, hz0, hz1, hz2⟩ := info_parts infoU64
  have HI0 := Lib.hid (And.intro hi (And.intro hz0 (And.intro hz1 hz2)))
  clear hL hA hE hF h1 hnm hi hz0 hz1 hz2 hn K
  go_enter Tryz.func20, Tryz.ntmps20
  go_wp2_with fail
  refine HL.out.mono ?_
  rintro e w1 ⟨A, cap, rfl, hli, _, hb1⟩
  have hc1 : ∃ b off, A = some ⟨b, off, none⟩ ∧ b < w1.heap.size ∧ w1.cell? ⟨b, off, none⟩ = some (.string nm) := by
    rcases hli with h | ⟨b, off, rfl, hb, hc⟩
    · simp [sc] at h
    · exact ⟨b, off, rfl, hb, by simpa using hc 0 _ rfl⟩
  obtain ⟨b, off, rfl, hblt, hc1⟩ := hc1
  have H1 := Lib.hid (And.intro hb1 (And.intro hblt hc1))
  clear hb1 hli hc1 hblt
  simp only [List.length_singleton]
  go_wp2_with fail
  go_loopw [3, 11] (fun v i wr => Below W.heap.size W wr ∧ Below w1.heap.size w1 wr ∧ ((i = .int .i64 0 ∧ v = .slice none 0 0) ∨ (i = .int .i64 1 ∧ wr.ownsRow w1.heap.size 38 1 v 1 [.int .u64 (n : Int)]))) (fun _ i _ => 1 - (intOf i).toNat)
  case atStart => exact ⟨H1.out.1, Below.refl _ _, .inl ⟨rfl, rfl⟩⟩
  case round =>
    obtain ⟨hbW, hb1, h⟩ := hrel
    rcases h with ⟨rfl, rfl⟩ | ⟨rfl, hown⟩
    · have HB := Lib.hid (And.intro hbW hb1)
      have hc := later hb1 H1.out.2.2
      clear hbW hb1
      go_wp2_with fail
      refine (HN.out _ HB.out.1).mono ?_
      rintro e w2 ⟨rfl, hb2⟩
      have HB2 := Lib.hid (And.intro (bnext HB.out.1 (bnew hb2 (.cells #[.int .u64 (n : Int)] 38))) (bnext HB.out.2 (bnew hb2 (.cells #[.int .u64 (n : Int)] 38))))
      clear hb2
      have HNw := Lib.hid (news_fl w2 [.int .u64 (n : Int)] 38)
      go_wp2_with (at_builtin; refine wpList_app_own rfl (.tmp 21) (.tmp 23) 50 rfl w1.heap.size 38 i0 (.int .u64 0) 1 8 Tryz.underlying50 HI0.out.1 HI0.out.2.1 HI0.out.2.2.1 HI0.out.2.2.2 rfl (by decide) _ 0 [] rfl (World.ownsRow_nil _ _ _ _) ⟨w2.heap.size, 0, none⟩ 1 1 [.int .u64 (n : Int)] rfl rfl HNw.out (by simp [Value.oneCell']) (by simp only [maxLen]; omega) (by omega) HB2.out.2.size ?_)
      intro v' w5 ho5 hg5 hn5
      have HFn : Hid (w5.ownsRow w1.heap.size 38 1 v' 1 [.int .u64 (n : Int)] ∧ Below W.heap.size W w5 ∧ Below w1.heap.size w1 w5) := Lib.hid ⟨by simpa using ho5, HB2.out.1.grown hg5 HB2.out.1.size (fun j hj => by cases hj), HB2.out.2.grown hg5 HB2.out.2.size (fun j hj => by cases hj)⟩
      clear ho5 hg5 hn5
      go_wp2_with fail
      go_roundw
      case rel => exact ⟨HFn.out.2.1, HFn.out.2.2, .inr ⟨by first | rfl | go_num, HFn.out.1⟩⟩
      case measure => simp [intOf]
    · obtain ⟨C, cc, rfl, _⟩ := own_slice hown
      have HB := Lib.hid (And.intro hbW hown)
      clear hbW hb1 hown
      go_wp2_with (go_at_call 74; refine (sortU_1 _ _ _).mono ?_; rintro e w3 ⟨rfl, rfl⟩)
      go_ret
      rcases HB.out.2.2 with ⟨_, h0⟩ | ⟨g, cp, cur, hv, _, hr, _, _, hcs, htk⟩
      · cases h0
      · injection hv with e1
        subst e1
        refine ⟨g, cc, rfl, ?_, (Array.getElem?_eq_some_iff.1 hr).1, HB.out.1⟩
        rw [cell_of_row _ g 0 _ _ _ hr]
        have h2 : (cur.toList.take (1 * 1))[0]? = some (.int .u64 (n : Int)) := by rw [htk]; rfl
        rw [List.getElem?_take_of_lt (by decide)] at h2
        simpa using h2
end
end Go.Proofs.YtdcjhpnakbejkaaGreatDoor
namespace Go.Proofs.YtdcjhpnakbejkaaGreatDoor
open Go.RowKit
theorem r9_ok : Wl.Ok [Wl.s52, Wl.r9] := ⟨fun r hr => (by rcases List.mem_cons.1 hr with rfl | hr; exact Wl.s52_ok.fits _ (List.mem_cons_self ..); rw [List.mem_singleton.1 hr]; exact ⟨⟨by decide, by decide, by decide, En.zero_fits, by decide⟩, by decide⟩), by decide⟩
theorem s2_ok : Wl.Ok [Wl.s52, Wl.s52] := ⟨fun r hr => (by have : r = Wl.s52 := (by simpa using hr); rw [this]; exact Wl.s52_ok.fits _ (List.mem_cons_self ..)), by decide⟩
theorem rx_ok : Wl.Ok [Wl.rx] := ⟨fun r hr => (by rw [List.mem_singleton.1 hr]; exact ⟨⟨by decide, by decide, by decide, ⟨by decide, by decide, by decide, by decide⟩, by decide⟩, by decide⟩), by decide⟩
theorem kept_rng {W : World} {T : Nat → Prop} {b : Nat} {r : Wl.R} (h : Kept W T (some ⟨b, 0, none⟩) (wrs [r])) : W.rangeAt b 0 (recC r).toList := by
  obtain ⟨bb, oo, e, hP⟩ := h.lies.recd 0 (Nat.zero_lt_one)
  injection e with e
  injection e with e1 e2
  subst e1 e2
  have hY := hP.rng
  rw [Nat.zero_mul, Nat.add_zero] at hY
  exact hY
theorem kept_cells {W : World} {T : Nat → Prop} {b : Nat} {r : Wl.R} (h : Kept W T (some ⟨b, 0, none⟩) (wrs [r])) :
    W.cell? ⟨b, 0, none⟩ = some (.int .u8 (r.kind : Int)) ∧ W.cell? ⟨b, 1, none⟩ = some (.int .u64 (r.trm : Int)) ∧ W.cell? ⟨b, 2, none⟩ = some (.int .u8 (r.vote : Int)) ∧
    W.cell? ⟨b, 3, none⟩ = some (.int .u64 (r.ent.idx : Int)) ∧ W.cell? ⟨b, 4, none⟩ = some (.int .u64 (r.ent.trm : Int)) ∧ W.cell? ⟨b, 5, none⟩ = some (.int .u8 (r.ent.kind : Int)) ∧ W.cell? ⟨b, 6, none⟩ = some (.int .u8 (r.ent.slot : Int)) ∧
    W.cell? ⟨b, 7, none⟩ = some (.int .u8 (r.ent.tok.a0.toNat : Int)) ∧ W.cell? ⟨b, 8, none⟩ = some (.int .u8 (r.ent.tok.a1.toNat : Int)) ∧ W.cell? ⟨b, 9, none⟩ = some (.int .u8 (r.ent.tok.a2.toNat : Int)) ∧ W.cell? ⟨b, 10, none⟩ = some (.int .u8 (r.ent.tok.a3.toNat : Int)) ∧
    W.cell? ⟨b, 11, none⟩ = some (.int .u8 (r.ent.tok.a4.toNat : Int)) ∧ W.cell? ⟨b, 12, none⟩ = some (.int .u8 (r.ent.tok.a5.toNat : Int)) ∧ W.cell? ⟨b, 13, none⟩ = some (.int .u8 (r.ent.tok.a6.toNat : Int)) ∧ W.cell? ⟨b, 14, none⟩ = some (.int .u8 (r.ent.tok.a7.toNat : Int)) ∧ W.cell? ⟨b, 15, none⟩ = some (.string r.ent.body) := by
  obtain ⟨bb, oo, e, hP⟩ := h.lies.recd 0 (Nat.zero_lt_one)
  injection e with e
  injection e with e1 e2
  subst e1 e2
  exact ⟨by simpa using hP.c0, by simpa using hP.c1, by simpa using hP.c2, by simpa using hP.c3, by simpa using hP.c4, by simpa using hP.c5, by simpa using hP.c6, by simpa using hP.c7, by simpa using hP.c8, by simpa using hP.c9, by simpa using hP.c10, by simpa using hP.c11, by simpa using hP.c12, by simpa using hP.c13, by simpa using hP.c14, by simpa using hP.c15⟩
theorem kx1 : ((⟨#[3, 214, 135, 169, 115, 1, 1, 0, 3, 147, 24, 120, 43, 2, 5, 2, 3, 147, 24, 120, 43, 2, 5, 2, 3, 147, 24, 120, 43, 2, 5, 2]⟩ : ByteArray).extract 5 8).toList = [1, 1, 0] := by rw [ByteArray.toList_eq]; decide +kernel
theorem kx2 : ((⟨#[3, 214, 135, 169, 115, 1, 1, 0, 3, 147, 24, 120, 43, 2, 5, 2, 3, 147, 24, 120, 43, 2, 5, 2, 3, 147, 24, 120, 43, 2, 5, 2]⟩ : ByteArray).extract 13 16).toList = [2, 5, 2] := by rw [ByteArray.toList_eq]; decide +kernel
theorem log_zero_at (w : World) (X Y : Obj) : (((w.alloc X).alloc (.cells Tryz.zeroCells74 74)).alloc Y).cell? ⟨w.heap.size + 1, 0, none⟩ = some (.pointer none) := by
  have h := heap_alloc_new (w.alloc X) (.cells Tryz.zeroCells74 74)
  rw [World.size_alloc] at h
  have c := cell_of_row _ (w.heap.size + 1) 0 _ _ _ h
  exact later (bnew (Below.refl _ _) Y) (c.trans (by kernel_rfl))
section
variable {At : DkAt}
set_option maxRecDepth 100000 in
set_option maxHeartbeats 8000000 in
theorem walKnown_walk (K : DiskK At) (w : World) (hEE : EnvT w ∧ EnvE w) : Calls Tryz.prog 5 #[] w fun e w' => e = .returned (.bool true) ∧ Below w.heap.size w w' := by
  obtain ⟨hE, hF⟩ := hEE
  have HK := Lib.hid K
  have HEn := Lib.hid (fun W' (hb : Below w.heap.size w W') => hE.below hb (Nat.le_refl _))
  have HEf := Lib.hid (fun W' (hb : Below w.heap.size w W') => hF.below hb (Nat.le_refl _))
  have HAw := Lib.hid (fun W hb => walAwake_any K W (HEn.out W hb))
  have HS5 : Hid (∀ W, Calls Tryz.prog 26 #[.int .u64 5, .int .u8 2] W fun e w' => e = .returned (.agg (recC Wl.s52)) ∧ Below W.heap.size W w') := Lib.hid fun W => state_any 5 2 W
  have HZs : Hid ((Tryz.prog.info? 62).map (·.size) = some (recC Wl.s52).size) := Lib.hid sizeRec
  unfold recC Wl.s52 at HS5 HZs
  have HNm : Hid (∀ W, Below w.heap.size w W → Calls Tryz.prog 22 #[.string ⟨#[115, 101, 103, 46, 48, 48, 48, 48, 48, 48, 48, 55]⟩] W fun e w' => e = .returned (.tuple #[.int .u64 7, .bool true]) ∧ Below W.heap.size W w') := Lib.hid fun W hb => (wnumber_any _ W (HEn.out W hb) (HEf.out W hb) (by decide)).mono fun e w' ⟨v, ok, e1, e2, e3, e4, e5⟩ => by
    cases ok with
    | false => exact absurd Wl.k7_name ((e4 rfl).2 7 (by decide))
    | true =>
      have := Wl.name_inj e2 (show 7 < Nm.top by decide) ((e3 rfl).trans Wl.k7_name.symm)
      subst this
      exact ⟨e1, e5⟩
  have HNs : Hid (∀ W, Below w.heap.size w W → Calls Tryz.prog 22 #[.string ⟨#[115, 101, 103, 46, 55]⟩] W fun e w' => e = .returned (.tuple #[.int .u64 0, .bool false]) ∧ Below W.heap.size W w') := Lib.hid fun W hb => (wnumber_any _ W (HEn.out W hb) (HEf.out W hb) (by decide)).mono fun e w' ⟨v, ok, e1, e2, e3, e4, e5⟩ => by
    cases ok with
    | true => exact absurd (e3 rfl) (Wl.k7_short v e2)
    | false =>
      have := (e4 rfl).1
      subst this
      exact ⟨e1, e5⟩
  have HN7 : Hid (∀ W, Below w.heap.size w W → Calls Tryz.prog 24 #[.int .u64 7] W fun e w' => e = .returned (.string ⟨#[115, 101, 103, 46, 48, 48, 48, 48, 48, 48, 48, 55]⟩) ∧ Below W.heap.size W w') := Lib.hid fun W hb => by
    have h := nameSays 7 W (by decide) (HEn.out W hb)
    rw [Wl.k7_name] at h
    exact h
  have hzt := zeroTable
  have hst := storeTabA
  have hsz := tabA_size
  have hsr := storeRec (recC Wl.s52) rfl (by simp [recC, Value.oneCell'])
  unfold recC Wl.s52 at hsr
  clear K hE hF
  go_enter Tryz.func5, Tryz.ntmps5
  go_wp2_with fail
  refine (HK.out.new _).mono ?_
  rintro e w1 ⟨p, S, rfl, a1, a2, a3⟩
  have H1 := Lib.hid (And.intro a1 (And.intro a2 a3))
  clear a1 a2 a3
  go_wp2_with fail
  refine (make_any _).mono ?_
  rintro e w2 ⟨rfl, hb2⟩
  obtain ⟨tb, htb⟩ : ∃ tb, tb = w2.heap.size := ⟨_, rfl⟩
  have HTB := Lib.hid htb
  have HR0 : Hid (Run At w (w2.alloc (.cells tabA 27)) p tb S Dk.D.new) := Lib.hid (by
    obtain ⟨h1, h2, h3⟩ := H1.out
    have hb3 := bnew hb2 (.cells tabA 27)
    subst htb
    exact ⟨HK.out.below h1 hb3, h2, TabAt.new w2, Nat.le_trans h3.size hb2.size, fun hk => absurd (HK.out.lt h1 _ hk) (Nat.not_lt.2 hb2.size), bnext h3 hb3⟩)
  clear hb2 htb
  go_wp2_with fail
  rw [← HTB.out]
  refine (HS5.out _).mono ?_
  rintro e w4 ⟨rfl, hb4⟩
  have HR4 : Hid (Run At w (w4.alloc (.cells (recC Wl.s52) 62)) p tb S Dk.D.new ∧ Kept (w4.alloc (.cells (recC Wl.s52) 62)) S (some ⟨w4.heap.size, 0, none⟩) (wrs [Wl.s52])) := Lib.hid ⟨HR0.out.more HK.out (bnew hb4 _), Kept.fresh (W := w4) (Lies.new w4 (wrs [Wl.s52]) 62) (fun k hk => (HR0.out.more HK.out hb4).lt HK.out k hk) (fun b off e => by injection e with e; injection e with e1; omega)⟩
  clear hb4
  obtain ⟨b3, hb3⟩ : ∃ b3, b3 = w4.heap.size := ⟨_, rfl⟩
  have HB3 := Lib.hid hb3
  rw [← hb3] at HR4
  clear hb3
  go_wp2_with fail
  rw [← HB3.out]
  refine (HNm.out _ HR4.out.1.bel).mono ?_
  rintro e w5 ⟨rfl, hb5⟩
  have HR5 : Hid (Run At w w5 p tb S Dk.D.new ∧ Kept w5 S (some ⟨b3, 0, none⟩) (wrs [Wl.s52])) := Lib.hid ⟨HR4.out.1.more HK.out hb5, HR4.out.2.below hb5⟩
  clear hb5
  go_wp2_with fail
  refine (HNs.out _ HR5.out.1.bel).mono ?_
  rintro e w6 ⟨rfl, hb6⟩
  have HR6 : Hid (Run At w w6 p tb S Dk.D.new ∧ Kept w6 S (some ⟨b3, 0, none⟩) (wrs [Wl.s52])) := Lib.hid ⟨HR5.out.1.more HK.out hb6, HR5.out.2.below hb6⟩
  have hg6 := kept_rng HR6.out.2
  unfold recC Wl.s52 at hg6
  have HG6 := Lib.hid (And.intro hg6 HR6.out.2.lies)
  clear hb6 hg6
  go_wp2_with (refine wpList_load_rng rfl 62 _ rfl b3 0 rfl _ _ HG6.out.1 Tryz.underlying62 rfl HZs.out ?_)
  have HR7 : Hid (Run At w (w6.alloc (.cells (wrs [Wl.s52]).toArray 62)) p tb S Dk.D.new ∧ Kept (w6.alloc (.cells (wrs [Wl.s52]).toArray 62)) S (some ⟨b3, 0, none⟩) (wrs [Wl.s52])) := Lib.hid ⟨HR6.out.1.more HK.out (bnew (Below.refl _ _) _), HR6.out.2.below (bnew (Below.refl _ _) _)⟩
  have hB1 := begin_any HK.out nameSays (w6.alloc (.cells (wrs [Wl.s52]).toArray 62)) p tb 1 0 S Dk.D.new [Wl.s52] (some ⟨w6.heap.size, 0, none⟩) 1 (HEn.out _ HR7.out.1.bel) (by decide) (by decide) HR7.out.1.tab HR7.out.1.at_ (Lies.new w6 (wrs [Wl.s52]) 62) Wl.s52_ok (by decide +kernel)
  refine hB1.mono ?_
  rintro e w8 ⟨v, rfl, hq, _, _⟩
  obtain ⟨q, rfl, hlg, hqW⟩ := hq Wl.k1_ok
  obtain ⟨S8, hr8, hm8⟩ := HR7.out.1.logged hlg hqW
  have HR8 : Hid (RunL At w w8 p tb q 1 0 S8 Wl.k1.2 ∧ Kept w8 (atQ S8 q) (some ⟨b3, 0, none⟩) (wrs [Wl.s52])) := Lib.hid ⟨hr8, HR7.out.2.moved hm8⟩
  have hno : (Wl.begins Dk.D.new 1 0 [Wl.s52]).1.no = 0 := by
    have := Wl.k1_ok
    unfold Wl.k1 at this
    rw [this]; rfl
  rw [hno]
  clear hno hq hlg hqW hr8 hm8 hB1 HR7 HR6 HR5 HR4 HR0 H1 HG6
  go_wp2_with fail
  refine (HN7.out _ HR8.out.1.bel).mono ?_
  rintro e w9 ⟨rfl, hb9⟩
  have HR9 : Hid (RunL At w w9 p tb q 1 0 S8 Wl.k1.2 ∧ Kept w9 (atQ S8 q) (some ⟨b3, 0, none⟩) (wrs [Wl.s52])) := Lib.hid ⟨HR8.out.1.more HK.out hb9, HR8.out.2.below hb9⟩
  clear hb9 HR8
  go_wp2_with fail
  have hrd := wread_any HK.out nameSays w9 p tb 1 S8 Wl.k1.2 (HEn.out _ HR9.out.1.bel) (by decide) HR9.out.1.tab HR9.out.1.at_
  rw [Wl.k1_read] at hrd
  refine hrd.mono ?_
  rintro e w10 ⟨A, cap, rfl, hl10, _, _, hb10⟩
  have HR10 : Hid (RunL At w w10 p tb q 1 0 S8 Wl.k1.2 ∧ Kept w10 (atQ S8 q) (some ⟨b3, 0, none⟩) (wrs [Wl.s52]) ∧ Lies w10 A (wrs [Wl.s52])) := Lib.hid ⟨HR9.out.1.more HK.out hb10, HR9.out.2.below hb10, hl10⟩
  clear hrd hl10 hb10 HR9
  simp only [eno]
  go_wp2_with fail
  refine (segs_one HK.out _ _ _ _ HR10.out.1.at_ 1 (by decide) Wl.k1_list (HEn.out _ HR10.out.1.bel) (HEf.out _ HR10.out.1.bel)).mono ?_
  rintro e w11 ⟨gg, cg, rfl, hcg, hlg, hb11⟩
  have HR11 : Hid (RunL At w w11 p tb q 1 0 S8 Wl.k1.2 ∧ Kept w11 (atQ S8 q) (some ⟨b3, 0, none⟩) (wrs [Wl.s52]) ∧ Lies w11 A (wrs [Wl.s52]) ∧ gg < w11.heap.size) := Lib.hid ⟨HR10.out.1.more HK.out hb11, HR10.out.2.1.below hb11, HR10.out.2.2.below hb11, hlg⟩
  clear hb11 hlg HR10
  have hcg2 : w11.cell? ⟨gg, 0, none⟩ = some (.int .u64 1) := hcg
  obtain ⟨bb, oo, hAe, hP⟩ := HR11.out.2.2.1.recd 0 (by decide)
  subst hAe
  have hYa := hP.rng
  have hbl := hP.lt
  rw [Nat.zero_mul, Nat.add_zero] at hYa
  have hYa : w11.rangeAt bb oo (recC Wl.s52).toList := hYa
  have hYb := kept_rng HR11.out.2.1
  have hb3l : b3 < w11.heap.size := by
    obtain ⟨x, y, e, hP3⟩ := HR11.out.2.1.lies.recd 0 (by decide)
    injection e with e
    injection e with e1
    rw [e1]; exact hP3.lt
  have hgl := HR11.out.2.2.2
  have hcgA := fun d os => ((below_regrown w11 d os).cell (p := ⟨gg, 0, none⟩) hgl).trans hcg2
  have hne : ∀ W, (binOp .neq 62 (.agg (recC Wl.s52)) (.agg (recC Wl.s52))).run Tryz.prog W = .ok (.bool false) W := fun W => by
    have := rec_neq Wl.s52 Wl.s52 W
    simpa using this
  have HYz : Hid ((Tryz.prog.info? 62).map (·.size) = some (recC Wl.s52).size) := Lib.hid sizeRec
  have HYa := Lib.hid hYa
  have HYb := Lib.hid hYb
  clear hYa hYb hP hcg
  generalize recC Wl.s52 = Y at hne HYz HYa HYb
  go_wp2_with fail
  refine wp_region_quiet_below (by kernel_rfl) (by kernel_rfl) ?_
  repeat (first | (refine wpQuiet_load_rng rfl 62 _ rfl bb oo rfl Y _ hbl HYa.out Tryz.underlying62 rfl HYz.out ?_; (conv => arg 6; simp [Act.put])) | (refine wpQuiet_load_rng rfl 62 _ rfl b3 0 rfl Y _ hb3l HYb.out Tryz.underlying62 rfl HYz.out ?_; (conv => arg 6; simp [Act.put])) | (go_big_quiet_step (fail)))
  refine wpQuiet_nil ?_
  intro _ hw'
  obtain ⟨pq, hw''⟩ := hw'
  subst hw''
  have hb12 := below_regrown w11 pq.d pq.os
  generalize Go.Sort.grow (redrawn w11 pq.d) pq.os = w12 at *
  have HR12 : Hid (RunL At w w12 p tb q 1 0 S8 Wl.k1.2 ∧ Kept w12 (atQ S8 q) (some ⟨b3, 0, none⟩) (wrs [Wl.s52])) := Lib.hid ⟨HR11.out.1.more HK.out hb12, HR11.out.2.1.below hb12⟩
  clear hb12 hne HYz HYa HYb hcg2 hcgA HR11
  have hg12 := kept_rng HR12.out.2
  unfold recC Wl.s52 at hg12
  have HG12 := Lib.hid hg12
  clear hg12
  have hb12l : b3 < w12.heap.size := by
    obtain ⟨x, y, e, hP3⟩ := HR12.out.2.lies.recd 0 (by decide)
    injection e with e
    injection e with e1
    rw [e1]; exact hP3.lt
  go_wp2_with (refine wpList_load_rng rfl 62 _ rfl b3 0 rfl _ _ HG12.out Tryz.underlying62 rfl HZs.out ?_)
  have HR13 : Hid (RunL At w (w12.alloc (.cells (wrs [Wl.s52, Wl.s52]).toArray 62)) p tb q 1 0 S8 Wl.k1.2 ∧ Kept (w12.alloc (.cells (wrs [Wl.s52, Wl.s52]).toArray 62)) (atQ S8 q) (some ⟨b3, 0, none⟩) (wrs [Wl.s52])) := Lib.hid ⟨HR12.out.1.more HK.out (bnew (Below.refl _ _) _), HR12.out.2.below (bnew (Below.refl _ _) _)⟩
  have hA1 := add_any HK.out nameSays (w12.alloc (.cells (wrs [Wl.s52, Wl.s52]).toArray 62)) q p 1 0 S8 Wl.k1.2 [Wl.s52, Wl.s52] (some ⟨w12.heap.size, 0, none⟩) 2 (HEn.out _ HR13.out.1.bel) (by decide) HR13.out.1.log HR13.out.1.at_ HR13.out.1.nq (Lies.new w12 (wrs [Wl.s52, Wl.s52]) 62) s2_ok (by have := Wl.k1_load; have e : Wl.cost ([Wl.s52, Wl.s52].map Wl.text) ≤ 1000 := (by decide +kernel); omega) (by decide)
  refine hA1.mono ?_
  rintro e w14 ⟨rfl, hlg⟩
  have hk2 : (Wl.add Wl.k1.2 1 [Wl.s52, Wl.s52]).1 = .ok := Wl.k2_ok
  rw [hk2] at hlg ⊢
  obtain ⟨S14, hr14, hm14⟩ := HR13.out.1.logged hlg
  have HR14 : Hid (RunL At w w14 p tb q 1 2 S14 Wl.k2.2 ∧ Kept w14 (atQ S14 q) (some ⟨b3, 0, none⟩) (wrs [Wl.s52])) := Lib.hid ⟨hr14, HR13.out.2.moved hm14⟩
  clear hlg hr14 hm14 hk2 hA1 HR13 HR12 HG12
  simp only [eno]
  go_wp2_with fail
  refine (behind_any w14 q p 1 2 HR14.out.1.log).mono ?_
  rintro e w15 ⟨rfl, rfl⟩
  have hg14 := kept_rng HR14.out.2
  unfold recC Wl.s52 at hg14
  have HG14 := Lib.hid hg14
  clear hg14
  have hb14l : b3 < w14.heap.size := by
    obtain ⟨x, y, e, hP3⟩ := HR14.out.2.lies.recd 0 (by decide)
    injection e with e
    injection e with e1
    rw [e1]; exact hP3.lt
  go_wp2_with (refine wpList_load_rng rfl 62 _ rfl b3 0 rfl _ _ HG14.out Tryz.underlying62 rfl HZs.out ?_)
  have HR16 : Hid (RunL At w (w14.alloc (.cells (wrs [Wl.s52, Wl.r9]).toArray 62)) p tb q 1 2 S14 Wl.k2.2 ∧ Kept (w14.alloc (.cells (wrs [Wl.s52, Wl.r9]).toArray 62)) (atQ S14 q) (some ⟨b3, 0, none⟩) (wrs [Wl.s52])) := Lib.hid ⟨HR14.out.1.more HK.out (bnew (Below.refl _ _) _), HR14.out.2.below (bnew (Below.refl _ _) _)⟩
  have hA2 := add_any HK.out nameSays (w14.alloc (.cells (wrs [Wl.s52, Wl.r9]).toArray 62)) q p 1 2 S14 Wl.k2.2 [Wl.s52, Wl.r9] (some ⟨w14.heap.size, 0, none⟩) 2 (HEn.out _ HR16.out.1.bel) (by decide) HR16.out.1.log HR16.out.1.at_ HR16.out.1.nq (Lies.new w14 (wrs [Wl.s52, Wl.r9]) 62) r9_ok (by have := Wl.k2_load; have e : Wl.cost ([Wl.s52, Wl.r9].map Wl.text) ≤ 1000 := (by decide +kernel); omega) (by decide)
  rw [Wl.k3_arg] at hA2
  refine hA2.mono ?_
  rintro e w17 ⟨rfl, hlg⟩
  obtain ⟨S17, hr17, hm17⟩ := HR16.out.1.logged hlg
  have HR17 : Hid (RunL At w w17 p tb q 1 2 S17 Wl.k2.2 ∧ Kept w17 (atQ S17 q) (some ⟨b3, 0, none⟩) (wrs [Wl.s52])) := Lib.hid ⟨hr17, HR16.out.2.moved hm17⟩
  clear hlg hr17 hm17 hA2 HR16 HR14 HG14
  simp only [eno]
  go_wp2_with fail
  have hB4 := begin_any HK.out nameSays w17 p tb 1 0 S17 Wl.k2.2 [] none 0 (HEn.out _ HR17.out.1.bel) (by decide) (by decide) HR17.out.1.tab HR17.out.1.at_ (.inl rfl) ⟨fun r hr => (by cases hr), Nat.zero_le _⟩ (by have := Wl.k2_load; have e : Wl.cost (([] : List Wl.R).map Wl.text) = 0 := rfl; omega)
  rw [Wl.k4_there] at hB4
  refine hB4.mono ?_
  rintro e w18 ⟨v, rfl, _, hv, hn18⟩
  obtain rfl := hv (fun h => by cases h)
  obtain ⟨S18, hr18, hm18⟩ := HR17.out.1.step hn18
  have HR18 : Hid (RunL At w w18 p tb q 1 2 S18 Wl.k2.2 ∧ Kept w18 (atQ S18 q) (some ⟨b3, 0, none⟩) (wrs [Wl.s52])) := Lib.hid ⟨hr18, HR17.out.2.moved hm18⟩
  clear hB4 hv hn18 hr18 hm18 HR17
  simp only [Wl.Er.no, eno]
  go_wp2_with fail
  have HR19 : Hid (RunL At w (w18.alloc (.cells (wrs [Wl.rx]).toArray 62)) p tb q 1 2 S18 Wl.k2.2 ∧ Kept (w18.alloc (.cells (wrs [Wl.rx]).toArray 62)) (atQ S18 q) (some ⟨b3, 0, none⟩) (wrs [Wl.s52])) := Lib.hid ⟨HR18.out.1.more HK.out (bnew (Below.refl _ _) _), HR18.out.2.below (bnew (Below.refl _ _) _)⟩
  have hB5 := begin_any HK.out nameSays (w18.alloc (.cells (wrs [Wl.rx]).toArray 62)) p tb 2 0 S18 Wl.k2.2 [Wl.rx] (some ⟨w18.heap.size, 0, none⟩) 1 (HEn.out _ HR19.out.1.bel) (by decide) (by decide) HR19.out.1.tab HR19.out.1.at_ (Lies.new w18 (wrs [Wl.rx]) 62) rx_ok (by have := Wl.k2_load; have e : Wl.cost ([Wl.rx].map Wl.text) ≤ 1000 := (by decide +kernel); omega)
  rw [Wl.k5_arg] at hB5
  refine hB5.mono ?_
  rintro e w20 ⟨v, rfl, _, hv, hn20⟩
  obtain rfl := hv (fun h => by cases h)
  obtain ⟨S20, hr20, hm20⟩ := HR19.out.1.step hn20
  have HR20 : Hid (RunL At w w20 p tb q 1 2 S20 Wl.k2.2 ∧ Kept w20 (atQ S20 q) (some ⟨b3, 0, none⟩) (wrs [Wl.s52])) := Lib.hid ⟨hr20, HR19.out.2.moved hm20⟩
  clear hB5 hv hn20 hr20 hm20 HR19 HR18
  simp only [Wl.Er.no, eno]
  go_wp2_with fail
  refine (begin_nod _ _ _ _ _).mono ?_
  rintro e w21 ⟨rfl, rfl⟩
  go_wp2_with fail
  refine (begin_notab _ _ _ _ _).mono ?_
  rintro e w22 ⟨rfl, rfl⟩
  go_wp2_with fail
  have hrd := wread_any HK.out nameSays w20 p tb 9 S20 Wl.k2.2 (HEn.out _ HR20.out.1.bel) (by decide) HR20.out.1.tab HR20.out.1.at_
  rw [Wl.k6_none] at hrd
  refine hrd.mono ?_
  rintro e w23 ⟨A9, cap9, rfl, _, _, _, hb23⟩
  have HR23 : Hid (RunL At w w23 p tb q 1 2 S20 Wl.k2.2 ∧ Kept w23 (atQ S20 q) (some ⟨b3, 0, none⟩) (wrs [Wl.s52])) := Lib.hid ⟨HR20.out.1.more HK.out hb23, HR20.out.2.below hb23⟩
  clear hrd hb23 HR20
  simp only [eno, List.length_nil]
  go_wp2_with fail
  refine (wread_nod _ _ _).mono ?_
  rintro e w24 ⟨rfl, rfl⟩
  go_wp2_with fail
  refine (nameSays 1 w23 (by decide) (HEn.out _ HR23.out.1.bel)).mono ?_
  rintro e w25 ⟨rfl, hb25⟩
  have HR25 : Hid (RunL At w w25 p tb q 1 2 S20 Wl.k2.2 ∧ Kept w25 (atQ S20 q) (some ⟨b3, 0, none⟩) (wrs [Wl.s52])) := Lib.hid ⟨HR23.out.1.more HK.out hb25, HR23.out.2.below hb25⟩
  clear hb25 HR23
  go_wp2_with fail
  have hrd := HK.out.read w25 p S20 Wl.k2.2 (Wl.name 1) HR25.out.1.at_ (by decide +kernel)
  rw [Wl.k6_text] at hrd
  refine hrd.mono ?_
  rintro e w26 ⟨rfl, hb26⟩
  have HR26 : Hid (RunL At w w26 p tb q 1 2 S20 Wl.k2.2 ∧ Kept w26 (atQ S20 q) (some ⟨b3, 0, none⟩) (wrs [Wl.s52])) := Lib.hid ⟨HR25.out.1.more HK.out hb26, HR25.out.2.below hb26⟩
  clear hrd hb26 HR25
  have hC := kept_cells HR26.out.2
  simp only [Wl.s52, En.zero, Og.Tk.zero] at hC
  obtain ⟨c0, c1, c2, c3, c4, c5, c6, c7, c8, c9, c10, c11, c12, c13, c14, c15⟩ := hC
  have hb26l : b3 < w26.heap.size := by
    obtain ⟨x, y, e, hP3⟩ := HR26.out.2.lies.recd 0 (by decide)
    injection e with e
    injection e with e1
    rw [e1]; exact hP3.lt
  simp only [eno]
  clear HZs hsr hzt hst hsz
  go_wp2_with fail
  refine (behind_any w26 q p 1 2 HR26.out.1.log).mono ?_
  rintro e w27 ⟨rfl, rfl⟩
  go_wp2_with fail
  refine (add_nolog _ _).mono ?_
  rintro e w27 ⟨rfl, rfl⟩
  go_wp2_with (refine wpList_built rfl 74 _ rfl logZ (by kernel_rfl) ?_)
  refine (add_zero _ _ _ (log_zero_at _ _ _)).mono ?_
  rintro e w28 ⟨rfl, rfl⟩
  have HB28 : Hid (Below w.heap.size w (((w26.alloc _).alloc _).alloc _)) := Lib.hid (bnew (bnew (bnew HR26.out.1.bel (.cells (wr1 Wl.s52).toArray 62)) (.cells Tryz.zeroCells74 74)) (.cells (wr1 Wl.s52).toArray 62))
  go_wp2_with fail
  refine (logN_nil _).mono ?_
  rintro e w28 ⟨rfl, rfl⟩
  go_wp2_with fail
  refine (behind_nil _).mono ?_
  rintro e w28 ⟨rfl, rfl⟩
  go_wp2_with fail
  refine (segs_nil _).mono ?_
  rintro e w28 ⟨rfl, rfl⟩
  have x1 := kx1
  have x2 := kx2
  go_wp2_with fail
  refine (HAw.out _ HB28.out).mono ?_
  rintro e w29 ⟨rfl, hb29⟩
  go_wp2_with fail
  go_ret
  exact ⟨rfl, bnext HB28.out hb29⟩
end
end Go.Proofs.YtdcjhpnakbejkaaGreatDoor
