/-
  What the rows' lists of variables give: the powers of ten, and the two errors; and a state in which they lie.
  What lies in a file.
  put walked.
  A look into the disk's map; begin, Delete, Sync walked.
  The program's disk in memory: a file laid in, a file taken out.
  Sync, Delete walked.
-/
import Derived.Test.YtjhbpcecdhdnoaaGreatDoorRWwNumbZ
import Derived.Test.YtjhbpcecdhdnoaaGreatDoorRows
import Derived.Test.YtjhbpcecdhdnoaaGreatDoorRDmFZ
import Derived.Test.YtjhbpcecdhdnoaaGreatDoorRWwCZ
import Derived.Stop.LaidErr
import Derived.LaidMore
import Derived.Stop.Joined
import Derived.Deep.RegionLaw
set_option linter.unusedSimpArgs false
set_option linter.unusedVariables false
namespace Go.Proofs.YtjhbpcecdhdnoaaGreatDoor
open Go.ChangeShapes Go.WideShapes Go.ChangeAt Go.RowKit
set_option maxRecDepth 100000 in
theorem door9 (os : Os) (args : Array Value) : laidMetH Tryz.prog Rows.stableAfterRow.laid ((World.doorLaid Tryz.prog 62 os).forCall (fun _ _ => 0) ⟨#[], args, []⟩).memory :=
  laidMetH_of_parts3 (fuel := 8) (laidMet_of_run' 8 (by kernel_rfl) (by kernel_rfl)) (by kernel_rfl) (by kernel_rfl)
theorem envT_of {r : List (String × DataW Unit)} {W : World} (h : laidMet Tryz.prog (("internal/strconv.uint64pow10", Rows.laid_internal_strconv_uint64pow10) :: r) W) : EnvT W := by
  have hd : (Rows.laid_internal_strconv_uint64pow10 : DataW Unit) = Lib.tabData .u64 Lib.pow10Tab := by kernel_rfl
  rw [hd] at h
  exact Lib.tabIs_of_head gPow (by kernel_rfl) Tryz.underlying293 Tryz.underlying38 (by kernel_rfl) (by kernel_rfl) h
theorem star8 : ("*errors.errorString" : String) = "*" ++ "errors.errorString" := by decide
theorem err_row (u : TypeId) (h : Tryz.prog.typeName? 3 u = some "*errors.errorString") : u = 304 :=
  typeName_ptr_named (nm := "errors.errorString") (by rw [← star8]; kernel_rfl) (by kernel_rfl) (by decide) u (by rw [← star8]; exact h)
theorem env9 {W : World} (h : laidMetH Tryz.prog Rows.stableAfterRow.laid W) : EnvT W ∧ EnvE W := by
  rw [MakeChecks.laidMetH_plain _ _ _ (by kernel_rfl)] at h
  have h3 := laidMet.tail (laidMet.tail h)
  have h4 := laidMet.tail h3
  obtain ⟨a1, _, hv1, _⟩ := laid_sentinel h4 gRng (by kernel_rfl) Tryz.underlying179 err_row Tryz.underlying304 Tryz.underlying306 rfl rfl Tryz.underlying9 (by kernel_rfl) (by kernel_rfl)
  obtain ⟨a2, _, hv2, _⟩ := laid_sentinel (laidMet.tail h4) gSyn (by kernel_rfl) Tryz.underlying179 err_row Tryz.underlying304 Tryz.underlying306 rfl rfl Tryz.underlying9 (by kernel_rfl) (by kernel_rfl)
  exact ⟨envT_of h3, _, _, _, _, hv2, hv1⟩
end Go.Proofs.YtjhbpcecdhdnoaaGreatDoor
namespace Go.Proofs.YtjhbpcecdhdnoaaGreatDoor
open Go.RowKit
theorem FAt.below {W W' : World} {h : Hm} {B : Nat} (hf : FAt W h) (hb : Below B W W') (hB : W.heap.size ≤ B) : FAt W' h := hf.kept fun k hk => hb.block k (Nat.lt_of_lt_of_le (hf.lt hk) hB)
end Go.Proofs.YtjhbpcecdhdnoaaGreatDoor
namespace Go.Proofs.YtjhbpcecdhdnoaaGreatDoor
open Go.RowKit
theorem us : Tryz.prog.underlying 9 = some .string := Tryz.underlying9
set_option maxRecDepth 100000 in
set_option maxHeartbeats 1000000 in
theorem dput_any (W : World) (p mb left : Nat) (off : Bool) (l : Sm.Row) (hh : HAt W p mb left off) (hm : SMap Tryz.prog 9 W mb l) (hn : l.length < maxLen) (s : ByteArray) (hs : s.size ≤ 100000000) (g : Nat) :
    Calls Tryz.prog 70 #[.pointer (some ⟨p, 0, none⟩), .string s, .pointer (some ⟨g, 0, none⟩)] W fun e w' => e = .returned (.tuple #[]) ∧ SMap Tryz.prog 9 w' mb (Sm.put l s (.pointer (some ⟨g, 0, none⟩))) ∧ Ko (atB mb) W w' := by
  have c0 := hh.c0
  have HC := Lib.hid (fun W => stringsClone_any s W (by omega))
  have HM : Hid (∀ w1, Below W.heap.size W w1 → w1.cell? ⟨p, 0, none⟩ = some (.map (some mb)) ∧ ∃ w2, (Instr.mapUpdate 118 (.map (some mb)) (.string s) (.pointer (some ⟨g, 0, none⟩))).run Tryz.prog w1 = .ok () w2 ∧ SMap Tryz.prog 9 w2 mb (Sm.put l s (.pointer (some ⟨g, 0, none⟩))) ∧ Ko (atB mb) W w2) := Lib.hid fun w1 hb => by
    refine ⟨later hb c0, ?_⟩
    obtain ⟨w2, h1, h2, h3, h4⟩ := SMap.store (e := 140) us Tryz.underlying118 (hm.kept (hb.block _ hm.lt)) hn s (by simp only [maxLen]; omega) (.pointer (some ⟨g, 0, none⟩))
    refine ⟨w2, h1, h2, (Ko.bel (S := atB mb) hb).trans (T := atB mb) ⟨h3.os, h3.tape, h3.output, h3.size, fun k hk hne => h3.block k hk fun he => hne (by injection he)⟩ fun _ hk => .inl hk⟩
  clear hh hm hn hs
  go_enter Tryz.func70, Tryz.ntmps70
  go_wp2_with fail
  go_region_with (go_at_call 82; refine (HC.out _).mono ?_; rintro e w1 ⟨rfl, hb1⟩; obtain ⟨k0, w2, hrun, hm2, hk2⟩ := HM.out w1 (bnext (below_drew (Below.refl _ _)) hb1); have HE := Lib.hid (And.intro hm2 hk2); clear hm2 hk2 hb1)
  all_goals go_wp2_with fail
  all_goals go_end0
  all_goals exact ⟨rfl, HE.out.1, HE.out.2⟩
end Go.Proofs.YtjhbpcecdhdnoaaGreatDoor
namespace Go.Proofs.YtjhbpcecdhdnoaaGreatDoor
open Go.RowKit
theorem zero_file (W : World) : (zeroValue 140).run Tryz.prog W = .ok (.pointer none) W := by kernel_rfl
theorem map_look {W : World} {mb : Nat} {hs : List Hm} (hm : SMap Tryz.prog 9 W mb (hs.map pair)) (n : ByteArray) (hn : n.size ≤ 100000000) :
    (Instr.lookup 118 (.map (some mb)) (.string n) false).run Tryz.prog W = .ok (((hfind hs n).map fun h => Value.pointer (some ⟨h.b, 0, none⟩)).getD (.pointer none)) W := by
  have := SMap.look (e := 140) false us Tryz.underlying118 hm (zero_file W) n (by simp only [maxLen]; omega)
  rw [lk_pairs] at this
  exact this
theorem look_none {W : World} {mb : Nat} {hs : List Hm} (hm : SMap Tryz.prog 9 W mb (hs.map pair)) (n : ByteArray) (hn : n.size ≤ 100000000) (h : hfind hs n = none) :
    (Instr.lookup 118 (.map (some mb)) (.string n) false).run Tryz.prog W = .ok (.pointer none) W := by
  rw [map_look hm n hn, h]; rfl
theorem look_some {W : World} {mb : Nat} {hs : List Hm} (hm : SMap Tryz.prog 9 W mb (hs.map pair)) (n : ByteArray) (hn : n.size ≤ 100000000) {g : Hm} (h : hfind hs n = some g) :
    (Instr.lookup 118 (.map (some mb)) (.string n) false).run Tryz.prog W = .ok (.pointer (some ⟨g.b, 0, none⟩)) W := by
  rw [map_look hm n hn, h]; rfl
set_option maxRecDepth 100000 in
theorem dbegin_off (W : World) (p mb : Nat) (hs : List Hm) (d : Dk.D) (h : DkS W p mb hs d) (ho : d.off = true) (n : ByteArray) :
    Calls Tryz.prog 160 #[.pointer (some ⟨p, 0, none⟩), .string n] W fun e w' => e = .returned (.tuple #[.pointer none, .int .i64 7]) ∧ W = w' := by
  have H := Lib.hid (power_any W p mb _ _ h.head)
  rw [ho, if_pos rfl] at H
  clear h ho
  go_enter Tryz.func160, Tryz.ntmps160
  go_wp2_with fail
  refine (H.out).mono ?_
  rintro e w1 ⟨rfl, rfl⟩
  go_wp2_with fail
  go_ret2
  exact ⟨rfl, rfl⟩
set_option maxRecDepth 100000 in
theorem dbegin_none (W : World) (p mb : Nat) (hs : List Hm) (d : Dk.D) (h : DkS W p mb hs d) (ho : d.off = false) (n : ByteArray) (hn : n.size ≤ 100000000) (hf : hfind hs n = none) :
    Calls Tryz.prog 160 #[.pointer (some ⟨p, 0, none⟩), .string n] W fun e w' => e = .returned (.tuple #[.pointer none, .int .i64 4]) ∧ W = w' := by
  have H := Lib.hid (power_any W p mb _ _ h.head)
  rw [ho, if_neg (by decide)] at H
  have hl := look_none h.map n hn hf
  have c0 := h.head.c0
  clear h ho hf hn
  go_enter Tryz.func160, Tryz.ntmps160
  go_wp2_with fail
  refine (H.out).mono ?_
  rintro e w1 ⟨rfl, rfl⟩
  go_wp2_with fail
  go_ret2
  exact ⟨rfl, rfl⟩
set_option maxRecDepth 100000 in
theorem dbegin_some (W : World) (p mb : Nat) (hs : List Hm) (d : Dk.D) (h : DkS W p mb hs d) (ho : d.off = false) (n : ByteArray) (hn : n.size ≤ 100000000) (g : Hm) (hf : hfind hs n = some g) :
    Calls Tryz.prog 160 #[.pointer (some ⟨p, 0, none⟩), .string n] W fun e w' => e = .returned (.tuple #[.pointer (some ⟨g.b, 0, none⟩), .int .i64 (goesV d.left)]) ∧ HAt w' p mb (d.left - 1) (decide (d.left = 1)) ∧ Ko (atB p) W w' := by
  have H := Lib.hid (power_any W p mb _ _ h.head)
  have hh := h.head
  rw [ho] at hh
  have HB := Lib.hid (burn_any W p mb d.left hh h.left)
  rw [ho, if_neg (by decide)] at H
  have hl := look_some h.map n hn hf
  have c0 := h.head.c0
  clear h ho hf hn hh
  go_enter Tryz.func160, Tryz.ntmps160
  go_wp2_with fail
  refine (H.out).mono ?_
  rintro e w1 ⟨rfl, rfl⟩
  go_wp2_with fail
  refine (HB.out).mono ?_
  rintro e w1 ⟨rfl, h1, h2⟩
  go_wp2_with fail
  go_ret2
  exact ⟨rfl, h1, h2⟩
end Go.Proofs.YtjhbpcecdhdnoaaGreatDoor
namespace Go.Proofs.YtjhbpcecdhdnoaaGreatDoor
open Go.RowKit
section
variable {W W' : World} {p mb : Nat} {hs : List Hm} {d d' : Dk.D} {S S0 : Nat → Prop} {g' : Hm}
theorem DkS.put (h : DkS W p mb hs d) (hk : Ko S W W') (hS : ∀ k, S k → k = p ∨ k = mb ∨ ∀ x ∈ hs, x.f.name ≠ g'.f.name → ¬ x.Blk k) (hh : HAt W' p mb d'.left d'.off) (hm : SMap Tryz.prog 9 W' mb ((hput hs g').map pair)) (hf : FAt W' g')
    (hb : ∀ k, g'.Blk k → ∀ x ∈ hs, x.f.name ≠ g'.f.name → ¬ x.Blk k) (he : d'.files = Dk.put d.files g'.f) (hi : Dk.Inv d') (hl : Dk.load d' ≤ 100000000) (hlt : d'.left ≤ 9223372036854775807) : DkS W' p mb (hput hs g') d' := by
  have hr := h.rises
  refine ⟨hh, hm, fun x hx => ?_, by rw [hput_f, he, h.fs], fun x hx y hy k h1 h2 => ?_, hi, hl, hlt⟩
  · rcases mem_hput hr hx with rfl | ⟨hx, hne⟩
    · exact hf
    · refine (h.ok x hx).ko hk fun k hxk hsk => ?_
      rcases hS k hsk with rfl | rfl | h3
      · exact h.pb hx hxk
      · exact h.mapb hx hxk
      · exact h3 x hx hne hxk
  · rcases mem_hput hr hx with ex | ⟨hx', hne⟩
    · rcases mem_hput hr hy with ey | ⟨hy', hne⟩
      · rw [ex, ey]
      · rw [ex] at h1
        exact absurd h2 (hb k h1 y hy' hne)
    · rcases mem_hput hr hy with ey | ⟨hy', hne2⟩
      · rw [ey] at h2
        exact absurd h1 (hb k h2 x hx' hne)
      · exact h.sep x hx' y hy' k h1 h2
theorem DkS.dropped (h : DkS W p mb hs d) (n : ByteArray) (hk : Ko S W W') (hS : ∀ k, S k → k = p ∨ k = mb) (hh : HAt W' p mb d'.left d'.off) (hm : SMap Tryz.prog 9 W' mb ((hdrop hs n).map pair))
    (he : d'.files = Dk.drop d.files n) (hi : Dk.Inv d') (hl : Dk.load d' ≤ 100000000) (hlt : d'.left ≤ 9223372036854775807) : DkS W' p mb (hdrop hs n) d' := by
  refine ⟨hh, hm, fun x hx => ?_, by rw [hdrop_f, he, h.fs], fun x hx y hy k h1 h2 => h.sep x (mem_hdrop hx).1 y (mem_hdrop hy).1 k h1 h2, hi, hl, hlt⟩
  have hx := (mem_hdrop hx).1
  refine (h.ok x hx).ko hk fun k hxk hsk => ?_
  rcases hS k hsk with rfl | rfl
  · exact h.pb hx hxk
  · exact h.mapb hx hxk
theorem now_put (h : DkS W p mb hs d) (h0 : ∀ k, S0 k ↔ Bks p mb hs k) (h' : DkS W' p mb (hput hs g') d') (hk : Ko S W W') (hS : ∀ k, k < W.heap.size → S k → S0 k) (hb : ∀ k, g'.Blk k → S0 k ∨ W.heap.size ≤ k) : Now DmAt W W' p S0 d' := by
  refine ⟨⟨_, DmAt.mk h', fun k hk => ?_⟩, hk.mono hS⟩
  rcases hk with rfl | rfl | ⟨x, hx, hxk⟩
  · exact .inl ((h0 _).2 (.inl rfl))
  · exact .inl ((h0 _).2 (.inr (.inl rfl)))
  · rcases mem_hput h.rises hx with rfl | ⟨hx, _⟩
    · exact hb k hxk
    · exact .inl ((h0 _).2 (.inr (.inr ⟨x, hx, hxk⟩)))
theorem now_drop {n : ByteArray} (h0 : ∀ k, S0 k ↔ Bks p mb hs k) (h' : DkS W' p mb (hdrop hs n) d') (hk : Ko S W W') (hS : ∀ k, k < W.heap.size → S k → S0 k) : Now DmAt W W' p S0 d' := by
  refine ⟨⟨_, DmAt.mk h', fun k hk => ?_⟩, hk.mono hS⟩
  rcases hk with rfl | rfl | ⟨x, hx, hxk⟩
  · exact .inl ((h0 _).2 (.inl rfl))
  · exact .inl ((h0 _).2 (.inr (.inl rfl)))
  · exact .inl ((h0 _).2 (.inr (.inr ⟨x, (mem_hdrop hx).1, hxk⟩)))
theorem hput_pair {g : Hm} (hr : Dk.Rises (hs.map (·.f))) (hg : g ∈ hs) (hn : g'.f.name = g.f.name) (hb : g'.b = g.b) : (hput hs g').map pair = hs.map pair := by
  induction hs with
  | nil => cases hg
  | cons x xs ih =>
    obtain ⟨h1, h2⟩ := hr
    have h1' : ∀ y ∈ xs, Dk.lt x.f.name y.f.name := fun y hy => h1 y.f (List.mem_map.2 ⟨y, hy, rfl⟩)
    unfold hput
    rcases List.mem_cons.1 hg with rfl | hg
    · rw [if_pos hn.symm, List.map_cons, List.map_cons]
      congr 1
      unfold pair
      rw [hn, hb]
    · have h3 := h1' g hg
      have hne : x.f.name ≠ g'.f.name := fun e => Dk.lt_irrefl g.f.name (by rw [e, hn] at h3; exact h3)
      have hnl : ¬ Dk.lt g'.f.name x.f.name := fun e => by rw [hn] at e; exact Dk.lt_irrefl _ (Dk.lt_trans e h3)
      rw [if_neg hne, if_neg hnl, List.map_cons, List.map_cons, ih h2 hg]
theorem DkS.file {g : Hm} (h : DkS W p mb hs d) (hg : g ∈ hs) (hn : g'.f.name = g.f.name) (hb : g'.b = g.b) (hk : Ko g.Blk W W') (hf : FAt W' g') (hblk : ∀ k, g'.Blk k → g.Blk k ∨ W.heap.size ≤ k)
    (ho : d'.off = d.off) (hlf : d'.left = d.left) (he : d'.files = Dk.put d.files g'.f) (hi : Dk.Inv d') (hl : Dk.load d' ≤ 100000000) : DkS W' p mb (hput hs g') d' := by
  have hsep : ∀ k, g.Blk k → ∀ x ∈ hs, x.f.name ≠ g'.f.name → ¬ x.Blk k := fun k hk x hx hne hxk => hne ((h.sep x hx g hg k hxk hk).trans hn.symm)
  refine h.put hk (fun k hk => .inr (.inr (hsep k hk))) ?_ ?_ hf (fun k hk x hx hne hxk => ?_) he hi hl (by rw [hlf]; exact h.left)
  · rw [ho, hlf]
    exact (hk.block p h.head.lt (h.pb hg)).trans h.head
  · rw [hput_pair h.rises hg hn hb]
    exact h.map.kept (hk.block mb h.map.lt (h.mapb hg))
  · rcases hblk k hk with h2 | h2
    · exact hsep k h2 x hx hne hxk
    · exact absurd ((h.ok x hx).lt hxk) (by omega)
theorem DmAt.same {S : Nat → Prop} (h : DmAt W p S d) (hb : Below W.heap.size W W') : Now DmAt W W' p S d :=
  ⟨⟨S, h.stays fun k hk => hb.block k (h.lt k hk), fun _ hk => .inl hk⟩, Ko.bel hb⟩
end
theorem fl_load {W : World} {p mb : Nat} {hs : List Hm} {d : Dk.D} (h : DkS W p mb hs d) {g : Hm} (hg : g ∈ hs) : Dk.flLoad g.f ≤ Dk.load d := by
  have : g.f ∈ d.files := by rw [← h.fs]; exact List.mem_map.2 ⟨g, hg, rfl⟩
  exact Dk.fsLoad_mem this
theorem okf_of {W : World} {p mb : Nat} {hs : List Hm} {d : Dk.D} (h : DkS W p mb hs d) {g : Hm} (hg : g ∈ hs) : Dk.Okf g.f := h.inv.ok g.f (by rw [← h.fs]; exact List.mem_map.2 ⟨g, hg, rfl⟩)
theorem find_d {W : World} {p mb : Nat} {hs : List Hm} {d : Dk.D} (h : DkS W p mb hs d) (n : ByteArray) : Dk.find d.files n = (hfind hs n).map (·.f) := by rw [← h.fs]; exact find_hs hs n
end Go.Proofs.YtjhbpcecdhdnoaaGreatDoor
namespace Go.Proofs.YtjhbpcecdhdnoaaGreatDoor
open Go.RowKit
theorem goes_one {d : Dk.D} (h : d.left = 1) : Dk.goes d = (false, { d with off := true, left := 0 }) := by unfold Dk.goes; rw [if_pos h]
theorem goes_ne {d : Dk.D} (h : d.left ≠ 1) : Dk.goes d = (true, { d with left := d.left - 1 }) := by unfold Dk.goes; rw [if_neg h]
theorem now_file {W W' : World} {p mb : Nat} {hs : List Hm} {d d' : Dk.D} {S0 : Nat → Prop} {g g' : Hm} (h : DkS W p mb hs d) (h0 : ∀ k, S0 k ↔ Bks p mb hs k) (hg : g ∈ hs) (hn : g'.f.name = g.f.name) (hb : g'.b = g.b) (hk : Ko g.Blk W W') (hf : FAt W' g') (hblk : ∀ k, g'.Blk k → g.Blk k ∨ W.heap.size ≤ k)
    (ho : d'.off = d.off) (hlf : d'.left = d.left) (he : d'.files = Dk.put d.files g'.f) (hi : Dk.Inv d') (hl : Dk.load d' ≤ 100000000) : Now DmAt W W' p S0 d' :=
  now_put h h0 (h.file hg hn hb hk hf hblk ho hlf he hi hl) hk (fun k _ hk => (h0 k).2 (.inr (.inr ⟨g, hg, hk⟩))) fun k hk => (hblk k hk).imp (fun h2 => (h0 k).2 (.inr (.inr ⟨g, hg, h2⟩))) id
theorem now_burn {W w1 w2 : World} {p mb : Nat} {hs : List Hm} {d' : Dk.D} {S0 : Nat → Prop} (h0 : ∀ k, S0 k ↔ Bks p mb hs k) (hk : Ko (atB p) W w1) (h : Now DmAt w1 w2 p S0 d') : Now DmAt W w2 p S0 d' :=
  Now.trans (hk.mono fun k _ hk => (h0 k).2 (.inl hk)) (fun _ hk => .inl hk) h
set_option maxRecDepth 100000 in
theorem dSync_any (W : World) (p : Nat) (S : Nat → Prop) (d : Dk.D) (n : ByteArray) (h : DmAt W p S d) (hn : n.size ≤ 100000000) :
    Calls Tryz.prog 106 #[.pointer (some ⟨p, 0, none⟩), .string n] W fun e w' => e = .returned (.int .i64 (eno (Dk.sync d n).1)) ∧ Now DmAt W w' p S (Dk.sync d n).2 := by
  have hA := h
  obtain ⟨mb, hs, hS, h0⟩ := h
  obtain ⟨R, hR⟩ : ∃ R, R = Dk.sync d n := ⟨_, rfl⟩
  rw [← hR]
  cases ho : d.off
  case true =>
    have HR : Hid (R.1 = .down ∧ Now DmAt W W p S R.2) := Lib.hid (by
      have : R = (.down, d) := by rw [hR, Dk.sync, if_pos ho]
      rw [this]; exact ⟨rfl, hA.same (Below.refl _ _)⟩)
    have H := Lib.hid (dbegin_off W p mb hs d hS ho n)
    clear hA hS h0 hR ho hn
    go_enter Tryz.func106, Tryz.ntmps106
    go_wp2_with fail
    refine (H.out).mono ?_
    rintro e w1 ⟨rfl, rfl⟩
    go_wp2_with fail
    go_ret
    exact ⟨by rw [HR.out.1]; rfl, HR.out.2⟩
  have hof : ¬ d.off = true := by rw [ho]; decide
  rcases hfnd : hfind hs n with _ | g
  · have HR : Hid (R.1 = .none ∧ Now DmAt W W p S R.2) := Lib.hid (by
      have : R = (.none, d) := by rw [hR, Dk.sync, if_neg hof, find_d hS, hfnd]; rfl
      rw [this]; exact ⟨rfl, hA.same (Below.refl _ _)⟩)
    have H := Lib.hid (dbegin_none W p mb hs d hS ho n hn hfnd)
    clear hA hS h0 hR ho hn hof hfnd
    go_enter Tryz.func106, Tryz.ntmps106
    go_wp2_with fail
    refine (H.out).mono ?_
    rintro e w1 ⟨rfl, rfl⟩
    go_wp2_with fail
    go_ret
    exact ⟨by rw [HR.out.1]; rfl, HR.out.2⟩
  obtain ⟨hg, hgn⟩ := hfind_some hfnd
  have hfd : Dk.find d.files n = some g.f := by rw [find_d hS, hfnd]; rfl
  have H := Lib.hid (dbegin_some W p mb hs d hS ho n hn g hfnd)
  by_cases h1 : d.left = 1
  · have HR : Hid (R.1 = .down ∧ ∀ w1, HAt w1 p mb (d.left - 1) (decide (d.left = 1)) → Ko (atB p) W w1 → Now DmAt W w1 p S R.2) := Lib.hid (by
      have : R = (.down, ⟨d.files, true, 0⟩) := by rw [hR, Dk.sync, if_neg hof, hfd, goes_one h1]; rfl
      rw [this]
      refine ⟨rfl, fun w1 hw hk => ?_⟩
      rw [h1, decide_eq_true rfl] at hw
      exact hA.heads hS.head hk hw (by omega))
    have hv : goesV d.left = 7 := by unfold goesV; rw [if_pos h1]
    rw [hv] at H
    clear hA hS h0 hR ho hn hof hfnd hv hg hgn hfd
    go_enter Tryz.func106, Tryz.ntmps106
    go_wp2_with fail
    refine (H.out).mono ?_
    rintro e w1 ⟨rfl, hw, hk⟩
    have HN := Lib.hid (HR.out.2 w1 hw hk)
    clear hw hk
    go_wp2_with fail
    go_ret
    exact ⟨by rw [HR.out.1]; rfl, HN.out⟩
  · have hinv := Dk.inv_sync hS.inv n
    have hld := Dk.load_sync hS.inv n
    have hfl := fl_load hS hg
    have hok := okf_of hS hg
    have hSl := hS.load
    have hfl2 : 1 + g.f.name.size + g.f.recs.length + Dk.sz g.f.recs + g.f.torn.size ≤ Dk.load d := hfl
    have HR : Hid (R.1 = .ok ∧ ∀ w1, HAt w1 p mb (d.left - 1) (decide (d.left = 1)) → Ko (atB p) W w1 → FAt w1 g ∧ ∀ w2, FAt w2 g.sync → Ko (atB g.b) w1 w2 → Now DmAt W w2 p S R.2) := Lib.hid (by
      have e : R = (.ok, ⟨Dk.put d.files g.sync.f, false, d.left - 1⟩) := by rw [hR, Dk.sync, if_neg hof, hfd, goes_ne h1]; show (Dk.E.ok, (⟨Dk.put d.files g.sync.f, d.off, d.left - 1⟩ : Dk.D)) = _; rw [ho]
      rw [← hR, e] at hinv hld
      rw [e]
      refine ⟨rfl, fun w1 hw hk => ?_⟩
      rw [decide_eq_false h1] at hw
      have hS1 := hS.heads hk hw (by have := hS.left; omega)
      refine ⟨hS1.ok g hg, fun w2 hf hk2 => now_burn h0 hk (now_file (g' := g.sync) hS1 h0 hg rfl rfl (hk2.mono fun k _ hk => .inl hk) hf (fun k hk => ?_) rfl rfl rfl hinv (by omega))⟩
      rcases hk with hk | hk | hk
      · exact .inl (.inl hk)
      · exact .inl (.inr (.inl hk))
      · cases hk)
    have HS : Hid (g.f.syn ≤ g.f.recs.length ∧ g.f.recs.length ≤ 100000000) := Lib.hid ⟨hok.syn, by omega⟩
    have hv : goesV d.left = 0 := by unfold goesV; rw [if_neg h1]
    rw [hv] at H
    clear hA hS h0 hR ho hn hof hfnd hv hg hgn hfd hinv hld hfl hok hSl hfl2 h1
    go_enter Tryz.func106, Tryz.ntmps106
    go_wp2_with fail
    refine (H.out).mono ?_
    rintro e w1 ⟨rfl, hw, hk⟩
    have hr := HR.out.2 w1 hw hk
    have HY := Lib.hid (fsync_any w1 g hr.1 HS.out.1 HS.out.2)
    have HN := Lib.hid hr.2
    clear hw hk hr
    go_wp2_with fail
    refine (HY.out).mono ?_
    rintro e w2 ⟨rfl, hf2, hk2⟩
    have HN2 := Lib.hid (HN.out w2 hf2 hk2)
    clear hf2 hk2
    go_wp2_with fail
    go_ret
    exact ⟨by rw [HR.out.1]; rfl, HN2.out⟩
set_option maxRecDepth 100000 in
theorem dDelete_any (W : World) (p : Nat) (S : Nat → Prop) (d : Dk.D) (n : ByteArray) (h : DmAt W p S d) (hn : n.size ≤ 100000000) :
    Calls Tryz.prog 108 #[.pointer (some ⟨p, 0, none⟩), .string n] W fun e w' => e = .returned (.int .i64 (eno (Dk.delete d n).1)) ∧ Now DmAt W w' p S (Dk.delete d n).2 := by
  have hA := h
  obtain ⟨mb, hs, hS, h0⟩ := h
  obtain ⟨R, hR⟩ : ∃ R, R = Dk.delete d n := ⟨_, rfl⟩
  rw [← hR]
  cases ho : d.off
  case true =>
    have HR : Hid (R.1 = .down ∧ Now DmAt W W p S R.2) := Lib.hid (by
      have : R = (.down, d) := by rw [hR, Dk.delete, if_pos ho]
      rw [this]; exact ⟨rfl, hA.same (Below.refl _ _)⟩)
    have H := Lib.hid (dbegin_off W p mb hs d hS ho n)
    clear hA hS h0 hR ho hn
    go_enter Tryz.func108, Tryz.ntmps108
    go_wp2_with fail
    refine (H.out).mono ?_
    rintro e w1 ⟨rfl, rfl⟩
    go_wp2_with fail
    go_ret
    exact ⟨by rw [HR.out.1]; rfl, HR.out.2⟩
  have hof : ¬ d.off = true := by rw [ho]; decide
  rcases hfnd : hfind hs n with _ | g
  · have HR : Hid (R.1 = .none ∧ Now DmAt W W p S R.2) := Lib.hid (by
      have : R = (.none, d) := by rw [hR, Dk.delete, if_neg hof, find_d hS, hfnd]; rfl
      rw [this]; exact ⟨rfl, hA.same (Below.refl _ _)⟩)
    have H := Lib.hid (dbegin_none W p mb hs d hS ho n hn hfnd)
    clear hA hS h0 hR ho hn hof hfnd
    go_enter Tryz.func108, Tryz.ntmps108
    go_wp2_with fail
    refine (H.out).mono ?_
    rintro e w1 ⟨rfl, rfl⟩
    go_wp2_with fail
    go_ret
    exact ⟨by rw [HR.out.1]; rfl, HR.out.2⟩
  obtain ⟨hg, hgn⟩ := hfind_some hfnd
  have hfd : Dk.find d.files n = some g.f := by rw [find_d hS, hfnd]; rfl
  have H := Lib.hid (dbegin_some W p mb hs d hS ho n hn g hfnd)
  by_cases h1 : d.left = 1
  · have HR : Hid (R.1 = .down ∧ ∀ w1, HAt w1 p mb (d.left - 1) (decide (d.left = 1)) → Ko (atB p) W w1 → Now DmAt W w1 p S R.2) := Lib.hid (by
      have : R = (.down, ⟨d.files, true, 0⟩) := by rw [hR, Dk.delete, if_neg hof, hfd, goes_one h1]; rfl
      rw [this]
      refine ⟨rfl, fun w1 hw hk => ?_⟩
      rw [h1, decide_eq_true rfl] at hw
      exact hA.heads hS.head hk hw (by omega))
    have hv : goesV d.left = 7 := by unfold goesV; rw [if_pos h1]
    rw [hv] at H
    clear hA hS h0 hR ho hn hof hfnd hv hg hgn hfd
    go_enter Tryz.func108, Tryz.ntmps108
    go_wp2_with fail
    refine (H.out).mono ?_
    rintro e w1 ⟨rfl, hw, hk⟩
    have HN := Lib.hid (HR.out.2 w1 hw hk)
    clear hw hk
    go_wp2_with fail
    go_ret
    exact ⟨by rw [HR.out.1]; rfl, HN.out⟩
  · have hinv := Dk.inv_delete hS.inv n
    have hld := Dk.load_delete d n
    have hSl := hS.load
    have HR : Hid (R.1 = .ok ∧ ∀ w1, HAt w1 p mb (d.left - 1) (decide (d.left = 1)) → Ko (atB p) W w1 → w1.cell? ⟨p, 0, none⟩ = some (.map (some mb)) ∧ ∃ w2, (Builtin.delete_ #[118, 9] 0 #[.map (some mb), .string n]).run Tryz.prog w1 = .ok (.tuple #[]) w2 ∧ Now DmAt W w2 p S R.2) := Lib.hid (by
      have e : R = (.ok, ⟨Dk.drop d.files n, false, d.left - 1⟩) := by rw [hR, Dk.delete, if_neg hof, hfd, goes_ne h1]; show (Dk.E.ok, (⟨Dk.drop d.files n, d.off, d.left - 1⟩ : Dk.D)) = _; rw [ho]
      rw [← hR, e] at hinv hld
      rw [e]
      refine ⟨rfl, fun w1 hw hk => ⟨hw.c0, ?_⟩⟩
      rw [decide_eq_false h1] at hw
      have hS1 := hS.heads hk hw (by have := hS.left; omega)
      obtain ⟨w2, e1, e2, e3, e4⟩ := SMap.drop (ty := 0) (e := 140) us Tryz.underlying118 hS1.map n (by simp only [maxLen]; omega)
      have hk2 : Ko (atB mb) w1 w2 := ⟨e3.os, e3.tape, e3.output, e3.size, fun k hk hne => e3.block k hk fun he => hne (by injection he)⟩
      rw [← hdrop_p] at e2
      refine ⟨w2, e1, now_burn h0 hk (now_drop h0 (hS1.dropped n hk2 (fun k hk => .inr hk) ((hk2.block p hw.lt hS1.pm).trans hw) e2 rfl hinv (by omega) ?_) hk2 fun k _ hk => (h0 k).2 (.inr (.inl hk)))⟩
      have := hS.left
      show d.left - 1 ≤ _
      omega)
    have hv : goesV d.left = 0 := by unfold goesV; rw [if_neg h1]
    rw [hv] at H
    clear hA hS h0 hR ho hn hof hfnd hv hg hgn hfd hinv hld hSl h1
    go_enter Tryz.func108, Tryz.ntmps108
    go_wp2_with fail
    refine (H.out).mono ?_
    rintro e w1 ⟨rfl, hw, hk⟩
    obtain ⟨k0, w2, hrun, hN⟩ := HR.out.2 w1 hw hk
    have HN := Lib.hid hN
    clear hw hk hN
    go_wp2_with fail
    go_ret
    exact ⟨by rw [HR.out.1]; rfl, HN.out⟩
end Go.Proofs.YtjhbpcecdhdnoaaGreatDoor
