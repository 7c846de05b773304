/-
  slices.Clone of bytes and of ints walked.
  The program's disk: New, Fuse, Fused, Start, Down, by the head alone.
-/
import Derived.Test.YtdcjhpnakbejkaaGreatDoorRDmA
import Derived.Test.YtdcjhpnakbejkaaGreatDoorRWords
set_option linter.unusedSimpArgs false
set_option linter.unusedVariables false
namespace Go.Proofs.YtdcjhpnakbejkaaGreatDoor
open Go.RowKit
theorem dm_infoInt : (Tryz.prog.info? 3).map (fun i => (i.zero, i.size, i.bytes)) = some (some (.int .i64 0), 1, 8) := by kernel_rfl
theorem own_cells {w : World} {e : TypeId} {A : Option Addr} {n c : Nat} {xs : List Value} (h : w.ownsRow 0 e 1 (.slice A n c) n xs) : (A = none ∧ n = 0 ∧ c = 0 ∧ xs = []) ∨ ∃ g, A = some ⟨g, 0, none⟩ ∧ ∀ j u, xs[j]? = some u → w.cell? ((⟨g, 0, none⟩ : Addr).add j) = some u := by
  rcases h.2 with ⟨hv, hn⟩ | ⟨g, cap, cur, hv, _⟩
  · injection hv with a b c2
    subst hn
    exact .inl ⟨a, rfl, c2, List.eq_nil_of_length_eq_zero (by have := h.1; omega)⟩
  · injection hv with a b c2
    subst a
    exact .inr ⟨g, rfl, h.cells (g := g) rfl⟩
theorem bytes_nil (W : World) : Sem.run Tryz.prog (binOp BinOp.eql 153 (.slice none 0 0) (.slice none 0 0)) W = .ok (.bool true) W := by kernel_rfl
theorem bytes_some (g n c : Nat) (W : World) : Sem.run Tryz.prog (binOp BinOp.eql 153 (.slice (some ⟨g, 0, none⟩) n c) (.slice none 0 0)) W = .ok (.bool false) W := by kernel_rfl
theorem ints_nil (W : World) : Sem.run Tryz.prog (binOp BinOp.eql 43 (.slice none 0 0) (.slice none 0 0)) W = .ok (.bool true) W := by kernel_rfl
theorem ints_some (g n c : Nat) (W : World) : Sem.run Tryz.prog (binOp BinOp.eql 43 (.slice (some ⟨g, 0, none⟩) n c) (.slice none 0 0)) W = .ok (.bool false) W := by kernel_rfl
theorem ic_one (l : List Int) : ∀ u ∈ ic l, u.oneCell' = true := fun u hu => by
  obtain ⟨n, _, rfl⟩ := List.mem_map.1 hu; rfl
set_option maxRecDepth 100000 in
set_option maxHeartbeats 1000000 in
theorem cloneB_any (w : World) (A : Option Addr) (n c : Nat) (s : ByteArray) (hs : s.size = n) (h : (A = none ∧ n = 0 ∧ c = 0) ∨ ∃ g, A = some ⟨g, 0, none⟩ ∧ ∀ j u, (Lib.strCells s)[j]? = some u → w.cell? ((⟨g, 0, none⟩ : Addr).add j) = some u) (hn : n ≤ 1000000000) :
    Calls Tryz.prog 155 #[.slice A n c] w fun e w' => ∃ A' c', e = .returned (.slice A' n c') ∧ w'.ownsRow w.heap.size 5 1 (.slice A' n c') n (Lib.strCells s) ∧ Below w.heap.size w w' := by
  obtain ⟨i0, hi, hz0, hz1, hz2⟩ := info_parts Tryz.infoByte
  have hl : (Lib.strCells s).length = n := by rw [Lib.strCells_length, hs]
  rcases h with ⟨rfl, rfl, rfl⟩ | ⟨g, rfl, hc⟩
  · have HE : Hid (w.ownsRow w.heap.size 5 1 (.slice none 0 0) 0 (Lib.strCells s)) := Lib.hid ⟨by omega, .inl ⟨rfl, rfl⟩⟩
    clear hl hs hn
    have q0 := bytes_nil
    go_enter Tryz.func155, Tryz.ntmps155
    go_wp2_with fail
    go_ret
    exact ⟨none, 0, rfl, HE.out, Below.refl _ _⟩
  · have Hc : Hid (∀ j u, (Lib.strCells s)[j]? = some u → (w.alloc (.cells #[] 5)).cell? ((⟨g, 0, none⟩ : Addr).add j) = some u) := Lib.hid fun j u hu => by
      have := hc j u hu
      exact later (bnew (Below.refl _ _) _) this
    have HL := Lib.hid (And.intro hl hn)
    clear hc hl hs
    have q0 := bytes_some g n c
    go_enter Tryz.func155, Tryz.ntmps155
    go_wp2_with (at_builtin; refine wpList_app_own rfl (.tmp 5) (.tmp 6) 153 rfl w.heap.size 5 i0 (.int .u8 0) 1 1 Tryz.underlying153 hi hz0 hz1 hz2 rfl (by decide) _ _ _ rfl (own_empty w 5) ⟨g, 0, none⟩ n c (Lib.strCells s) rfl (by have := HL.out.1; omega) Hc.out (Lib.strCells_oneCell s) (by simp only [maxLen]; omega) (by omega) (by simp) ?_)
    intro v' w' ho hg hn'
    obtain ⟨A', c', rfl, _⟩ := own_slice ho
    have HO : Hid (w'.ownsRow w.heap.size 5 1 (.slice A' n c') n (Lib.strCells s)) := Lib.hid (by exact ho)
    have HB : Hid (Below w.heap.size w w') := Lib.hid ((bnew (Below.refl _ _) _).grown hg (by simp) (fun j hj => (own_lt (own_empty w 5) hj).2))
    clear ho hg hn'
    go_wp2_with fail
    go_ret
    exact ⟨A', c', rfl, HO.out, HB.out⟩
end Go.Proofs.YtdcjhpnakbejkaaGreatDoor
namespace Go.Proofs.YtdcjhpnakbejkaaGreatDoor
open Go.RowKit
theorem DmAt.lt {W : World} {p : Nat} {S : Nat → Prop} {d : Dk.D} (h : DmAt W p S d) (k : Nat) (hk : S k) : k < W.heap.size := by
  obtain ⟨mb, hs, h1, h2⟩ := h
  exact h1.lt ((h2 k).1 hk)
theorem DmAt.stays {W W' : World} {p : Nat} {S : Nat → Prop} {d : Dk.D} (h : DmAt W p S d) (hk : ∀ k, S k → W'.heap[k]? = W.heap[k]?) : DmAt W' p S d := by
  obtain ⟨mb, hs, h1, h2⟩ := h
  exact ⟨mb, hs, h1.stays fun k h3 => hk k ((h2 k).2 h3), h2⟩
theorem DmAt.head {W : World} {p : Nat} {S : Nat → Prop} {d : Dk.D} (h : DmAt W p S d) : ∃ mb, HAt W p mb d.left d.off := by
  obtain ⟨mb, hs, h1, _⟩ := h
  exact ⟨mb, h1.head⟩
theorem DmAt.atp {W : World} {p : Nat} {S : Nat → Prop} {d : Dk.D} (h : DmAt W p S d) : S p := by
  obtain ⟨mb, hs, h1, h2⟩ := h
  exact (h2 p).2 (.inl rfl)
/-- Another head. -/
theorem DmAt.heads {W W' : World} {p mb : Nat} {S : Nat → Prop} {d : Dk.D} {left left' : Nat} {off off' : Bool} (h : DmAt W p S d) (h0 : HAt W p mb left off) (hk : Ko (atB p) W W') (hh : HAt W' p mb left' off') (hl : left' ≤ 9223372036854775807) : Now DmAt W W' p S ⟨d.files, off', left'⟩ := by
  have hp := h.atp
  obtain ⟨mb', hs, h1, h2⟩ := h
  have : mb' = mb := by
    have e := h1.head.c0
    rw [h0.c0] at e
    simpa using e.symm
  subst this
  exact ⟨⟨S, ⟨_, hs, h1.heads hk hh hl, h2⟩, fun _ hk => .inl hk⟩, hk.mono fun k _ hk => by rw [show k = p from hk]; exact hp⟩
theorem make_map (W : World) : Sem.run Tryz.prog (Instr.makeMap 135 none) W = .ok (.map (some W.heap.size)) (W.alloc (.map #[] 0)) := by kernel_rfl
set_option maxRecDepth 100000 in
theorem dNew_any (W : World) : Calls Tryz.prog 18 #[] W fun e w' => ∃ p S, e = .returned (.pointer (some ⟨p, 0, none⟩)) ∧ DmAt w' p S Dk.D.new ∧ (∀ k, S k → W.heap.size ≤ k) ∧ Below W.heap.size W w' := by
  have HE : Hid (DkS ((W.alloc (.map #[] 0)).alloc (.cells #[.map (some W.heap.size), .int .i64 0, .bool false] 137)) (W.heap.size + 1) W.heap.size [] Dk.D.new) := Lib.hid
    ⟨(by
      have := heap_alloc_new (W.alloc (.map #[] 0)) (.cells #[.map (some W.heap.size), .int .i64 0, .bool false] 137 (0, 0))
      simpa [HAt, Dk.D.new] using this),
    (SMap.made Tryz.prog 9 W).kept (by
      exact (Below.refl (W.heap.size + 1) (W.alloc (.map #[] 0))).alloc (by simp) _ |>.block _ (by omega)),
    (fun _ h => by cases h), rfl, (fun _ h => by cases h), Dk.inv_new, by simp [Dk.load, Dk.D.new, Dk.fsLoad], by simp [Dk.D.new]⟩
  have HB : Hid (Below W.heap.size W ((W.alloc (.map #[] 0)).alloc (.cells #[.map (some W.heap.size), .int .i64 0, .bool false] 137))) := Lib.hid (bnew (bnew (Below.refl _ _) _) _)
  have hm := make_map
  go_enter Tryz.func18, Tryz.ntmps18
  go_wp2_with fail
  go_ret
  refine ⟨W.heap.size + 1, Bks (W.heap.size + 1) W.heap.size [], rfl, DmAt.mk HE.out, ?_, HB.out⟩
  rintro k (rfl | rfl | ⟨g, hg, _⟩)
  · omega
  · omega
  · cases hg
set_option maxRecDepth 100000 in
theorem dFuse_any (W : World) (p : Nat) (S : Nat → Prop) (d : Dk.D) (n : Int) (h : DmAt W p S d) (hn : -9223372036854775808 ≤ n ∧ n ≤ 9223372036854775807) :
    Calls Tryz.prog 36 #[.pointer (some ⟨p, 0, none⟩), .int .i64 n] W fun e w' => e = .returned (.tuple #[]) ∧ Now DmAt W w' p S (Dk.fuse d n) := by
  obtain ⟨mb, hh⟩ := h.head
  have H := Lib.hid (isMade_any W p mb _ _ hh)
  have f1 := hh.f1
  have c1 := hh.c1
  obtain ⟨hn1, hn2⟩ := hn
  by_cases h0 : n ≤ 0
  · have q1 : decide ((0 : Int) < n) = false := by simpa using h0
    have q2 : decide (n < 0) = true ∨ n = 0 := by simp; omega
    have q3 : max n 0 = 0 := by omega
    have HE : Hid (Now DmAt W (W.setCell ⟨p, 1, none⟩ (.int .i64 0)) p S (Dk.fuse d n)) := Lib.hid (by
      have := h.heads (off' := d.off) (left' := n.toNat) hh ((Ko.refl _ _).set (show atB p p from rfl) 1 (.int .i64 0)) (hh.set1 0 n.toNat (by omega)) (by omega)
      exact this)
    clear h hh
    go_enter Tryz.func36, Tryz.ntmps36
    go_wp2_with fail
    refine (H.out).mono ?_
    rintro e w1 ⟨rfl, rfl⟩
    go_wp2_with fail
    go_end0
    exact ⟨rfl, HE.out⟩
  · have q1 : decide ((0 : Int) < n) = true := by simp; omega
    have q3 : max n 0 = n := by omega
    have HE : Hid (Now DmAt W (W.setCell ⟨p, 1, none⟩ (.int .i64 n)) p S (Dk.fuse d n)) := Lib.hid (by
      have := h.heads (off' := d.off) (left' := n.toNat) hh ((Ko.refl _ _).set (show atB p p from rfl) 1 (.int .i64 n)) (hh.set1 n n.toNat (by omega)) (by omega)
      exact this)
    clear h hh
    go_enter Tryz.func36, Tryz.ntmps36
    go_wp2_with fail
    refine (H.out).mono ?_
    rintro e w1 ⟨rfl, rfl⟩
    go_wp2_with fail
    go_end0
    exact ⟨rfl, HE.out⟩
set_option maxRecDepth 100000 in
theorem dStart_any (W : World) (p : Nat) (S : Nat → Prop) (d : Dk.D) (h : DmAt W p S d) :
    Calls Tryz.prog 38 #[.pointer (some ⟨p, 0, none⟩)] W fun e w' => e = .returned (.tuple #[]) ∧ Now DmAt W w' p S (Dk.start d) := by
  have hleft : d.left ≤ 9223372036854775807 := by obtain ⟨_, _, h1, _⟩ := h; exact h1.left
  obtain ⟨mb, hh⟩ := h.head
  have H := Lib.hid (isMade_any W p mb _ _ hh)
  have f2 := hh.f2
  have c2 := hh.c2
  have HE : Hid (Now DmAt W (W.setCell ⟨p, 2, none⟩ (.bool false)) p S (Dk.start d)) := Lib.hid (h.heads (left' := d.left) hh ((Ko.refl _ _).set (show atB p p from rfl) 2 (.bool false)) (hh.set2 false) hleft)
  clear h hh hleft
  go_enter Tryz.func38, Tryz.ntmps38
  go_wp2_with fail
  refine (H.out).mono ?_
  rintro e w1 ⟨rfl, rfl⟩
  go_wp2_with fail
  go_end0
  exact ⟨rfl, HE.out⟩
set_option maxRecDepth 100000 in
theorem dDown_any (W : World) (p : Nat) (S : Nat → Prop) (d : Dk.D) (h : DmAt W p S d) :
    Calls Tryz.prog 89 #[.pointer (some ⟨p, 0, none⟩)] W fun e w' => e = .returned (.bool d.off) ∧ Below W.heap.size W w' := by
  obtain ⟨mb, hh⟩ := h.head
  have H := Lib.hid (isMade_any W p mb _ _ hh)
  have c2 := hh.c2
  clear h hh
  go_enter Tryz.func89, Tryz.ntmps89
  go_wp2_with fail
  refine (H.out).mono ?_
  rintro e w1 ⟨rfl, rfl⟩
  go_wp2_with fail
  go_ret
  exact ⟨rfl, Below.refl _ _⟩
end Go.Proofs.YtdcjhpnakbejkaaGreatDoor
