/-
  The program's disk: New, Fuse, Fused, Start, Down, by the head alone.
-/
import Derived.Test.YtjmnoogaffjdiaaRDmA
set_option linter.unusedSimpArgs false
set_option linter.unusedVariables false
namespace Go.Proofs.Ytjmnoogaffjdiaa
open Go.RowKit
theorem DmAt.lt {W : World} {p : Nat} {S : Nat → Prop} {d : Dk.D} (h : DmAt W p S d) (k : Nat) (hk : S k) : k < W.heap.size := by
  obtain ⟨mb, hs, h1, h2⟩ := h
  exact h1.lt ((h2 k).1 hk)
theorem DmAt.stays {W W' : World} {p : Nat} {S : Nat → Prop} {d : Dk.D} (h : DmAt W p S d) (hk : ∀ k, S k → W'.heap[k]? = W.heap[k]?) : DmAt W' p S d := by
  obtain ⟨mb, hs, h1, h2⟩ := h
  exact ⟨mb, hs, h1.stays fun k h3 => hk k ((h2 k).2 h3), h2⟩
theorem DmAt.head {W : World} {p : Nat} {S : Nat → Prop} {d : Dk.D} (h : DmAt W p S d) : ∃ mb, HAt W p mb d.left d.off := by
  obtain ⟨mb, hs, h1, _⟩ := h
  exact ⟨mb, h1.head⟩
theorem DmAt.atp {W : World} {p : Nat} {S : Nat → Prop} {d : Dk.D} (h : DmAt W p S d) : S p := by
  obtain ⟨mb, hs, h1, h2⟩ := h
  exact (h2 p).2 (.inl rfl)
/-- Another head. -/
theorem DmAt.heads {W W' : World} {p mb : Nat} {S : Nat → Prop} {d : Dk.D} {left left' : Nat} {off off' : Bool} (h : DmAt W p S d) (h0 : HAt W p mb left off) (hk : Ko (atB p) W W') (hh : HAt W' p mb left' off') (hl : left' ≤ 9223372036854775807) : Now DmAt W W' p S ⟨d.files, off', left'⟩ := by
  have hp := h.atp
  obtain ⟨mb', hs, h1, h2⟩ := h
  have : mb' = mb := by
    have e := h1.head.c0
    rw [h0.c0] at e
    simpa using e.symm
  subst this
  exact ⟨⟨S, ⟨_, hs, h1.heads hk hh hl, h2⟩, fun _ hk => .inl hk⟩, hk.mono fun k _ hk => by rw [show k = p from hk]; exact hp⟩
theorem make_map (W : World) : Sem.run Try.prog (Instr.makeMap 41 none) W = .ok (.map (some W.heap.size)) (W.alloc (.map #[] 0)) := by kernel_rfl
set_option maxRecDepth 100000 in
theorem dNew_any (W : World) : Calls Try.prog 12 #[] W fun e w' => ∃ p S, e = .returned (.pointer (some ⟨p, 0, none⟩)) ∧ DmAt w' p S Dk.D.new ∧ (∀ k, S k → W.heap.size ≤ k) ∧ Below W.heap.size W w' := by
  have HE : Hid (DkS ((W.alloc (.map #[] 0)).alloc (.cells #[.map (some W.heap.size), .int .i64 0, .bool false] 43)) (W.heap.size + 1) W.heap.size [] Dk.D.new) := Lib.hid
    ⟨(by
      have := heap_alloc_new (W.alloc (.map #[] 0)) (.cells #[.map (some W.heap.size), .int .i64 0, .bool false] 43 (0, 0))
      simpa [HAt, Dk.D.new] using this),
    (SMap.made Try.prog 9 W).kept (by
      exact (Below.refl (W.heap.size + 1) (W.alloc (.map #[] 0))).alloc (by simp) _ |>.block _ (by omega)),
    (fun _ h => by cases h), rfl, (fun _ h => by cases h), Dk.inv_new, by simp [Dk.load, Dk.D.new, Dk.fsLoad], by simp [Dk.D.new]⟩
  have HB : Hid (Below W.heap.size W ((W.alloc (.map #[] 0)).alloc (.cells #[.map (some W.heap.size), .int .i64 0, .bool false] 43))) := Lib.hid (bnew (bnew (Below.refl _ _) _) _)
  have hm := make_map
  go_enter Try.func12, Try.ntmps12
  go_wp2_with fail
  go_ret
  refine ⟨W.heap.size + 1, Bks (W.heap.size + 1) W.heap.size [], rfl, DmAt.mk HE.out, ?_, HB.out⟩
  rintro k (rfl | rfl | ⟨g, hg, _⟩)
  · omega
  · omega
  · cases hg
set_option maxRecDepth 100000 in
theorem dFuse_any (W : World) (p : Nat) (S : Nat → Prop) (d : Dk.D) (n : Int) (h : DmAt W p S d) (hn : -9223372036854775808 ≤ n ∧ n ≤ 9223372036854775807) :
    Calls Try.prog 16 #[.pointer (some ⟨p, 0, none⟩), .int .i64 n] W fun e w' => e = .returned (.tuple #[]) ∧ Now DmAt W w' p S (Dk.fuse d n) := by
  obtain ⟨mb, hh⟩ := h.head
  have H := Lib.hid (isMade_any W p mb _ _ hh)
  have f1 := hh.f1
  have c1 := hh.c1
  obtain ⟨hn1, hn2⟩ := hn
  by_cases h0 : n ≤ 0
  · have q1 : decide ((0 : Int) < n) = false := by simpa using h0
    have q2 : decide (n < 0) = true ∨ n = 0 := by simp; omega
    have q3 : max n 0 = 0 := by omega
    have HE : Hid (Now DmAt W (W.setCell ⟨p, 1, none⟩ (.int .i64 0)) p S (Dk.fuse d n)) := Lib.hid (by
      have := h.heads (off' := d.off) (left' := n.toNat) hh ((Ko.refl _ _).set (show atB p p from rfl) 1 (.int .i64 0)) (hh.set1 0 n.toNat (by omega)) (by omega)
      exact this)
    clear h hh
    go_enter Try.func16, Try.ntmps16
    go_wp2_with fail
    refine (H.out).mono ?_
    rintro e w1 ⟨rfl, rfl⟩
    go_wp2_with fail
    go_end0
    exact ⟨rfl, HE.out⟩
  · have q1 : decide ((0 : Int) < n) = true := by simp; omega
    have q3 : max n 0 = n := by omega
    have HE : Hid (Now DmAt W (W.setCell ⟨p, 1, none⟩ (.int .i64 n)) p S (Dk.fuse d n)) := Lib.hid (by
      have := h.heads (off' := d.off) (left' := n.toNat) hh ((Ko.refl _ _).set (show atB p p from rfl) 1 (.int .i64 n)) (hh.set1 n n.toNat (by omega)) (by omega)
      exact this)
    clear h hh
    go_enter Try.func16, Try.ntmps16
    go_wp2_with fail
    refine (H.out).mono ?_
    rintro e w1 ⟨rfl, rfl⟩
    go_wp2_with fail
    go_end0
    exact ⟨rfl, HE.out⟩
set_option maxRecDepth 100000 in
theorem dFused_any (W : World) (p : Nat) (S : Nat → Prop) (d : Dk.D) (h : DmAt W p S d) :
    Calls Try.prog 26 #[.pointer (some ⟨p, 0, none⟩)] W fun e w' => e = .returned (.int .i64 (d.left : Int)) ∧ Below W.heap.size W w' := by
  obtain ⟨mb, hh⟩ := h.head
  have H := Lib.hid (isMade_any W p mb _ _ hh)
  have c1 := hh.c1
  clear h hh
  go_enter Try.func26, Try.ntmps26
  go_wp2_with fail
  refine (H.out).mono ?_
  rintro e w1 ⟨rfl, rfl⟩
  go_wp2_with fail
  go_ret
  exact ⟨rfl, Below.refl _ _⟩
set_option maxRecDepth 100000 in
theorem dStart_any (W : World) (p : Nat) (S : Nat → Prop) (d : Dk.D) (h : DmAt W p S d) :
    Calls Try.prog 18 #[.pointer (some ⟨p, 0, none⟩)] W fun e w' => e = .returned (.tuple #[]) ∧ Now DmAt W w' p S (Dk.start d) := by
  have hleft : d.left ≤ 9223372036854775807 := by obtain ⟨_, _, h1, _⟩ := h; exact h1.left
  obtain ⟨mb, hh⟩ := h.head
  have H := Lib.hid (isMade_any W p mb _ _ hh)
  have f2 := hh.f2
  have c2 := hh.c2
  have HE : Hid (Now DmAt W (W.setCell ⟨p, 2, none⟩ (.bool false)) p S (Dk.start d)) := Lib.hid (h.heads (left' := d.left) hh ((Ko.refl _ _).set (show atB p p from rfl) 2 (.bool false)) (hh.set2 false) hleft)
  clear h hh hleft
  go_enter Try.func18, Try.ntmps18
  go_wp2_with fail
  refine (H.out).mono ?_
  rintro e w1 ⟨rfl, rfl⟩
  go_wp2_with fail
  go_end0
  exact ⟨rfl, HE.out⟩
set_option maxRecDepth 100000 in
theorem dDown_any (W : World) (p : Nat) (S : Nat → Prop) (d : Dk.D) (h : DmAt W p S d) :
    Calls Try.prog 27 #[.pointer (some ⟨p, 0, none⟩)] W fun e w' => e = .returned (.bool d.off) ∧ Below W.heap.size W w' := by
  obtain ⟨mb, hh⟩ := h.head
  have H := Lib.hid (isMade_any W p mb _ _ hh)
  have c2 := hh.c2
  clear h hh
  go_enter Try.func27, Try.ntmps27
  go_wp2_with fail
  refine (H.out).mono ?_
  rintro e w1 ⟨rfl, rfl⟩
  go_wp2_with fail
  go_ret
  exact ⟨rfl, Below.refl _ _⟩
end Go.Proofs.Ytjmnoogaffjdiaa
