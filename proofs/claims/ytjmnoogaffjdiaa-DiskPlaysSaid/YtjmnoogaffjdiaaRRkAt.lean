/-
  The document's disk as it stands, by its blocks; its methods so.
-/
import Derived.Test.YtjmnoogaffjdiaaRRkSync
import Derived.Test.YtjmnoogaffjdiaaRRkCrash
set_option linter.unusedSimpArgs false
set_option linter.unusedVariables false
namespace Go.Proofs.Ytjmnoogaffjdiaa
open Go.RowKit
/-- The blocks of the document's disk. -/
def RB (p : Nat) (xs : List Fx) (A : Option Addr) (k : Nat) : Prop := k = p ∨ (∃ o, A = some ⟨k, o, none⟩) ∨ ∃ x ∈ xs, x.f.recs ≠ [] ∧ ∃ o, x.ra = some ⟨k, o, none⟩
def RAt : DkAt := fun W p S d => ∃ xs A cap, RD W p xs A cap d ∧ ∀ k, S k ↔ RB p xs A k
theorem sc_ne {rs : List ByteArray} (h : sc rs = []) : rs = [] := by
  have := sc_length rs
  rw [h] at this
  exact List.eq_nil_of_length_eq_zero this.symm
theorem RI.blt {W : World} {p : Nat} {xs : List Fx} {A : Option Addr} {cap : Nat} {off : Bool} {left : Nat} (h : RI W p xs A cap off left) {k : Nat} (hk : RB p xs A k) : k < W.heap.size := by
  rcases hk with rfl | ⟨o, hA⟩ | ⟨x, hx, hr, o, ha⟩
  · exact h.lt
  · rcases h.blk with ⟨_, h2, _⟩ | ⟨g, cur, h2, hg, _⟩
    · rw [hA] at h2; cases h2
    · rw [hA] at h2
      simp only [Option.some.injEq, Addr.mk.injEq] at h2
      omega
  · rcases h.lies x hx with h2 | ⟨b, off, h2, hb, _⟩
    · exact absurd (sc_ne h2) hr
    · rw [ha] at h2
      simp only [Option.some.injEq, Addr.mk.injEq] at h2
      omega
theorem RI.kept {W W' : World} {p : Nat} {xs : List Fx} {A : Option Addr} {cap : Nat} {off : Bool} {left : Nat} (h : RI W p xs A cap off left) (hk : ∀ k, RB p xs A k → W'.heap[k]? = W.heap[k]?) : RI W' p xs A cap off left := by
  refine ⟨(hk p (.inl rfl)).trans h.row, own_kept h.own fun k he => ?_, fun x hx => ?_, h.ap, h.av, h.pv, h.room⟩
  · cases hA : A with
    | none => rw [hA] at he; cases he
    | some a =>
      rw [hA] at he
      injection he with he
      rcases h.blk with ⟨_, h2, _⟩ | ⟨g, cur, h2, _⟩
      · rw [hA] at h2; cases h2
      · rw [hA] at h2
        injection h2 with h2
        refine hk k (.inr (.inl ⟨0, ?_⟩))
        rw [hA, h2]
        rw [h2] at he
        rw [← he]
  · rcases h.lies x hx with h2 | ⟨b, off, h2, hb, hc⟩
    · exact .inl h2
    · by_cases hr : x.f.recs = []
      · exact .inl (by rw [hr]; rfl)
      · have hkb := hk b (.inr (.inr ⟨x, hx, hr, off, h2⟩))
        exact .inr ⟨b, off, h2, (by
          have h3 := (Array.getElem?_eq_some_iff.1 ((Array.getElem?_eq_getElem hb)))
          have h4 : W'.heap[b]? = some W.heap[b] := hkb.trans (Array.getElem?_eq_getElem hb)
          exact (Array.getElem?_eq_some_iff.1 h4).1), fun i u hu => (World.cell?_of_block (w := W) (w' := W') (a := ⟨b, off + i, none⟩) hkb).trans (hc i u hu)⟩
section
variable {W W' : World} {p : Nat} {S : Nat → Prop} {d : Dk.D}
theorem RAt.lt (h : RAt W p S d) {k : Nat} (hk : S k) : k < W.heap.size := by
  obtain ⟨xs, A, cap, h1, h2⟩ := h
  exact h1.ri.blt ((h2 k).1 hk)
theorem RAt.stays (h : RAt W p S d) (hk : ∀ k, S k → W'.heap[k]? = W.heap[k]?) : RAt W' p S d := by
  obtain ⟨xs, A, cap, h1, h2⟩ := h
  exact ⟨xs, A, cap, ⟨h1.ri.kept fun k h3 => hk k ((h2 k).2 h3), h1.files, h1.inv, h1.load, h1.left⟩, h2⟩
theorem RAt.below (h : RAt W p S d) (hb : Below W.heap.size W W') : RAt W' p S d := h.stays fun k hk => hb.block k (h.lt hk)
theorem RAt.ko {T : Nat → Prop} (h : RAt W p S d) (hb : Ko T W W') (hs : ∀ k, S k → ¬ T k) : RAt W' p S d := h.stays fun k hk => hb.block k (h.lt hk) (hs k hk)
theorem RAt.now (h : RAt W p S d) (hb : Below W.heap.size W W') : Now RAt W W' p S d := ⟨⟨S, h.below hb, fun _ hk => .inl hk⟩, Ko.bel hb⟩
theorem rinv (h : RAt W p S d) : Dk.Inv d := by obtain ⟨_, _, _, h1, _⟩ := h; exact h1.inv
theorem rload (h : RAt W p S d) : Dk.load d ≤ 100000000 := by obtain ⟨_, _, _, h1, _⟩ := h; exact h1.load
theorem rleft (h : RAt W p S d) : d.left ≤ 9223372036854775807 := by obtain ⟨_, _, _, h1, _⟩ := h; exact h1.left
/-- Another row, with files that lie as the elder ones, or in new memory. -/
theorem rnow {xs ys : List Fx} {A A' : Option Addr} {cap' : Nat} {d' : Dk.D} {T : Nat → Prop} (h0 : ∀ k, S k ↔ RB p xs A k) (hr : RD W' p ys A' cap' d') (hk : Ko T W W') (hT : ∀ k, T k → S k) (hA : ∀ b o, A' = some ⟨b, o, none⟩ → A = some ⟨b, o, none⟩ ∨ W.heap.size ≤ b) (hy : ∀ y ∈ ys, Src xs W.heap.size y) : Now RAt W W' p S d' := by
  refine ⟨⟨_, ⟨ys, A', cap', hr, fun _ => Iff.rfl⟩, fun k hkb => ?_⟩, hk.mono fun k _ hk => hT k hk⟩
  rcases hkb with rfl | ⟨o, he⟩ | ⟨y, hym, hyr, o, he⟩
  · exact .inl ((h0 _).2 (.inl rfl))
  · rcases hA k o he with h2 | h2
    · exact .inl ((h0 _).2 (.inr (.inl ⟨o, h2⟩)))
    · exact .inr h2
  · rcases hy y hym with ⟨x, hx, e1, e2⟩ | h2
    · exact .inl ((h0 _).2 (.inr (.inr ⟨x, hx, by rw [← e1]; exact hyr, o, by rw [← e2]; exact he⟩)))
    · exact .inr (h2 k o hyr he)
theorem rop {e : Ending} {xs : List Fx} {A : Option Addr} {R : Dk.E × Dk.D} (h0 : ∀ k, S k ↔ RB p xs A k) (h : RetOp p xs A W R e W') (hi : Dk.Inv R.2) (hl : Dk.load R.2 ≤ 100000000) (hf : R.2.left ≤ 9223372036854775807) : e = .returned (.int .i64 (eno R.1)) ∧ Now RAt W W' p S R.2 := by
  obtain ⟨h1, ys, A', cap', h2, h3, h4, h5, h6⟩ := h
  exact ⟨h1, rnow h0 ⟨h2, h3, hi, hl, hf⟩ h4 (fun k hk => (h0 k).2 (.inl hk)) h5 h6⟩
end
theorem left_append (d : Dk.D) (n r : ByteArray) : (Dk.append d n r).2.left ≤ d.left := by
  unfold Dk.append
  repeat' split
  all_goals first
    | exact Nat.le_refl _
    | (unfold Dk.goes; split <;> simp)
theorem left_sync (d : Dk.D) (n : ByteArray) : (Dk.sync d n).2.left ≤ d.left := by
  unfold Dk.sync
  repeat' split
  all_goals first
    | exact Nat.le_refl _
    | (unfold Dk.goes; split <;> simp)
theorem left_rename (d : Dk.D) (n m : ByteArray) : (Dk.rename d n m).2.left ≤ d.left := by
  unfold Dk.rename
  repeat' split
  all_goals first
    | exact Nat.le_refl _
    | (unfold Dk.goes; split <;> simp)
theorem left_delete (d : Dk.D) (n : ByteArray) : (Dk.delete d n).2.left ≤ d.left := by
  unfold Dk.delete
  repeat' split
  all_goals first
    | exact Nat.le_refl _
    | (unfold Dk.goes; split <;> simp)
section
variable (W : World) (p : Nat) (S : Nat → Prop) (d : Dk.D)
theorem rkAppend (n r : ByteArray) (h : RAt W p S d) (hl : Dk.load d + 2 + n.size + r.size ≤ 100000000) :
    Calls Try.prog 32 #[.pointer (some ⟨p, 0, none⟩), .string n, .string r] W fun e w' => e = .returned (.int .i64 (eno (Dk.append d n r).1)) ∧ Now RAt W w' p S (Dk.append d n r).2 := by
  have hi := rinv h
  have hf := rleft h
  obtain ⟨xs, A, cap, h1, h0⟩ := h
  exact (rAppend_any W p xs A cap d h1 n r).mono fun e w' hh => rop h0 hh (Dk.inv_append hi n r) (Nat.le_trans (Dk.load_append hi n r) hl) (Nat.le_trans (left_append d n r) hf)
theorem rkRename (n m : ByteArray) (h : RAt W p S d) (hl : Dk.load d + m.size ≤ 100000000) :
    Calls Try.prog 34 #[.pointer (some ⟨p, 0, none⟩), .string n, .string m] W fun e w' => e = .returned (.int .i64 (eno (Dk.rename d n m).1)) ∧ Now RAt W w' p S (Dk.rename d n m).2 := by
  have hi := rinv h
  have hf := rleft h
  obtain ⟨xs, A, cap, h1, h0⟩ := h
  exact (rRename_any W p xs A cap d h1 n m).mono fun e w' hh => rop h0 hh (Dk.inv_rename hi n m) (Nat.le_trans (Dk.load_rename hi n m) hl) (Nat.le_trans (left_rename d n m) hf)
theorem rkDelete (n : ByteArray) (h : RAt W p S d) :
    Calls Try.prog 35 #[.pointer (some ⟨p, 0, none⟩), .string n] W fun e w' => e = .returned (.int .i64 (eno (Dk.delete d n).1)) ∧ Now RAt W w' p S (Dk.delete d n).2 := by
  have hi := rinv h
  have hf := rleft h
  have hl := rload h
  obtain ⟨xs, A, cap, h1, h0⟩ := h
  exact (rDelete_any W p xs A cap d h1 n).mono fun e w' hh => rop h0 hh (Dk.inv_delete hi n) (Nat.le_trans (Dk.load_delete d n) hl) (Nat.le_trans (left_delete d n) hf)
theorem rkSync (n : ByteArray) (h : RAt W p S d) :
    Calls Try.prog 33 #[.pointer (some ⟨p, 0, none⟩), .string n] W fun e w' => e = .returned (.int .i64 (eno (Dk.sync d n).1)) ∧ Now RAt W w' p S (Dk.sync d n).2 := by
  have hi := rinv h
  have hf := rleft h
  have hl := rload h
  obtain ⟨xs, A, cap, h1, h0⟩ := h
  refine (rSync_any W p xs A cap d h1 n).mono fun e w' hh => ?_
  obtain ⟨e1, ys, h2, h3, h4, h5⟩ := hh
  exact ⟨e1, rnow h0 ⟨h2, h3, Dk.inv_sync hi n, Nat.le_trans (Dk.load_sync hi n) hl, Nat.le_trans (left_sync d n) hf⟩ h4 (fun k hk => (h0 k).2 (hk.imp id fun h => .inl h)) (fun b o he => .inl he) fun y hy => .inl (h5 y hy)⟩
theorem rkRead (n : ByteArray) (h : RAt W p S d) :
    Calls Try.prog 36 #[.pointer (some ⟨p, 0, none⟩), .string n] W fun e w' => e = .returned (.tuple #[.string ⟨(Dk.read d n).1.toArray⟩, .int .i64 (eno (Dk.read d n).2)]) ∧ Below W.heap.size W w' := by
  obtain ⟨xs, A, cap, h1, h0⟩ := h
  exact rRead_any W p xs A cap d h1 n
theorem rkFuse (n : Int) (h : RAt W p S d) (hn : -9223372036854775808 ≤ n ∧ n ≤ 9223372036854775807) :
    Calls Try.prog 37 #[.pointer (some ⟨p, 0, none⟩), .int .i64 n] W fun e w' => e = .returned (.tuple #[]) ∧ Now RAt W w' p S (Dk.fuse d n) := by
  obtain ⟨xs, A, cap, h1, h0⟩ := h
  refine (fuse_any W p xs A cap d.off d.left h1.ri n).mono fun e w' hh => ?_
  obtain ⟨e1, h2, h3⟩ := hh
  exact ⟨e1, rnow h0 ⟨h2, h1.files, Dk.inv_files h1.inv rfl, h1.load, by show n.toNat ≤ _; omega⟩ h3 (fun k hk => (h0 k).2 (.inl hk)) (fun b o he => .inl he) fun y hy => .inl ⟨y, hy, rfl, rfl⟩⟩
theorem rkCrash (ks ts : List Int) (KA TA : Option Addr) (kc tc : Nat) (h : RAt W p S d) (hg : GivenC W ks ts KA TA) (hk : Away S KA (ic ks)) (ht : Away S TA (ic ts)) :
    Calls Try.prog 38 #[.pointer (some ⟨p, 0, none⟩), .agg #[.slice KA ks.length kc, .slice TA ts.length tc]] W fun e w' => e = .returned (.tuple #[]) ∧ Now RAt W w' p S (Dk.crash d ks ts) := by
  obtain ⟨xs, A, cap, h1, h0⟩ := h
  have hp : S p := (h0 p).2 (.inl rfl)
  refine (crash_any W p xs A cap d.off d.left h1.ri (fun x hx => (h1.fl hx).1) (fun x hx => (h1.fl hx).2) h1.len ks ts KA TA kc tc hg (fun b o hv he hs => hk b o hv he (by rw [show b = p from hs]; exact hp)) (fun b o hv he hs => ht b o hv he (by rw [show b = p from hs]; exact hp))).mono fun e w' hh => ?_
  obtain ⟨e1, ys, A', cap', h2, h3, h4, h5, h6⟩ := hh
  rw [h1.files] at h2
  exact ⟨e1, rnow (d' := Dk.crash d ks ts) h0 ⟨h3, h2, Dk.inv_crash h1.inv ks ts, Nat.le_trans (Dk.load_crash h1.inv ks ts) h1.load, h1.left⟩ h4 (fun k hk => (h0 k).2 (.inl hk)) (fun b o he => .inr (h5 b o he)) h6⟩
/-- The power comes on. -/
theorem rkStart (h : RAt W p S d) : W.cell? ⟨p, 1, none⟩ = some (.bool d.off) ∧ W.frozen? ⟨p, 1, none⟩ = false ∧ Now RAt W (W.setCell ⟨p, 1, none⟩ (.bool false)) p S (Dk.start d) := by
  obtain ⟨xs, A, cap, h1, h0⟩ := h
  refine ⟨cell_of_row W p 1 _ _ _ h1.ri.row, frozen_of_row W p 1 _ _ h1.ri.row, ?_⟩
  have hk : Ko (atP p) W (W.setCell ⟨p, 1, none⟩ (.bool false)) := (Ko.refl _ _).setp 1 _
  exact rnow (d' := Dk.start d) h0 ⟨h1.ri.head hk (heap_setCell_same W p 1 _ _ _ h1.ri.row), h1.files, Dk.inv_files h1.inv rfl, h1.load, h1.left⟩ hk (fun k hk => (h0 k).2 (.inl hk)) (fun b o he => .inl he) fun y hy => .inl ⟨y, hy, rfl, rfl⟩
end
end Go.Proofs.Ytjmnoogaffjdiaa
