/-
  The disk's methods, one behind the other: what stood for a disk stands for it still.
-/
import Derived.Test.YtjmnoogaffjdiaaRDkPlays
set_option linter.unusedSimpArgs false
set_option linter.unusedVariables false
namespace Go.Proofs.Ytjmnoogaffjdiaa
open Go.RowKit
section
variable {At : DkAt} {w W : World} {p : Nat} {S : Nat → Prop} {d : Dk.D}
theorem Now.start (h : At w p S d) : Now At w w p S d := ⟨⟨S, h, fun _ hk => .inl hk⟩, Ko.refl _ _⟩
theorem DiskK.more (K : DiskK At) (hn : Now At w W p S d) {W' : World} (hb : Below W.heap.size W W') : Now At w W' p S d := by
  obtain ⟨⟨S', h1, h2⟩, h3⟩ := hn
  exact Now.trans h3 h2 (K.now h1 hb)
theorem DiskK.appendN (K : DiskK At) (hn : Now At w W p S d) (n r : ByteArray) (hl : Dk.load d + 2 + n.size + r.size ≤ 100000000) :
    Calls Try.prog 21 #[.pointer (some ⟨p, 0, none⟩), .string n, .string r] W fun e w' => e = .returned (.int .i64 (eno (Dk.append d n r).1)) ∧ Now At w w' p S (Dk.append d n r).2 := by
  obtain ⟨⟨S', h1, h2⟩, h3⟩ := hn
  exact (K.append W p S' d n r h1 hl).mono fun e w' ⟨e1, e2⟩ => ⟨e1, Now.trans h3 h2 e2⟩
theorem DiskK.syncN (K : DiskK At) (hn : Now At w W p S d) (n : ByteArray) (hl : n.size ≤ 100000000) :
    Calls Try.prog 22 #[.pointer (some ⟨p, 0, none⟩), .string n] W fun e w' => e = .returned (.int .i64 (eno (Dk.sync d n).1)) ∧ Now At w w' p S (Dk.sync d n).2 := by
  obtain ⟨⟨S', h1, h2⟩, h3⟩ := hn
  exact (K.sync W p S' d n h1 hl).mono fun e w' ⟨e1, e2⟩ => ⟨e1, Now.trans h3 h2 e2⟩
theorem DiskK.renameN (K : DiskK At) (hn : Now At w W p S d) (n m : ByteArray) (hn1 : n.size ≤ 100000000) (hl : Dk.load d + m.size ≤ 100000000) :
    Calls Try.prog 23 #[.pointer (some ⟨p, 0, none⟩), .string n, .string m] W fun e w' => e = .returned (.int .i64 (eno (Dk.rename d n m).1)) ∧ Now At w w' p S (Dk.rename d n m).2 := by
  obtain ⟨⟨S', h1, h2⟩, h3⟩ := hn
  exact (K.rename W p S' d n m h1 hn1 hl).mono fun e w' ⟨e1, e2⟩ => ⟨e1, Now.trans h3 h2 e2⟩
theorem DiskK.deleteN (K : DiskK At) (hn : Now At w W p S d) (n : ByteArray) (hl : n.size ≤ 100000000) :
    Calls Try.prog 24 #[.pointer (some ⟨p, 0, none⟩), .string n] W fun e w' => e = .returned (.int .i64 (eno (Dk.delete d n).1)) ∧ Now At w w' p S (Dk.delete d n).2 := by
  obtain ⟨⟨S', h1, h2⟩, h3⟩ := hn
  exact (K.delete W p S' d n h1 hl).mono fun e w' ⟨e1, e2⟩ => ⟨e1, Now.trans h3 h2 e2⟩
theorem DiskK.readN (K : DiskK At) (hn : Now At w W p S d) (n : ByteArray) (hl : n.size ≤ 100000000) :
    Calls Try.prog 19 #[.pointer (some ⟨p, 0, none⟩), .string n] W fun e w' => e = .returned (.tuple #[.string ⟨(Dk.read d n).1.toArray⟩, .int .i64 (eno (Dk.read d n).2)]) ∧ Now At w w' p S d := by
  obtain ⟨⟨S', h1, h2⟩, h3⟩ := hn
  exact (K.read W p S' d n h1 hl).mono fun e w' ⟨e1, e2⟩ => ⟨e1, Now.trans h3 h2 (K.now h1 e2)⟩
theorem DiskK.recordsN (K : DiskK At) (hn : Now At w W p S d) (n : ByteArray) (hl : n.size ≤ 100000000) :
    Calls Try.prog 20 #[.pointer (some ⟨p, 0, none⟩), .string n] W fun e w' => e = .returned (.tuple #[.int .i64 ((Dk.records d n).1 : Int), .int .i64 ((Dk.records d n).2 : Int)]) ∧ Now At w w' p S d := by
  obtain ⟨⟨S', h1, h2⟩, h3⟩ := hn
  exact (K.records W p S' d n h1 hl).mono fun e w' ⟨e1, e2⟩ => ⟨e1, Now.trans h3 h2 (K.now h1 e2)⟩
theorem DiskK.fuseN (K : DiskK At) (hn : Now At w W p S d) (n : Int) (h : -9223372036854775808 ≤ n ∧ n ≤ 9223372036854775807) :
    Calls Try.prog 16 #[.pointer (some ⟨p, 0, none⟩), .int .i64 n] W fun e w' => e = .returned (.tuple #[]) ∧ Now At w w' p S (Dk.fuse d n) := by
  obtain ⟨⟨S', h1, h2⟩, h3⟩ := hn
  exact (K.fuse W p S' d n h1 h).mono fun e w' ⟨e1, e2⟩ => ⟨e1, Now.trans h3 h2 e2⟩
theorem DiskK.fusedN (K : DiskK At) (hn : Now At w W p S d) :
    Calls Try.prog 26 #[.pointer (some ⟨p, 0, none⟩)] W fun e w' => e = .returned (.int .i64 (d.left : Int)) ∧ Now At w w' p S d := by
  obtain ⟨⟨S', h1, h2⟩, h3⟩ := hn
  exact (K.fused W p S' d h1).mono fun e w' ⟨e1, e2⟩ => ⟨e1, Now.trans h3 h2 (K.now h1 e2)⟩
theorem DiskK.downN (K : DiskK At) (hn : Now At w W p S d) :
    Calls Try.prog 27 #[.pointer (some ⟨p, 0, none⟩)] W fun e w' => e = .returned (.bool d.off) ∧ Now At w w' p S d := by
  obtain ⟨⟨S', h1, h2⟩, h3⟩ := hn
  exact (K.down W p S' d h1).mono fun e w' ⟨e1, e2⟩ => ⟨e1, Now.trans h3 h2 (K.now h1 e2)⟩
theorem DiskK.startN (K : DiskK At) (hn : Now At w W p S d) :
    Calls Try.prog 18 #[.pointer (some ⟨p, 0, none⟩)] W fun e w' => e = .returned (.tuple #[]) ∧ Now At w w' p S (Dk.start d) := by
  obtain ⟨⟨S', h1, h2⟩, h3⟩ := hn
  exact (K.start W p S' d h1).mono fun e w' ⟨e1, e2⟩ => ⟨e1, Now.trans h3 h2 e2⟩
/-- Choices that were there ahead of the disk. -/
theorem DiskK.crashN (K : DiskK At) {w0 : World} (hb : Below w0.heap.size w0 w) (hS : ∀ k, S k → w0.heap.size ≤ k) (hn : Now At w W p S d) (ks ts : List Int) (KA TA : Option Addr) (kc tc : Nat) (gc : GivenC w0 ks ts KA TA) :
    Calls Try.prog 17 #[.pointer (some ⟨p, 0, none⟩), .agg #[.slice KA ks.length kc, .slice TA ts.length tc]] W fun e w' => e = .returned (.tuple #[]) ∧ Now At w w' p S (Dk.crash d ks ts) := by
  have hw := hn.below hb hS
  obtain ⟨⟨S', h1, h2⟩, h3⟩ := hn
  have hS' : ∀ k, S' k → w0.heap.size ≤ k := fun k hk => (h2 k hk).elim (hS k) (fun h => Nat.le_trans hb.size h)
  exact (K.crash W p S' d ks ts KA TA kc tc h1 (gc.below hw) (Away.of_lt gc.kl (Nat.le_refl _) hS') (Away.of_lt gc.tl (Nat.le_refl _) hS')).mono fun e w' ⟨e1, e2⟩ => ⟨e1, Now.trans h3 h2 e2⟩
/-- Choices that are laid at once, each of one number. -/
theorem DiskK.crash1 (K : DiskK At) (hn : Now At w W p S d) (k t : Int) (hk : -9223372036854775808 ≤ k ∧ k ≤ 9223372036854775807) (ht : -9223372036854775808 ≤ t ∧ t ≤ 9223372036854775807) :
    Calls Try.prog 17 #[.pointer (some ⟨p, 0, none⟩), .agg #[.slice (some ⟨W.heap.size, 0, none⟩) 1 1, .slice (some ⟨W.heap.size + 1, 0, none⟩) 1 1]] ((W.alloc (.cells #[.int .i64 k] 3)).alloc (.cells #[.int .i64 t] 3)) fun e w' => e = .returned (.tuple #[]) ∧ Now At w w' p S (Dk.crash d [k] [t]) := by
  have hb : Below W.heap.size W ((W.alloc (.cells #[.int .i64 k] 3)).alloc (.cells #[.int .i64 t] 3)) := bnew (bnew (Below.refl _ _) _) _
  obtain ⟨⟨S', h1, h2⟩, h3⟩ := hn
  have l1 : Lies ((W.alloc (.cells #[.int .i64 k] 3)).alloc (.cells #[.int .i64 t] 3)) (some ⟨W.heap.size, 0, none⟩) (ic [k]) := by
    have := (Lies.new W (ic [k]) 3)
    exact this.below (w := W.alloc (.cells (ic [k]).toArray 3)) (bnew (Below.refl _ _) _)
  have l2 : Lies ((W.alloc (.cells #[.int .i64 k] 3)).alloc (.cells #[.int .i64 t] 3)) (some ⟨W.heap.size + 1, 0, none⟩) (ic [t]) := by
    have := (Lies.at_ (W.alloc (.cells #[.int .i64 k] 3)) (ic [t]) 3 (W.heap.size + 1) (by simp))
    exact this
  have gc : GivenC ((W.alloc (.cells #[.int .i64 k] 3)).alloc (.cells #[.int .i64 t] 3)) [k] [t] (some ⟨W.heap.size, 0, none⟩) (some ⟨W.heap.size + 1, 0, none⟩) :=
    ⟨l1, l2, fun n hn => by rw [List.mem_singleton.1 hn]; exact hk, fun n hn => by rw [List.mem_singleton.1 hn]; exact ht, by simp [maxLen], by simp [maxLen]⟩
  have a1 : Away S' (some ⟨W.heap.size, 0, none⟩) (ic [k]) := fun b off _ he hs => by
    simp only [Option.some.injEq, Addr.mk.injEq, and_true] at he
    have := K.lt h1 b hs; omega
  have a2 : Away S' (some ⟨W.heap.size + 1, 0, none⟩) (ic [t]) := fun b off _ he hs => by
    simp only [Option.some.injEq, Addr.mk.injEq, and_true] at he
    have := K.lt h1 b hs; omega
  exact (K.crash _ p S' d [k] [t] _ _ 1 1 (K.below h1 hb) gc a1 a2).mono fun e w' ⟨e1, e2⟩ => ⟨e1, Now.trans h3 h2 (K.after hb e2)⟩
end
end Go.Proofs.Ytjmnoogaffjdiaa
