/-
  What the program's disk is to do, method by method, whatever it looks like in memory.
-/
import Derived.Test.YtjmnoogaffjdiaaRDkBase
set_option linter.unusedSimpArgs false
set_option linter.unusedVariables false
namespace Go.Proofs.Ytjmnoogaffjdiaa
open Go.RowKit
abbrev DkAt := World → Nat → (Nat → Prop) → Dk.D → Prop
/-- At W p S d: in the world W the disk at block p stands for d, by the blocks S alone. -/
structure DiskK (At : DkAt) : Prop where
  lt : ∀ {W p S d}, At W p S d → ∀ k, S k → k < W.heap.size
  stays : ∀ {W W' p S d}, At W p S d → (∀ k, S k → W'.heap[k]? = W.heap[k]?) → At W' p S d
  inv : ∀ {W p S d}, At W p S d → Dk.Inv d
  load : ∀ {W p S d}, At W p S d → Dk.load d ≤ 100000000
  left : ∀ {W p S d}, At W p S d → d.left ≤ 9223372036854775807
  new : ∀ W, Calls Try.prog 12 #[] W fun e w' => ∃ p S, e = .returned (.pointer (some ⟨p, 0, none⟩)) ∧ At w' p S Dk.D.new ∧ (∀ k, S k → W.heap.size ≤ k) ∧ Below W.heap.size W w'
  append : ∀ W p S d (n r : ByteArray), At W p S d → Dk.load d + 2 + n.size + r.size ≤ 100000000 →
    Calls Try.prog 21 #[.pointer (some ⟨p, 0, none⟩), .string n, .string r] W fun e w' => e = .returned (.int .i64 (eno (Dk.append d n r).1)) ∧ Now At W w' p S (Dk.append d n r).2
  sync : ∀ W p S d (n : ByteArray), At W p S d → n.size ≤ 100000000 →
    Calls Try.prog 22 #[.pointer (some ⟨p, 0, none⟩), .string n] W fun e w' => e = .returned (.int .i64 (eno (Dk.sync d n).1)) ∧ Now At W w' p S (Dk.sync d n).2
  rename : ∀ W p S d (n m : ByteArray), At W p S d → n.size ≤ 100000000 → Dk.load d + m.size ≤ 100000000 →
    Calls Try.prog 23 #[.pointer (some ⟨p, 0, none⟩), .string n, .string m] W fun e w' => e = .returned (.int .i64 (eno (Dk.rename d n m).1)) ∧ Now At W w' p S (Dk.rename d n m).2
  delete : ∀ W p S d (n : ByteArray), At W p S d → n.size ≤ 100000000 →
    Calls Try.prog 24 #[.pointer (some ⟨p, 0, none⟩), .string n] W fun e w' => e = .returned (.int .i64 (eno (Dk.delete d n).1)) ∧ Now At W w' p S (Dk.delete d n).2
  read : ∀ W p S d (n : ByteArray), At W p S d → n.size ≤ 100000000 →
    Calls Try.prog 19 #[.pointer (some ⟨p, 0, none⟩), .string n] W fun e w' => e = .returned (.tuple #[.string ⟨(Dk.read d n).1.toArray⟩, .int .i64 (eno (Dk.read d n).2)]) ∧ Below W.heap.size W w'
  list : ∀ W p S d, At W p S d →
    Calls Try.prog 25 #[.pointer (some ⟨p, 0, none⟩)] W fun e w' => ∃ A cap, e = .returned (.slice A (Dk.list d).length cap) ∧ Lies w' A (sc (Dk.list d)) ∧ (∀ b off, Dk.list d ≠ [] → A = some ⟨b, off, none⟩ → W.heap.size ≤ b) ∧ Below W.heap.size W w'
  records : ∀ W p S d (n : ByteArray), At W p S d → n.size ≤ 100000000 →
    Calls Try.prog 20 #[.pointer (some ⟨p, 0, none⟩), .string n] W fun e w' => e = .returned (.tuple #[.int .i64 ((Dk.records d n).1 : Int), .int .i64 ((Dk.records d n).2 : Int)]) ∧ Below W.heap.size W w'
  fuse : ∀ W p S d (n : Int), At W p S d → -9223372036854775808 ≤ n ∧ n ≤ 9223372036854775807 →
    Calls Try.prog 16 #[.pointer (some ⟨p, 0, none⟩), .int .i64 n] W fun e w' => e = .returned (.tuple #[]) ∧ Now At W w' p S (Dk.fuse d n)
  fused : ∀ W p S d, At W p S d →
    Calls Try.prog 26 #[.pointer (some ⟨p, 0, none⟩)] W fun e w' => e = .returned (.int .i64 (d.left : Int)) ∧ Below W.heap.size W w'
  crash : ∀ W p S d (ks ts : List Int) (KA TA : Option Addr) (kc tc : Nat), At W p S d → GivenC W ks ts KA TA → Away S KA (ic ks) → Away S TA (ic ts) →
    Calls Try.prog 17 #[.pointer (some ⟨p, 0, none⟩), .agg #[.slice KA ks.length kc, .slice TA ts.length tc]] W fun e w' => e = .returned (.tuple #[]) ∧ Now At W w' p S (Dk.crash d ks ts)
  start : ∀ W p S d, At W p S d →
    Calls Try.prog 18 #[.pointer (some ⟨p, 0, none⟩)] W fun e w' => e = .returned (.tuple #[]) ∧ Now At W w' p S (Dk.start d)
  down : ∀ W p S d, At W p S d →
    Calls Try.prog 27 #[.pointer (some ⟨p, 0, none⟩)] W fun e w' => e = .returned (.bool d.off) ∧ Below W.heap.size W w'
  twin : ∀ W p S d, At W p S d →
    Calls Try.prog 28 #[.pointer (some ⟨p, 0, none⟩)] W fun e w' => ∃ p' S', e = .returned (.pointer (some ⟨p', 0, none⟩)) ∧ At w' p' S' d ∧ (∀ k, S' k → W.heap.size ≤ k) ∧ Below W.heap.size W w'
section
variable {At : DkAt}
theorem DiskK.below (K : DiskK At) {W W' : World} {p : Nat} {S : Nat → Prop} {d : Dk.D} (h : At W p S d) (hb : Below W.heap.size W W') : At W' p S d := K.stays h fun k hk => hb.block k (K.lt h k hk)
theorem DiskK.ko (K : DiskK At) {W W' : World} {p : Nat} {S T : Nat → Prop} {d : Dk.D} (h : At W p S d) (hb : Ko T W W') (hs : ∀ k, S k → ¬ T k) : At W' p S d := K.stays h fun k hk => hb.block k (K.lt h k hk) (hs k hk)
/-- Nothing has turned: it stands as it stood. -/
theorem DiskK.now (K : DiskK At) {W W' : World} {p : Nat} {S : Nat → Prop} {d : Dk.D} (h : At W p S d) (hb : Below W.heap.size W W') : Now At W W' p S d := ⟨⟨S, K.below h hb, fun _ hk => .inl hk⟩, Ko.bel hb⟩
end
end Go.Proofs.Ytjmnoogaffjdiaa
