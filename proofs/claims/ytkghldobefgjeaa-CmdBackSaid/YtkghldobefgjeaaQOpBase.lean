/-
  Operator's commands: their cells; tokens by any walker; cmd.walkSlot and cmd.walkAmount walked.
-/
import Derived.Test.YtkghldobefgjeaaQWkTokR
set_option linter.unusedSimpArgs false
set_option linter.unusedVariables false
namespace Go.Proofs.Ytkghldobefgjeaa
open Go.RowKit
namespace Og
structure Oper where
  op : Nat
  slot : Nat
  tok : Tk
  role : Nat
  keys : Int
  bytes : Int
  rate : Int
  burst : Int
  node : Nat
  deriving DecidableEq
def Oper.zero : Oper := ⟨0, 0, Tk.zero, 0, 0, 0, 0, 0, 0⟩
/-- An amount as a uint64. -/
def un (n : Int) : Nat := (n % 18446744073709551616).toNat
structure Fits (c : Oper) : Prop where
  op : c.op < 256
  slot : c.slot < 256
  role : c.role < 256
  node : c.node < 256
  keys : -9223372036854775808 ≤ c.keys ∧ c.keys < 9223372036854775808
  bytes : -9223372036854775808 ≤ c.bytes ∧ c.bytes < 9223372036854775808
  rate : -9223372036854775808 ≤ c.rate ∧ c.rate < 9223372036854775808
  burst : -9223372036854775808 ≤ c.burst ∧ c.burst < 9223372036854775808
end Og
/-- A walker's tokens. -/
structure WkrK {T : TypeId} {A : Wk.Alg} {B : Nat} (K : Wkr T A B) : Prop where
  cK : ∀ (W : World) (g : Nat) (o : Option Nat) (s : Wk.St) (t : Og.Tk), K.At W g o s → s.l.length ≤ 1000000000 →
    Calls Try.prog K.fK #[.pointer (some ⟨g, 0, none⟩), .agg (tk8 t)] W fun e w' => e = .returned (.agg (tk8 (Og.Tk.of (A.tok s t.l).1))) ∧ ∃ o', K.At w' g o' (A.tok s t.l).2 ∧ Kept g o o' W w'
theorem wrKK (B : Nat) : WkrK (wrK B) := ⟨fun W g o s t h hl => wrK_any B W g o s t.a0 t.a1 t.a2 t.a3 t.a4 t.a5 t.a6 t.a7 h hl⟩
theorem rdKK (B : Nat) : WkrK (rdK B) := ⟨fun W g o s t h hl => by
  by_cases h8 : 8 ≤ s.l.length
  · obtain ⟨b0, b1, b2, b3, b4, b5, b6, b7, hb⟩ := eight_of (l := s.l.take 8) (by rw [List.length_take]; omega)
    have hs : s.l = b0 :: b1 :: b2 :: b3 :: b4 :: b5 :: b6 :: b7 :: s.l.drop 8 := by
      have := List.take_append_drop 8 s.l
      rw [hb] at this; simpa using this.symm
    have he : Wk.rA.tok s t.l = ([b0, b1, b2, b3, b4, b5, b6, b7], ⟨s.l.drop 8, s.bad⟩) := by
      show Wk.rK s t.l = _
      unfold Wk.rK; rw [if_pos h8, hb]
    rw [he]
    exact rdK_yes B W g o s t.a0 t.a1 t.a2 t.a3 t.a4 t.a5 t.a6 t.a7 b0 b1 b2 b3 b4 b5 b6 b7 _ h hl hs
  · have he : Wk.rA.tok s t.l = (List.replicate 8 0, Wk.stop) := by
      show Wk.rK s t.l = _
      unfold Wk.rK; rw [if_neg h8]
    rw [he]
    exact rdK_no B W g o s t.a0 t.a1 t.a2 t.a3 t.a4 t.a5 t.a6 t.a7 h hl h8⟩
theorem un_lt (n : Int) : Og.un n < Nm.top := by unfold Og.un Nm.top; omega
theorem un_wrap (n : Int) : IntKind.u64.wrap n = (Og.un n : Int) := by
  simp only [IntKind.wrap, IntKind.bits, IntKind.signed, Og.un]
  simp
  omega
theorem i64_small (n : Nat) (h : n ≤ 2147483647) : IntKind.i64.wrap (n : Int) = (n : Int) := by
  simp only [IntKind.wrap, IntKind.bits, IntKind.signed]
  simp
  omega
set_option maxRecDepth 100000 in
set_option maxHeartbeats 1000000 in
theorem walkSlot_any {T : TypeId} {A : Wk.Alg} {B : Nat} (K : Wkr T A B) (W : World) (g : Nat) (o : Option Nat) (s : Wk.St) (n : Nat) (h : K.At W g o s) (hl : s.l.length ≤ 1000000000) (hn : n < 256) :
    Calls Try.prog 90 #[.iface T (.pointer (some ⟨g, 0, none⟩)), .int .u8 (n : Int)] W fun e w' => e = .returned (.int .u8 ((A.oct s n 0 3).1 : Int)) ∧ ∃ o', K.At w' g o' (A.oct s n 0 3).2 ∧ Kept g o o' W w' := by
  have hc := Lib.hid (K.cO W g o s n 0 3 h hl hn (by omega) (by omega))
  have mO := K.mO g
  have eO := K.eO
  clear h
  go_enter Try.func90, Try.ntmps90
  go_wp2_with fail
  refine hc.out.mono ?_
  rintro e w1 ⟨rfl, hA⟩
  have HA := Lib.hid hA
  clear hA hc
  go_wp2_with fail
  go_ret
  exact ⟨rfl, HA.out⟩
set_option maxRecDepth 100000 in
set_option maxHeartbeats 1000000 in
theorem walkAmount_any {T : TypeId} {A : Wk.Alg} {B : Nat} (K : Wkr T A B) (W : World) (g : Nat) (o : Option Nat) (s : Wk.St) (n : Int) (h : K.At W g o s) (hl : s.l.length ≤ 1000000000) :
    Calls Try.prog 91 #[.iface T (.pointer (some ⟨g, 0, none⟩)), .int .i64 n] W fun e w' => e = .returned (.int .i64 ((A.grp s (Og.un n) 2147483647).1 : Int)) ∧ ∃ o', K.At w' g o' (A.grp s (Og.un n) 2147483647).2 ∧ Kept g o o' W w' := by
  have hc := K.cG W g o s (Og.un n) 2147483647 h hl (un_lt n) (by unfold Nm.top; omega)
  rw [show (((2147483647 : Nat) : Int)) = 2147483647 from rfl] at hc
  have hle := A.leG s (Og.un n) 2147483647
  obtain ⟨r, hr⟩ : ∃ r, r = A.grp s (Og.un n) 2147483647 := ⟨_, rfl⟩
  rw [← hr] at hc hle ⊢
  obtain ⟨x, s1⟩ := r
  simp only at hc hle ⊢
  have Hc := Lib.hid hc
  have hw := un_wrap n
  have hw2 := i64_small x hle
  have mG := K.mG g
  have eG := K.eG
  clear h hc hr hle
  go_enter Try.func91, Try.ntmps91
  go_wp2_with fail
  refine Hc.out.mono ?_
  rintro e w1 ⟨rfl, hA⟩
  have HA := Lib.hid hA
  clear hA Hc
  go_wp2_with fail
  go_ret
  exact ⟨rfl, HA.out⟩
end Go.Proofs.Ytkghldobefgjeaa
