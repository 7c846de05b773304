/-
  Operator's commands: their cells; tokens by any walker; cmd.walkSlot and cmd.walkAmount walked.
  cmd.walkOper walked, by any walker. WRITTEN BY wip/tools/gen_wkoper.py.
  Operator's commands held against each other.
-/
import Derived.Test.YtlcgjlganmblpaaRWkT
import Derived.Test.YtlcgjlganmblpaaRTok
set_option linter.unusedSimpArgs false
set_option linter.unusedVariables false
namespace Go.Proofs.Ytlcgjlganmblpaa
open Go.RowKit
namespace Og
structure Oper where
  op : Nat
  slot : Nat
  tok : Tk
  role : Nat
  keys : Int
  bytes : Int
  rate : Int
  burst : Int
  node : Nat
  deriving DecidableEq
def Oper.zero : Oper := ⟨0, 0, Tk.zero, 0, 0, 0, 0, 0, 0⟩
/-- An amount as a uint64. -/
def un (n : Int) : Nat := (n % 18446744073709551616).toNat
structure Fits (c : Oper) : Prop where
  op : c.op < 256
  slot : c.slot < 256
  role : c.role < 256
  node : c.node < 256
  keys : -9223372036854775808 ≤ c.keys ∧ c.keys < 9223372036854775808
  bytes : -9223372036854775808 ≤ c.bytes ∧ c.bytes < 9223372036854775808
  rate : -9223372036854775808 ≤ c.rate ∧ c.rate < 9223372036854775808
  burst : -9223372036854775808 ≤ c.burst ∧ c.burst < 9223372036854775808
end Og
/-- A walker's tokens. -/
structure WkrK {T : TypeId} {A : Wk.Alg} {B : Nat} (K : Wkr T A B) : Prop where
  cK : ∀ (W : World) (g : Nat) (o : Option Nat) (s : Wk.St) (t : Og.Tk), K.At W g o s → s.l.length ≤ 1000000000 →
    Calls Try.prog K.fK #[.pointer (some ⟨g, 0, none⟩), .agg (tk8 t)] W fun e w' => e = .returned (.agg (tk8 (Og.Tk.of (A.tok s t.l).1))) ∧ ∃ o', K.At w' g o' (A.tok s t.l).2 ∧ Kept g o o' W w'
theorem wrKK (B : Nat) : WkrK (wrK B) := ⟨fun W g o s t h hl => wrK_any B W g o s t.a0 t.a1 t.a2 t.a3 t.a4 t.a5 t.a6 t.a7 h hl⟩
theorem rdKK (B : Nat) : WkrK (rdK B) := ⟨fun W g o s t h hl => by
  by_cases h8 : 8 ≤ s.l.length
  · obtain ⟨b0, b1, b2, b3, b4, b5, b6, b7, hb⟩ := eight_of (l := s.l.take 8) (by rw [List.length_take]; omega)
    have hs : s.l = b0 :: b1 :: b2 :: b3 :: b4 :: b5 :: b6 :: b7 :: s.l.drop 8 := by
      have := List.take_append_drop 8 s.l
      rw [hb] at this; simpa using this.symm
    have he : Wk.rA.tok s t.l = ([b0, b1, b2, b3, b4, b5, b6, b7], ⟨s.l.drop 8, s.bad⟩) := by
      show Wk.rK s t.l = _
      unfold Wk.rK; rw [if_pos h8, hb]
    rw [he]
    exact rdK_yes B W g o s t.a0 t.a1 t.a2 t.a3 t.a4 t.a5 t.a6 t.a7 b0 b1 b2 b3 b4 b5 b6 b7 _ h hl hs
  · have he : Wk.rA.tok s t.l = (List.replicate 8 0, Wk.stop) := by
      show Wk.rK s t.l = _
      unfold Wk.rK; rw [if_neg h8]
    rw [he]
    exact rdK_no B W g o s t.a0 t.a1 t.a2 t.a3 t.a4 t.a5 t.a6 t.a7 h hl h8⟩
theorem un_lt (n : Int) : Og.un n < Nm.top := by unfold Og.un Nm.top; omega
theorem un_wrap (n : Int) : IntKind.u64.wrap n = (Og.un n : Int) := by
  simp only [IntKind.wrap, IntKind.bits, IntKind.signed, Og.un]
  simp
  omega
theorem i64_small (n : Nat) (h : n ≤ 2147483647) : IntKind.i64.wrap (n : Int) = (n : Int) := by
  simp only [IntKind.wrap, IntKind.bits, IntKind.signed]
  simp
  omega
set_option maxRecDepth 100000 in
set_option maxHeartbeats 1000000 in
theorem walkSlot_any {T : TypeId} {A : Wk.Alg} {B : Nat} (K : Wkr T A B) (W : World) (g : Nat) (o : Option Nat) (s : Wk.St) (n : Nat) (h : K.At W g o s) (hl : s.l.length ≤ 1000000000) (hn : n < 256) :
    Calls Try.prog 81 #[.iface T (.pointer (some ⟨g, 0, none⟩)), .int .u8 (n : Int)] W fun e w' => e = .returned (.int .u8 ((A.oct s n 0 3).1 : Int)) ∧ ∃ o', K.At w' g o' (A.oct s n 0 3).2 ∧ Kept g o o' W w' := by
  have hc := Lib.hid (K.cO W g o s n 0 3 h hl hn (by omega) (by omega))
  have mO := K.mO g
  have eO := K.eO
  clear h
  go_enter Try.func81, Try.ntmps81
  go_wp2_with fail
  refine hc.out.mono ?_
  rintro e w1 ⟨rfl, hA⟩
  have HA := Lib.hid hA
  clear hA hc
  go_wp2_with fail
  go_ret
  exact ⟨rfl, HA.out⟩
set_option maxRecDepth 100000 in
set_option maxHeartbeats 1000000 in
theorem walkAmount_any {T : TypeId} {A : Wk.Alg} {B : Nat} (K : Wkr T A B) (W : World) (g : Nat) (o : Option Nat) (s : Wk.St) (n : Int) (h : K.At W g o s) (hl : s.l.length ≤ 1000000000) :
    Calls Try.prog 82 #[.iface T (.pointer (some ⟨g, 0, none⟩)), .int .i64 n] W fun e w' => e = .returned (.int .i64 ((A.grp s (Og.un n) 2147483647).1 : Int)) ∧ ∃ o', K.At w' g o' (A.grp s (Og.un n) 2147483647).2 ∧ Kept g o o' W w' := by
  have hc := K.cG W g o s (Og.un n) 2147483647 h hl (un_lt n) (by unfold Nm.top; omega)
  rw [show (((2147483647 : Nat) : Int)) = 2147483647 from rfl] at hc
  have hle := A.leG s (Og.un n) 2147483647
  obtain ⟨r, hr⟩ : ∃ r, r = A.grp s (Og.un n) 2147483647 := ⟨_, rfl⟩
  rw [← hr] at hc hle ⊢
  obtain ⟨x, s1⟩ := r
  simp only at hc hle ⊢
  have Hc := Lib.hid hc
  have hw := un_wrap n
  have hw2 := i64_small x hle
  have mG := K.mG g
  have eG := K.eG
  clear h hc hr hle
  go_enter Try.func82, Try.ntmps82
  go_wp2_with fail
  refine Hc.out.mono ?_
  rintro e w1 ⟨rfl, hA⟩
  have HA := Lib.hid hA
  clear hA Hc
  go_wp2_with fail
  go_ret
  exact ⟨rfl, HA.out⟩
end Go.Proofs.Ytlcgjlganmblpaa
namespace Go.Proofs.Ytlcgjlganmblpaa
open Go.RowKit
def Wk.Alg.tk (A : Wk.Alg) (s : Wk.St) (t : Og.Tk) : Og.Tk × Wk.St := (Og.Tk.of (A.tok s t.l).1, (A.tok s t.l).2)
def Wk.Alg.obody (A : Wk.Alg) (op : Nat) (s : Wk.St) (c : Og.Oper) : Og.Oper × Wk.St :=
  if op = 1 then (⟨op, (A.oct s c.slot 0 3).1, Og.Tk.zero, 0, ((A.grp (A.oct s c.slot 0 3).2 (Og.un c.keys) 2147483647).1 : Int), ((A.grp (A.grp (A.oct s c.slot 0 3).2 (Og.un c.keys) 2147483647).2 (Og.un c.bytes) 2147483647).1 : Int), ((A.grp (A.grp (A.grp (A.oct s c.slot 0 3).2 (Og.un c.keys) 2147483647).2 (Og.un c.bytes) 2147483647).2 (Og.un c.rate) 2147483647).1 : Int), ((A.grp (A.grp (A.grp (A.grp (A.oct s c.slot 0 3).2 (Og.un c.keys) 2147483647).2 (Og.un c.bytes) 2147483647).2 (Og.un c.rate) 2147483647).2 (Og.un c.burst) 2147483647).1 : Int), 0⟩, (A.grp (A.grp (A.grp (A.grp (A.oct s c.slot 0 3).2 (Og.un c.keys) 2147483647).2 (Og.un c.bytes) 2147483647).2 (Og.un c.rate) 2147483647).2 (Og.un c.burst) 2147483647).2)
  else if op = 2 then (⟨op, (A.oct s c.slot 0 3).1, (A.tk (A.oct s c.slot 0 3).2 c.tok).1, (A.oct (A.tk (A.oct s c.slot 0 3).2 c.tok).2 c.role 1 3).1, 0, 0, 0, 0, 0⟩, (A.oct (A.tk (A.oct s c.slot 0 3).2 c.tok).2 c.role 1 3).2)
  else if op = 3 then (⟨op, 0, (A.tk s c.tok).1, 0, 0, 0, 0, 0, 0⟩, (A.tk s c.tok).2)
  else if op = 4 then (⟨op, (A.oct s c.slot 0 3).1, Og.Tk.zero, 0, 0, 0, 0, 0, 0⟩, (A.oct s c.slot 0 3).2)
  else if op = 5 ∨ op = 6 ∨ op = 7 then (⟨op, 0, Og.Tk.zero, 0, 0, 0, 0, 0, (A.oct s c.node 1 5).1⟩, (A.oct s c.node 1 5).2)
  else (⟨op, 0, Og.Tk.zero, 0, 0, 0, 0, 0, 0⟩, s)
def Wk.Alg.oper (A : Wk.Alg) (s : Wk.St) (c : Og.Oper) : Og.Oper × Wk.St := A.obody (A.oct s c.op 1 7).1 (A.oct s c.op 1 7).2 c
def operC (c : Og.Oper) : Array Value := #[.int .u8 (c.op : Int), .int .u8 (c.slot : Int), .int .u8 (c.tok.a0.toNat : Int), .int .u8 (c.tok.a1.toNat : Int), .int .u8 (c.tok.a2.toNat : Int), .int .u8 (c.tok.a3.toNat : Int), .int .u8 (c.tok.a4.toNat : Int), .int .u8 (c.tok.a5.toNat : Int), .int .u8 (c.tok.a6.toNat : Int), .int .u8 (c.tok.a7.toNat : Int), .int .u8 (c.role : Int), .int .i64 c.keys, .int .i64 c.bytes, .int .i64 c.rate, .int .i64 c.burst, .int .u8 (c.node : Int)]
theorem sizeOper : (Try.prog.info? 26).map (·.size) = some 16 := by kernel_rfl
theorem put_tok {T : TypeId} {A : Wk.Alg} {B : Nat} {K : Wkr T A B} {W0 W : World} {g : Nat} {o0 o : Option Nat} {s : Wk.St} {t : TypeId} {a b c : Nat} {cs zs : Array Value} {u : Og.Oper} (h : WS K W0 W g o0 o s t a b c cs zs (operC u)) (x : Og.Tk) :
    WS K W0 (((((((((W).setCell ⟨c, 2, none⟩ (.int .u8 (x.a0.toNat : Int))).setCell ⟨c, 3, none⟩ (.int .u8 (x.a1.toNat : Int))).setCell ⟨c, 4, none⟩ (.int .u8 (x.a2.toNat : Int))).setCell ⟨c, 5, none⟩ (.int .u8 (x.a3.toNat : Int))).setCell ⟨c, 6, none⟩ (.int .u8 (x.a4.toNat : Int))).setCell ⟨c, 7, none⟩ (.int .u8 (x.a5.toNat : Int))).setCell ⟨c, 8, none⟩ (.int .u8 (x.a6.toNat : Int))).setCell ⟨c, 9, none⟩ (.int .u8 (x.a7.toNat : Int))) g o0 o s t a b c cs zs (operC { u with tok := x }) := by
  have h8 := ((((((((h).put 2 (.int .u8 (x.a0.toNat : Int)) rfl).put 3 (.int .u8 (x.a1.toNat : Int)) rfl).put 4 (.int .u8 (x.a2.toNat : Int)) rfl).put 5 (.int .u8 (x.a3.toNat : Int)) rfl).put 6 (.int .u8 (x.a4.toNat : Int)) rfl).put 7 (.int .u8 (x.a5.toNat : Int)) rfl).put 8 (.int .u8 (x.a6.toNat : Int)) rfl).put 9 (.int .u8 (x.a7.toNat : Int)) rfl
  rw [show (((((((((operC u)).setIfInBounds 2 (.int .u8 (x.a0.toNat : Int))).setIfInBounds 3 (.int .u8 (x.a1.toNat : Int))).setIfInBounds 4 (.int .u8 (x.a2.toNat : Int))).setIfInBounds 5 (.int .u8 (x.a3.toNat : Int))).setIfInBounds 6 (.int .u8 (x.a4.toNat : Int))).setIfInBounds 7 (.int .u8 (x.a5.toNat : Int))).setIfInBounds 8 (.int .u8 (x.a6.toNat : Int))).setIfInBounds 9 (.int .u8 (x.a7.toNat : Int)) = operC { u with tok := x } by simp [operC]] at h8
  exact h8
theorem put_oper {T : TypeId} {A : Wk.Alg} {B : Nat} {K : Wkr T A B} {W0 W : World} {g : Nat} {o0 o : Option Nat} {s : Wk.St} {t : TypeId} {a b c : Nat} {cs us : Array Value} {z : Og.Oper} (h : WS K W0 W g o0 o s t a b c cs (operC z) us) (x : Og.Oper) :
    WS K W0 (((((((((((((((((W).setCell ⟨b, 0, none⟩ (.int .u8 (x.op : Int))).setCell ⟨b, 1, none⟩ (.int .u8 (x.slot : Int))).setCell ⟨b, 2, none⟩ (.int .u8 (x.tok.a0.toNat : Int))).setCell ⟨b, 3, none⟩ (.int .u8 (x.tok.a1.toNat : Int))).setCell ⟨b, 4, none⟩ (.int .u8 (x.tok.a2.toNat : Int))).setCell ⟨b, 5, none⟩ (.int .u8 (x.tok.a3.toNat : Int))).setCell ⟨b, 6, none⟩ (.int .u8 (x.tok.a4.toNat : Int))).setCell ⟨b, 7, none⟩ (.int .u8 (x.tok.a5.toNat : Int))).setCell ⟨b, 8, none⟩ (.int .u8 (x.tok.a6.toNat : Int))).setCell ⟨b, 9, none⟩ (.int .u8 (x.tok.a7.toNat : Int))).setCell ⟨b, 10, none⟩ (.int .u8 (x.role : Int))).setCell ⟨b, 11, none⟩ (.int .i64 x.keys)).setCell ⟨b, 12, none⟩ (.int .i64 x.bytes)).setCell ⟨b, 13, none⟩ (.int .i64 x.rate)).setCell ⟨b, 14, none⟩ (.int .i64 x.burst)).setCell ⟨b, 15, none⟩ (.int .u8 (x.node : Int))) g o0 o s t a b c cs (operC x) us := by
  have h8 := ((((((((((((((((h).res 0 (.int .u8 (x.op : Int)) rfl).res 1 (.int .u8 (x.slot : Int)) rfl).res 2 (.int .u8 (x.tok.a0.toNat : Int)) rfl).res 3 (.int .u8 (x.tok.a1.toNat : Int)) rfl).res 4 (.int .u8 (x.tok.a2.toNat : Int)) rfl).res 5 (.int .u8 (x.tok.a3.toNat : Int)) rfl).res 6 (.int .u8 (x.tok.a4.toNat : Int)) rfl).res 7 (.int .u8 (x.tok.a5.toNat : Int)) rfl).res 8 (.int .u8 (x.tok.a6.toNat : Int)) rfl).res 9 (.int .u8 (x.tok.a7.toNat : Int)) rfl).res 10 (.int .u8 (x.role : Int)) rfl).res 11 (.int .i64 x.keys) rfl).res 12 (.int .i64 x.bytes) rfl).res 13 (.int .i64 x.rate) rfl).res 14 (.int .i64 x.burst) rfl).res 15 (.int .u8 (x.node : Int)) rfl
  rw [show (((((((((((((((((operC z)).setIfInBounds 0 (.int .u8 (x.op : Int))).setIfInBounds 1 (.int .u8 (x.slot : Int))).setIfInBounds 2 (.int .u8 (x.tok.a0.toNat : Int))).setIfInBounds 3 (.int .u8 (x.tok.a1.toNat : Int))).setIfInBounds 4 (.int .u8 (x.tok.a2.toNat : Int))).setIfInBounds 5 (.int .u8 (x.tok.a3.toNat : Int))).setIfInBounds 6 (.int .u8 (x.tok.a4.toNat : Int))).setIfInBounds 7 (.int .u8 (x.tok.a5.toNat : Int))).setIfInBounds 8 (.int .u8 (x.tok.a6.toNat : Int))).setIfInBounds 9 (.int .u8 (x.tok.a7.toNat : Int))).setIfInBounds 10 (.int .u8 (x.role : Int))).setIfInBounds 11 (.int .i64 x.keys)).setIfInBounds 12 (.int .i64 x.bytes)).setIfInBounds 13 (.int .i64 x.rate)).setIfInBounds 14 (.int .i64 x.burst)).setIfInBounds 15 (.int .u8 (x.node : Int)) = operC x by simp [operC]] at h8
  exact h8
structure OperAt (W : World) (g : Nat) (c : Og.Oper) : Prop where
  c0 : W.cell? ⟨g, 0, none⟩ = some (.int .u8 (c.op : Int))
  c1 : W.cell? ⟨g, 1, none⟩ = some (.int .u8 (c.slot : Int))
  c2 : W.cell? ⟨g, 2, none⟩ = some (.int .u8 (c.tok.a0.toNat : Int))
  c3 : W.cell? ⟨g, 3, none⟩ = some (.int .u8 (c.tok.a1.toNat : Int))
  c4 : W.cell? ⟨g, 4, none⟩ = some (.int .u8 (c.tok.a2.toNat : Int))
  c5 : W.cell? ⟨g, 5, none⟩ = some (.int .u8 (c.tok.a3.toNat : Int))
  c6 : W.cell? ⟨g, 6, none⟩ = some (.int .u8 (c.tok.a4.toNat : Int))
  c7 : W.cell? ⟨g, 7, none⟩ = some (.int .u8 (c.tok.a5.toNat : Int))
  c8 : W.cell? ⟨g, 8, none⟩ = some (.int .u8 (c.tok.a6.toNat : Int))
  c9 : W.cell? ⟨g, 9, none⟩ = some (.int .u8 (c.tok.a7.toNat : Int))
  c10 : W.cell? ⟨g, 10, none⟩ = some (.int .u8 (c.role : Int))
  c11 : W.cell? ⟨g, 11, none⟩ = some (.int .i64 c.keys)
  c12 : W.cell? ⟨g, 12, none⟩ = some (.int .i64 c.bytes)
  c13 : W.cell? ⟨g, 13, none⟩ = some (.int .i64 c.rate)
  c14 : W.cell? ⟨g, 14, none⟩ = some (.int .i64 c.burst)
  c15 : W.cell? ⟨g, 15, none⟩ = some (.int .u8 (c.node : Int))
  fz : ∀ i, W.frozen? ⟨g, i, none⟩ = false
theorem operAt {W : World} {g : Nat} {c : Og.Oper} (h : W.heap[g]? = some (.cells (operC c) 26 (0, 0))) : OperAt W g c :=
  ⟨cell_of_row W g 0 _ _ _ h, cell_of_row W g 1 _ _ _ h, cell_of_row W g 2 _ _ _ h, cell_of_row W g 3 _ _ _ h, cell_of_row W g 4 _ _ _ h, cell_of_row W g 5 _ _ _ h, cell_of_row W g 6 _ _ _ h, cell_of_row W g 7 _ _ _ h, cell_of_row W g 8 _ _ _ h, cell_of_row W g 9 _ _ _ h, cell_of_row W g 10 _ _ _ h, cell_of_row W g 11 _ _ _ h, cell_of_row W g 12 _ _ _ h, cell_of_row W g 13 _ _ _ h, cell_of_row W g 14 _ _ _ h, cell_of_row W g 15 _ _ _ h, fun i => frozen_of_row W g i _ _ h⟩
set_option maxRecDepth 100000 in
set_option maxHeartbeats 4000000 in
theorem woper_any {T : TypeId} {A : Wk.Alg} {B : Nat} (K : Wkr T A B) (KK : WkrK K) (W : World) (g : Nat) (o : Option Nat) (s : Wk.St) (c : Og.Oper) (h : K.At W g o s) (l0 : s.l.length ≤ 100000000) (hf : Og.Fits c) :
    Calls Try.prog 62 #[.iface T (.pointer (some ⟨g, 0, none⟩)), .agg (operC c)] W fun e w' => e = .returned (.agg (operC (A.oper s c).1)) ∧ ∃ o', K.At w' g o' (A.oper s c).2 ∧ Kept g o o' W w' := by
  have mO := K.mO g
  have mK := K.mK g
  have eO := K.eO
  have eK := K.eK
  have HS := Lib.hid (WS.start K h 26 (operC c) (operC Og.Oper.zero) (operC Og.Oper.zero))
  clear h
  have hC : A.oper s c = A.oper s c := rfl
  conv at hC => rhs; unfold Wk.Alg.oper
  have HC := Lib.hid hC
  clear hC
  have hst : ∀ W : World, (storeCells ⟨W.heap.size, 0, none⟩ (operC Og.Oper.zero).toList 0).run Try.prog (W.alloc (.cells (operC Og.Oper.zero) 26)) = .ok () (W.alloc (.cells (operC Og.Oper.zero) 26)) := fun W => run_storeCells_new W _ _ _ (by rw [sizeOper]; rfl) rfl (by simp [operC, Value.oneCell'])
  unfold operC at hst ⊢
  go_enter Try.func62, Try.ntmps62
  go_upto_region 2 with (fail)
  refine forget (fun W' => WS K W W' g o o s 26 W.heap.size (W.heap.size + 1) (W.heap.size + 1 + 1) (operC c) (operC Og.Oper.zero) (operC Og.Oper.zero)) HS.out ?_
  clear HS hst
  intro W2 S
  have a0 : W2.cell? ⟨W.heap.size, 0, none⟩ = some (.int .u8 (c.op : Int)) := S.la.cell 0
  have HS := Lib.hid S
  clear S
  go_wp2_with fail
  have S := HS.out
  have hc := K.cO _ g o s c.op 1 7 S.at_ (by omega) hf.op (by omega) (by omega)
  have l1 := A.lenO s c.op 1 7
  have t1 := A.ltO s c.op 1 7 hf.op
  obtain ⟨r, hr⟩ : ∃ r, r = A.oct s c.op 1 7 := ⟨_, rfl⟩
  rw [← hr] at hc l1 t1
  obtain ⟨op, s1⟩ := r
  simp only at hc l1 t1
  refine hc.mono ?_
  rintro e w1 ⟨rfl, o1, hA, hK⟩
  have S' := S.call hA hK
  have k0 : w1.cell? ⟨W.heap.size + 1 + 1, 0, none⟩ = some (.int .u8 0) := S'.lc.cell 0
  have z0 := S'.lc.fz 0
  have S2 := S'.put 0 (.int .u8 (op : Int)) (vs := operC ⟨op, 0, Og.Tk.zero, 0, 0, 0, 0, 0, 0⟩) rfl
  have HS2 := Lib.hid S2
  have Hr1 := Lib.hid hr
  clear S S' S2 hA hK HS hc hr
  go_upto_region 3 with (fail)
  refine forget (fun W' => WS K W W' g o o1 s1 26 W.heap.size (W.heap.size + 1) (W.heap.size + 1 + 1) (operC c) (operC Og.Oper.zero) (operC ⟨op, 0, Og.Tk.zero, 0, 0, 0, 0, 0, 0⟩)) HS2.out ?_
  clear HS2 k0 z0
  intro W2 S
  clear a0
  have a0 : W2.cell? ⟨W.heap.size + 1 + 1, 0, none⟩ = some (.int .u8 (op : Int)) := S.lc.cell 0
  have HS := Lib.hid S
  clear S
  rw [← Hr1.out] at HC
  simp only at HC
  go_upto_block 0 with (fail)
  go_cut [] (fun W' => ∃ o', WS K W W' g o o' (A.obody op s1 c).2 26 W.heap.size (W.heap.size + 1) (W.heap.size + 1 + 1) (operC c) (operC Og.Oper.zero) (operC (A.obody op s1 c).1))
  case first =>
    by_cases h : op = 1
    · have Ho := Lib.hid h
      have e1 : ((op : Int) == 1) = true := by rw [beq_iff_eq]; omega
      have e2 : ((op : Int) == 2) = false := by rw [beq_eq_false_iff_ne]; omega
      have e3 : ((op : Int) == 3) = false := by rw [beq_eq_false_iff_ne]; omega
      have e4 : ((op : Int) == 4) = false := by rw [beq_eq_false_iff_ne]; omega
      have e5 : ((op : Int) == 5) = false := by rw [beq_eq_false_iff_ne]; omega
      have e6 : ((op : Int) == 6) = false := by rw [beq_eq_false_iff_ne]; omega
      have e7 : ((op : Int) == 7) = false := by rw [beq_eq_false_iff_ne]; omega
      clear h
      go_upto_region 5 with (fail)
      refine forget (fun W' => WS K W W' g o o1 s1 26 W.heap.size (W.heap.size + 1) (W.heap.size + 1 + 1) (operC c) (operC Og.Oper.zero) (operC ⟨op, 0, Og.Tk.zero, 0, 0, 0, 0, 0, 0⟩)) HS.out ?_
      clear HS a0
      intro W2 S
      have a0 : W2.cell? ⟨W.heap.size, 1, none⟩ = some (.int .u8 (c.slot : Int)) := S.la.cell 1
      have HS := Lib.hid S
      clear S
      go_wp2_with fail
      have S := HS.out
      have hc := walkSlot_any K _ g o1 s1 c.slot S.at_ (by omega) hf.slot
      have l2 := A.lenO s1 c.slot 0 3
      obtain ⟨r, hr⟩ : ∃ r, r = A.oct s1 c.slot 0 3 := ⟨_, rfl⟩
      rw [← hr] at hc l2
      obtain ⟨x0, s2⟩ := r
      simp only at hc l2
      refine hc.mono ?_
      rintro e w2 ⟨rfl, o2, hA, hK⟩
      have S' := S.call hA hK
      have k0 : w2.cell? ⟨W.heap.size + 1 + 1, 1, none⟩ = some (.int .u8 0) := S'.lc.cell 1
      have z0 := S'.lc.fz 1
      have S2 := S'.put 1 (.int .u8 (x0 : Int)) (vs := operC ⟨op, x0, Og.Tk.zero, 0, 0, 0, 0, 0, 0⟩) rfl
      have HS2 := Lib.hid S2
      have Hr2 := Lib.hid hr
      clear S S' S2 hA hK HS hc hr
      go_upto_region 6 with (fail)
      refine forget (fun W' => WS K W W' g o o2 s2 26 W.heap.size (W.heap.size + 1) (W.heap.size + 1 + 1) (operC c) (operC Og.Oper.zero) (operC ⟨op, x0, Og.Tk.zero, 0, 0, 0, 0, 0, 0⟩)) HS2.out ?_
      clear HS2 k0 z0
      intro W2 S
      clear a0
      have a0 : W2.cell? ⟨W.heap.size, 11, none⟩ = some (.int .i64 c.keys) := S.la.cell 11
      have HS := Lib.hid S
      clear S
      go_wp2_with fail
      have S := HS.out
      have hc := walkAmount_any K _ g o2 s2 c.keys S.at_ (by omega)
      have l3 := A.lenG s2 (Og.un c.keys) 2147483647 (un_lt _)
      obtain ⟨r, hr⟩ : ∃ r, r = A.grp s2 (Og.un c.keys) 2147483647 := ⟨_, rfl⟩
      rw [← hr] at hc l3
      obtain ⟨x1, s3⟩ := r
      simp only at hc l3
      refine hc.mono ?_
      rintro e w3 ⟨rfl, o3, hA, hK⟩
      have S' := S.call hA hK
      have k0 : w3.cell? ⟨W.heap.size + 1 + 1, 11, none⟩ = some (.int .i64 0) := S'.lc.cell 11
      have z0 := S'.lc.fz 11
      have S2 := S'.put 11 (.int .i64 (x1 : Int)) (vs := operC ⟨op, x0, Og.Tk.zero, 0, (x1 : Int), 0, 0, 0, 0⟩) rfl
      have HS2 := Lib.hid S2
      have Hr3 := Lib.hid hr
      clear S S' S2 hA hK HS hc hr
      go_upto_region 7 with (fail)
      refine forget (fun W' => WS K W W' g o o3 s3 26 W.heap.size (W.heap.size + 1) (W.heap.size + 1 + 1) (operC c) (operC Og.Oper.zero) (operC ⟨op, x0, Og.Tk.zero, 0, (x1 : Int), 0, 0, 0, 0⟩)) HS2.out ?_
      clear HS2 k0 z0
      intro W2 S
      clear a0
      have a0 : W2.cell? ⟨W.heap.size, 12, none⟩ = some (.int .i64 c.bytes) := S.la.cell 12
      have HS := Lib.hid S
      clear S
      go_wp2_with fail
      have S := HS.out
      have hc := walkAmount_any K _ g o3 s3 c.bytes S.at_ (by omega)
      have l4 := A.lenG s3 (Og.un c.bytes) 2147483647 (un_lt _)
      obtain ⟨r, hr⟩ : ∃ r, r = A.grp s3 (Og.un c.bytes) 2147483647 := ⟨_, rfl⟩
      rw [← hr] at hc l4
      obtain ⟨x2, s4⟩ := r
      simp only at hc l4
      refine hc.mono ?_
      rintro e w4 ⟨rfl, o4, hA, hK⟩
      have S' := S.call hA hK
      have k0 : w4.cell? ⟨W.heap.size + 1 + 1, 12, none⟩ = some (.int .i64 0) := S'.lc.cell 12
      have z0 := S'.lc.fz 12
      have S2 := S'.put 12 (.int .i64 (x2 : Int)) (vs := operC ⟨op, x0, Og.Tk.zero, 0, (x1 : Int), (x2 : Int), 0, 0, 0⟩) rfl
      have HS2 := Lib.hid S2
      have Hr4 := Lib.hid hr
      clear S S' S2 hA hK HS hc hr
      go_upto_region 8 with (fail)
      refine forget (fun W' => WS K W W' g o o4 s4 26 W.heap.size (W.heap.size + 1) (W.heap.size + 1 + 1) (operC c) (operC Og.Oper.zero) (operC ⟨op, x0, Og.Tk.zero, 0, (x1 : Int), (x2 : Int), 0, 0, 0⟩)) HS2.out ?_
      clear HS2 k0 z0
      intro W2 S
      clear a0
      have a0 : W2.cell? ⟨W.heap.size, 13, none⟩ = some (.int .i64 c.rate) := S.la.cell 13
      have HS := Lib.hid S
      clear S
      go_wp2_with fail
      have S := HS.out
      have hc := walkAmount_any K _ g o4 s4 c.rate S.at_ (by omega)
      have l5 := A.lenG s4 (Og.un c.rate) 2147483647 (un_lt _)
      obtain ⟨r, hr⟩ : ∃ r, r = A.grp s4 (Og.un c.rate) 2147483647 := ⟨_, rfl⟩
      rw [← hr] at hc l5
      obtain ⟨x3, s5⟩ := r
      simp only at hc l5
      refine hc.mono ?_
      rintro e w5 ⟨rfl, o5, hA, hK⟩
      have S' := S.call hA hK
      have k0 : w5.cell? ⟨W.heap.size + 1 + 1, 13, none⟩ = some (.int .i64 0) := S'.lc.cell 13
      have z0 := S'.lc.fz 13
      have S2 := S'.put 13 (.int .i64 (x3 : Int)) (vs := operC ⟨op, x0, Og.Tk.zero, 0, (x1 : Int), (x2 : Int), (x3 : Int), 0, 0⟩) rfl
      have HS2 := Lib.hid S2
      have Hr5 := Lib.hid hr
      clear S S' S2 hA hK HS hc hr
      go_upto_region 9 with (fail)
      refine forget (fun W' => WS K W W' g o o5 s5 26 W.heap.size (W.heap.size + 1) (W.heap.size + 1 + 1) (operC c) (operC Og.Oper.zero) (operC ⟨op, x0, Og.Tk.zero, 0, (x1 : Int), (x2 : Int), (x3 : Int), 0, 0⟩)) HS2.out ?_
      clear HS2 k0 z0
      intro W2 S
      clear a0
      have a0 : W2.cell? ⟨W.heap.size, 14, none⟩ = some (.int .i64 c.burst) := S.la.cell 14
      have HS := Lib.hid S
      clear S
      go_wp2_with fail
      have S := HS.out
      have hc := walkAmount_any K _ g o5 s5 c.burst S.at_ (by omega)
      have l6 := A.lenG s5 (Og.un c.burst) 2147483647 (un_lt _)
      obtain ⟨r, hr⟩ : ∃ r, r = A.grp s5 (Og.un c.burst) 2147483647 := ⟨_, rfl⟩
      rw [← hr] at hc l6
      obtain ⟨x4, s6⟩ := r
      simp only at hc l6
      refine hc.mono ?_
      rintro e w6 ⟨rfl, o6, hA, hK⟩
      have S' := S.call hA hK
      have k0 : w6.cell? ⟨W.heap.size + 1 + 1, 14, none⟩ = some (.int .i64 0) := S'.lc.cell 14
      have z0 := S'.lc.fz 14
      have S2 := S'.put 14 (.int .i64 (x4 : Int)) (vs := operC ⟨op, x0, Og.Tk.zero, 0, (x1 : Int), (x2 : Int), (x3 : Int), (x4 : Int), 0⟩) rfl
      have HS2 := Lib.hid S2
      have Hr6 := Lib.hid hr
      clear S S' S2 hA hK HS hc hr
      go_wp2_with fail
      go_meet
      have eb : A.obody op s1 c = (⟨op, x0, Og.Tk.zero, 0, (x1 : Int), (x2 : Int), (x3 : Int), (x4 : Int), 0⟩, s6) := by
        unfold Wk.Alg.obody; rw [if_pos (by have := Ho.out; omega)]; rw [← Hr2.out]; simp only; rw [← Hr3.out]; simp only; rw [← Hr4.out]; simp only; rw [← Hr5.out]; simp only; rw [← Hr6.out]
      rw [eb]
      exact ⟨o6, HS2.out⟩
    by_cases h : op = 2
    · have Ho := Lib.hid h
      have e1 : ((op : Int) == 1) = false := by rw [beq_eq_false_iff_ne]; omega
      have e2 : ((op : Int) == 2) = true := by rw [beq_iff_eq]; omega
      have e3 : ((op : Int) == 3) = false := by rw [beq_eq_false_iff_ne]; omega
      have e4 : ((op : Int) == 4) = false := by rw [beq_eq_false_iff_ne]; omega
      have e5 : ((op : Int) == 5) = false := by rw [beq_eq_false_iff_ne]; omega
      have e6 : ((op : Int) == 6) = false := by rw [beq_eq_false_iff_ne]; omega
      have e7 : ((op : Int) == 7) = false := by rw [beq_eq_false_iff_ne]; omega
      clear h
      go_upto_region 11 with (fail)
      refine forget (fun W' => WS K W W' g o o1 s1 26 W.heap.size (W.heap.size + 1) (W.heap.size + 1 + 1) (operC c) (operC Og.Oper.zero) (operC ⟨op, 0, Og.Tk.zero, 0, 0, 0, 0, 0, 0⟩)) HS.out ?_
      clear HS a0
      intro W2 S
      have a0 : W2.cell? ⟨W.heap.size, 1, none⟩ = some (.int .u8 (c.slot : Int)) := S.la.cell 1
      have HS := Lib.hid S
      clear S
      go_wp2_with fail
      have S := HS.out
      have hc := walkSlot_any K _ g o1 s1 c.slot S.at_ (by omega) hf.slot
      have l2 := A.lenO s1 c.slot 0 3
      obtain ⟨r, hr⟩ : ∃ r, r = A.oct s1 c.slot 0 3 := ⟨_, rfl⟩
      rw [← hr] at hc l2
      obtain ⟨x0, s2⟩ := r
      simp only at hc l2
      refine hc.mono ?_
      rintro e w2 ⟨rfl, o2, hA, hK⟩
      have S' := S.call hA hK
      have k0 : w2.cell? ⟨W.heap.size + 1 + 1, 1, none⟩ = some (.int .u8 0) := S'.lc.cell 1
      have z0 := S'.lc.fz 1
      have S2 := S'.put 1 (.int .u8 (x0 : Int)) (vs := operC ⟨op, x0, Og.Tk.zero, 0, 0, 0, 0, 0, 0⟩) rfl
      have HS2 := Lib.hid S2
      have Hr2 := Lib.hid hr
      clear S S' S2 hA hK HS hc hr
      go_upto_region 12 with (fail)
      refine forget (fun W' => WS K W W' g o o2 s2 26 W.heap.size (W.heap.size + 1) (W.heap.size + 1 + 1) (operC c) (operC Og.Oper.zero) (operC ⟨op, x0, Og.Tk.zero, 0, 0, 0, 0, 0, 0⟩)) HS2.out ?_
      clear HS2 k0 z0
      intro W2 S
      clear a0
      have a0 : W2.cell? ⟨W.heap.size, 2, none⟩ = some (.int .u8 (c.tok.a0.toNat : Int)) := S.la.cell 2
      have a1 : W2.cell? ⟨W.heap.size, 3, none⟩ = some (.int .u8 (c.tok.a1.toNat : Int)) := S.la.cell 3
      have a2 : W2.cell? ⟨W.heap.size, 4, none⟩ = some (.int .u8 (c.tok.a2.toNat : Int)) := S.la.cell 4
      have a3 : W2.cell? ⟨W.heap.size, 5, none⟩ = some (.int .u8 (c.tok.a3.toNat : Int)) := S.la.cell 5
      have a4 : W2.cell? ⟨W.heap.size, 6, none⟩ = some (.int .u8 (c.tok.a4.toNat : Int)) := S.la.cell 6
      have a5 : W2.cell? ⟨W.heap.size, 7, none⟩ = some (.int .u8 (c.tok.a5.toNat : Int)) := S.la.cell 7
      have a6 : W2.cell? ⟨W.heap.size, 8, none⟩ = some (.int .u8 (c.tok.a6.toNat : Int)) := S.la.cell 8
      have a7 : W2.cell? ⟨W.heap.size, 9, none⟩ = some (.int .u8 (c.tok.a7.toNat : Int)) := S.la.cell 9
      have HS := Lib.hid S
      clear S
      go_wp2_with fail
      have S := HS.out
      have hc := KK.cK _ g o2 s2 c.tok S.at_ (by omega)
      have l3 : (A.tk s2 c.tok).2.l.length ≤ _ := A.lenK s2 c.tok.l rfl
      rw [show Og.Tk.of (A.tok s2 c.tok.l).1 = (A.tk s2 c.tok).1 from rfl, show (A.tok s2 c.tok.l).2 = (A.tk s2 c.tok).2 from rfl] at hc
      obtain ⟨r, hr⟩ : ∃ r, r = A.tk s2 c.tok := ⟨_, rfl⟩
      rw [← hr] at hc l3
      obtain ⟨x1, s3⟩ := r
      simp only at hc l3
      unfold tk8 t8 at hc
      refine hc.mono ?_
      rintro e w3 ⟨rfl, o3, hA, hK⟩
      have S' := S.call hA hK
      have k0 : w3.cell? ⟨W.heap.size + 1 + 1, 2, none⟩ = some (.int .u8 0) := S'.lc.cell 2
      have z0 := S'.lc.fz 2
      have k1 : w3.cell? ⟨W.heap.size + 1 + 1, 3, none⟩ = some (.int .u8 0) := S'.lc.cell 3
      have z1 := S'.lc.fz 3
      have k2 : w3.cell? ⟨W.heap.size + 1 + 1, 4, none⟩ = some (.int .u8 0) := S'.lc.cell 4
      have z2 := S'.lc.fz 4
      have k3 : w3.cell? ⟨W.heap.size + 1 + 1, 5, none⟩ = some (.int .u8 0) := S'.lc.cell 5
      have z3 := S'.lc.fz 5
      have k4 : w3.cell? ⟨W.heap.size + 1 + 1, 6, none⟩ = some (.int .u8 0) := S'.lc.cell 6
      have z4 := S'.lc.fz 6
      have k5 : w3.cell? ⟨W.heap.size + 1 + 1, 7, none⟩ = some (.int .u8 0) := S'.lc.cell 7
      have z5 := S'.lc.fz 7
      have k6 : w3.cell? ⟨W.heap.size + 1 + 1, 8, none⟩ = some (.int .u8 0) := S'.lc.cell 8
      have z6 := S'.lc.fz 8
      have k7 : w3.cell? ⟨W.heap.size + 1 + 1, 9, none⟩ = some (.int .u8 0) := S'.lc.cell 9
      have z7 := S'.lc.fz 9
      have S2 : WS K W _ g o o3 s3 26 W.heap.size (W.heap.size + 1) (W.heap.size + 1 + 1) (operC c) (operC Og.Oper.zero) (operC ⟨op, x0, x1, 0, 0, 0, 0, 0, 0⟩) := put_tok S' x1
      have HS2 := Lib.hid S2
      have Hr3 := Lib.hid hr
      clear S S' S2 hA hK HS hc hr
      go_upto_region 13 with (fail)
      refine forget (fun W' => WS K W W' g o o3 s3 26 W.heap.size (W.heap.size + 1) (W.heap.size + 1 + 1) (operC c) (operC Og.Oper.zero) (operC ⟨op, x0, x1, 0, 0, 0, 0, 0, 0⟩)) HS2.out ?_
      clear HS2 k0 z0 k1 z1 k2 z2 k3 z3 k4 z4 k5 z5 k6 z6 k7 z7
      intro W2 S
      clear a0 a1 a2 a3 a4 a5 a6 a7
      have a0 : W2.cell? ⟨W.heap.size, 10, none⟩ = some (.int .u8 (c.role : Int)) := S.la.cell 10
      have HS := Lib.hid S
      clear S
      go_wp2_with fail
      have S := HS.out
      have hc := K.cO _ g o3 s3 c.role 1 3 S.at_ (by omega) hf.role (by omega) (by omega)
      have l4 := A.lenO s3 c.role 1 3
      obtain ⟨r, hr⟩ : ∃ r, r = A.oct s3 c.role 1 3 := ⟨_, rfl⟩
      rw [← hr] at hc l4
      obtain ⟨x2, s4⟩ := r
      simp only at hc l4
      refine hc.mono ?_
      rintro e w4 ⟨rfl, o4, hA, hK⟩
      have S' := S.call hA hK
      have k0 : w4.cell? ⟨W.heap.size + 1 + 1, 10, none⟩ = some (.int .u8 0) := S'.lc.cell 10
      have z0 := S'.lc.fz 10
      have S2 := S'.put 10 (.int .u8 (x2 : Int)) (vs := operC ⟨op, x0, x1, x2, 0, 0, 0, 0, 0⟩) rfl
      have HS2 := Lib.hid S2
      have Hr4 := Lib.hid hr
      clear S S' S2 hA hK HS hc hr
      go_wp2_with fail
      go_meet
      have eb : A.obody op s1 c = (⟨op, x0, x1, x2, 0, 0, 0, 0, 0⟩, s4) := by
        unfold Wk.Alg.obody; rw [if_neg (by have := Ho.out; omega), if_pos (by have := Ho.out; omega)]; rw [← Hr2.out]; simp only; rw [← Hr3.out]; simp only; rw [← Hr4.out]
      rw [eb]
      exact ⟨o4, HS2.out⟩
    by_cases h : op = 3
    · have Ho := Lib.hid h
      have e1 : ((op : Int) == 1) = false := by rw [beq_eq_false_iff_ne]; omega
      have e2 : ((op : Int) == 2) = false := by rw [beq_eq_false_iff_ne]; omega
      have e3 : ((op : Int) == 3) = true := by rw [beq_iff_eq]; omega
      have e4 : ((op : Int) == 4) = false := by rw [beq_eq_false_iff_ne]; omega
      have e5 : ((op : Int) == 5) = false := by rw [beq_eq_false_iff_ne]; omega
      have e6 : ((op : Int) == 6) = false := by rw [beq_eq_false_iff_ne]; omega
      have e7 : ((op : Int) == 7) = false := by rw [beq_eq_false_iff_ne]; omega
      clear h
      go_upto_region 15 with (fail)
      refine forget (fun W' => WS K W W' g o o1 s1 26 W.heap.size (W.heap.size + 1) (W.heap.size + 1 + 1) (operC c) (operC Og.Oper.zero) (operC ⟨op, 0, Og.Tk.zero, 0, 0, 0, 0, 0, 0⟩)) HS.out ?_
      clear HS a0
      intro W2 S
      have a0 : W2.cell? ⟨W.heap.size, 2, none⟩ = some (.int .u8 (c.tok.a0.toNat : Int)) := S.la.cell 2
      have a1 : W2.cell? ⟨W.heap.size, 3, none⟩ = some (.int .u8 (c.tok.a1.toNat : Int)) := S.la.cell 3
      have a2 : W2.cell? ⟨W.heap.size, 4, none⟩ = some (.int .u8 (c.tok.a2.toNat : Int)) := S.la.cell 4
      have a3 : W2.cell? ⟨W.heap.size, 5, none⟩ = some (.int .u8 (c.tok.a3.toNat : Int)) := S.la.cell 5
      have a4 : W2.cell? ⟨W.heap.size, 6, none⟩ = some (.int .u8 (c.tok.a4.toNat : Int)) := S.la.cell 6
      have a5 : W2.cell? ⟨W.heap.size, 7, none⟩ = some (.int .u8 (c.tok.a5.toNat : Int)) := S.la.cell 7
      have a6 : W2.cell? ⟨W.heap.size, 8, none⟩ = some (.int .u8 (c.tok.a6.toNat : Int)) := S.la.cell 8
      have a7 : W2.cell? ⟨W.heap.size, 9, none⟩ = some (.int .u8 (c.tok.a7.toNat : Int)) := S.la.cell 9
      have HS := Lib.hid S
      clear S
      go_wp2_with fail
      have S := HS.out
      have hc := KK.cK _ g o1 s1 c.tok S.at_ (by omega)
      have l2 : (A.tk s1 c.tok).2.l.length ≤ _ := A.lenK s1 c.tok.l rfl
      rw [show Og.Tk.of (A.tok s1 c.tok.l).1 = (A.tk s1 c.tok).1 from rfl, show (A.tok s1 c.tok.l).2 = (A.tk s1 c.tok).2 from rfl] at hc
      obtain ⟨r, hr⟩ : ∃ r, r = A.tk s1 c.tok := ⟨_, rfl⟩
      rw [← hr] at hc l2
      obtain ⟨x0, s2⟩ := r
      simp only at hc l2
      unfold tk8 t8 at hc
      refine hc.mono ?_
      rintro e w2 ⟨rfl, o2, hA, hK⟩
      have S' := S.call hA hK
      have k0 : w2.cell? ⟨W.heap.size + 1 + 1, 2, none⟩ = some (.int .u8 0) := S'.lc.cell 2
      have z0 := S'.lc.fz 2
      have k1 : w2.cell? ⟨W.heap.size + 1 + 1, 3, none⟩ = some (.int .u8 0) := S'.lc.cell 3
      have z1 := S'.lc.fz 3
      have k2 : w2.cell? ⟨W.heap.size + 1 + 1, 4, none⟩ = some (.int .u8 0) := S'.lc.cell 4
      have z2 := S'.lc.fz 4
      have k3 : w2.cell? ⟨W.heap.size + 1 + 1, 5, none⟩ = some (.int .u8 0) := S'.lc.cell 5
      have z3 := S'.lc.fz 5
      have k4 : w2.cell? ⟨W.heap.size + 1 + 1, 6, none⟩ = some (.int .u8 0) := S'.lc.cell 6
      have z4 := S'.lc.fz 6
      have k5 : w2.cell? ⟨W.heap.size + 1 + 1, 7, none⟩ = some (.int .u8 0) := S'.lc.cell 7
      have z5 := S'.lc.fz 7
      have k6 : w2.cell? ⟨W.heap.size + 1 + 1, 8, none⟩ = some (.int .u8 0) := S'.lc.cell 8
      have z6 := S'.lc.fz 8
      have k7 : w2.cell? ⟨W.heap.size + 1 + 1, 9, none⟩ = some (.int .u8 0) := S'.lc.cell 9
      have z7 := S'.lc.fz 9
      have S2 : WS K W _ g o o2 s2 26 W.heap.size (W.heap.size + 1) (W.heap.size + 1 + 1) (operC c) (operC Og.Oper.zero) (operC ⟨op, 0, x0, 0, 0, 0, 0, 0, 0⟩) := put_tok S' x0
      have HS2 := Lib.hid S2
      have Hr2 := Lib.hid hr
      clear S S' S2 hA hK HS hc hr
      go_wp2_with fail
      go_meet
      have eb : A.obody op s1 c = (⟨op, 0, x0, 0, 0, 0, 0, 0, 0⟩, s2) := by
        unfold Wk.Alg.obody; rw [if_neg (by have := Ho.out; omega), if_neg (by have := Ho.out; omega), if_pos (by have := Ho.out; omega)]; rw [← Hr2.out]
      rw [eb]
      exact ⟨o2, HS2.out⟩
    by_cases h : op = 4
    · have Ho := Lib.hid h
      have e1 : ((op : Int) == 1) = false := by rw [beq_eq_false_iff_ne]; omega
      have e2 : ((op : Int) == 2) = false := by rw [beq_eq_false_iff_ne]; omega
      have e3 : ((op : Int) == 3) = false := by rw [beq_eq_false_iff_ne]; omega
      have e4 : ((op : Int) == 4) = true := by rw [beq_iff_eq]; omega
      have e5 : ((op : Int) == 5) = false := by rw [beq_eq_false_iff_ne]; omega
      have e6 : ((op : Int) == 6) = false := by rw [beq_eq_false_iff_ne]; omega
      have e7 : ((op : Int) == 7) = false := by rw [beq_eq_false_iff_ne]; omega
      clear h
      go_upto_region 17 with (fail)
      refine forget (fun W' => WS K W W' g o o1 s1 26 W.heap.size (W.heap.size + 1) (W.heap.size + 1 + 1) (operC c) (operC Og.Oper.zero) (operC ⟨op, 0, Og.Tk.zero, 0, 0, 0, 0, 0, 0⟩)) HS.out ?_
      clear HS a0
      intro W2 S
      have a0 : W2.cell? ⟨W.heap.size, 1, none⟩ = some (.int .u8 (c.slot : Int)) := S.la.cell 1
      have HS := Lib.hid S
      clear S
      go_wp2_with fail
      have S := HS.out
      have hc := walkSlot_any K _ g o1 s1 c.slot S.at_ (by omega) hf.slot
      have l2 := A.lenO s1 c.slot 0 3
      obtain ⟨r, hr⟩ : ∃ r, r = A.oct s1 c.slot 0 3 := ⟨_, rfl⟩
      rw [← hr] at hc l2
      obtain ⟨x0, s2⟩ := r
      simp only at hc l2
      refine hc.mono ?_
      rintro e w2 ⟨rfl, o2, hA, hK⟩
      have S' := S.call hA hK
      have k0 : w2.cell? ⟨W.heap.size + 1 + 1, 1, none⟩ = some (.int .u8 0) := S'.lc.cell 1
      have z0 := S'.lc.fz 1
      have S2 := S'.put 1 (.int .u8 (x0 : Int)) (vs := operC ⟨op, x0, Og.Tk.zero, 0, 0, 0, 0, 0, 0⟩) rfl
      have HS2 := Lib.hid S2
      have Hr2 := Lib.hid hr
      clear S S' S2 hA hK HS hc hr
      go_wp2_with fail
      go_meet
      have eb : A.obody op s1 c = (⟨op, x0, Og.Tk.zero, 0, 0, 0, 0, 0, 0⟩, s2) := by
        unfold Wk.Alg.obody; rw [if_neg (by have := Ho.out; omega), if_neg (by have := Ho.out; omega), if_neg (by have := Ho.out; omega), if_pos (by have := Ho.out; omega)]; rw [← Hr2.out]
      rw [eb]
      exact ⟨o2, HS2.out⟩
    by_cases h : op = 5
    · have Ho := Lib.hid h
      have e1 : ((op : Int) == 1) = false := by rw [beq_eq_false_iff_ne]; omega
      have e2 : ((op : Int) == 2) = false := by rw [beq_eq_false_iff_ne]; omega
      have e3 : ((op : Int) == 3) = false := by rw [beq_eq_false_iff_ne]; omega
      have e4 : ((op : Int) == 4) = false := by rw [beq_eq_false_iff_ne]; omega
      have e5 : ((op : Int) == 5) = true := by rw [beq_iff_eq]; omega
      have e6 : ((op : Int) == 6) = false := by rw [beq_eq_false_iff_ne]; omega
      have e7 : ((op : Int) == 7) = false := by rw [beq_eq_false_iff_ne]; omega
      clear h
      go_upto_region 21 with (fail)
      refine forget (fun W' => WS K W W' g o o1 s1 26 W.heap.size (W.heap.size + 1) (W.heap.size + 1 + 1) (operC c) (operC Og.Oper.zero) (operC ⟨op, 0, Og.Tk.zero, 0, 0, 0, 0, 0, 0⟩)) HS.out ?_
      clear HS a0
      intro W2 S
      have a0 : W2.cell? ⟨W.heap.size, 15, none⟩ = some (.int .u8 (c.node : Int)) := S.la.cell 15
      have HS := Lib.hid S
      clear S
      go_wp2_with fail
      have S := HS.out
      have hc := K.cO _ g o1 s1 c.node 1 5 S.at_ (by omega) hf.node (by omega) (by omega)
      have l2 := A.lenO s1 c.node 1 5
      obtain ⟨r, hr⟩ : ∃ r, r = A.oct s1 c.node 1 5 := ⟨_, rfl⟩
      rw [← hr] at hc l2
      obtain ⟨x0, s2⟩ := r
      simp only at hc l2
      refine hc.mono ?_
      rintro e w2 ⟨rfl, o2, hA, hK⟩
      have S' := S.call hA hK
      have k0 : w2.cell? ⟨W.heap.size + 1 + 1, 15, none⟩ = some (.int .u8 0) := S'.lc.cell 15
      have z0 := S'.lc.fz 15
      have S2 := S'.put 15 (.int .u8 (x0 : Int)) (vs := operC ⟨op, 0, Og.Tk.zero, 0, 0, 0, 0, 0, x0⟩) rfl
      have HS2 := Lib.hid S2
      have Hr2 := Lib.hid hr
      clear S S' S2 hA hK HS hc hr
      go_wp2_with fail
      go_meet
      have eb : A.obody op s1 c = (⟨op, 0, Og.Tk.zero, 0, 0, 0, 0, 0, x0⟩, s2) := by
        unfold Wk.Alg.obody; rw [if_neg (by have := Ho.out; omega), if_neg (by have := Ho.out; omega), if_neg (by have := Ho.out; omega), if_neg (by have := Ho.out; omega), if_pos (by have := Ho.out; omega)]; rw [← Hr2.out]
      rw [eb]
      exact ⟨o2, HS2.out⟩
    by_cases h : op = 6
    · have Ho := Lib.hid h
      have e1 : ((op : Int) == 1) = false := by rw [beq_eq_false_iff_ne]; omega
      have e2 : ((op : Int) == 2) = false := by rw [beq_eq_false_iff_ne]; omega
      have e3 : ((op : Int) == 3) = false := by rw [beq_eq_false_iff_ne]; omega
      have e4 : ((op : Int) == 4) = false := by rw [beq_eq_false_iff_ne]; omega
      have e5 : ((op : Int) == 5) = false := by rw [beq_eq_false_iff_ne]; omega
      have e6 : ((op : Int) == 6) = true := by rw [beq_iff_eq]; omega
      have e7 : ((op : Int) == 7) = false := by rw [beq_eq_false_iff_ne]; omega
      clear h
      go_upto_region 21 with (fail)
      refine forget (fun W' => WS K W W' g o o1 s1 26 W.heap.size (W.heap.size + 1) (W.heap.size + 1 + 1) (operC c) (operC Og.Oper.zero) (operC ⟨op, 0, Og.Tk.zero, 0, 0, 0, 0, 0, 0⟩)) HS.out ?_
      clear HS a0
      intro W2 S
      have a0 : W2.cell? ⟨W.heap.size, 15, none⟩ = some (.int .u8 (c.node : Int)) := S.la.cell 15
      have HS := Lib.hid S
      clear S
      go_wp2_with fail
      have S := HS.out
      have hc := K.cO _ g o1 s1 c.node 1 5 S.at_ (by omega) hf.node (by omega) (by omega)
      have l2 := A.lenO s1 c.node 1 5
      obtain ⟨r, hr⟩ : ∃ r, r = A.oct s1 c.node 1 5 := ⟨_, rfl⟩
      rw [← hr] at hc l2
      obtain ⟨x0, s2⟩ := r
      simp only at hc l2
      refine hc.mono ?_
      rintro e w2 ⟨rfl, o2, hA, hK⟩
      have S' := S.call hA hK
      have k0 : w2.cell? ⟨W.heap.size + 1 + 1, 15, none⟩ = some (.int .u8 0) := S'.lc.cell 15
      have z0 := S'.lc.fz 15
      have S2 := S'.put 15 (.int .u8 (x0 : Int)) (vs := operC ⟨op, 0, Og.Tk.zero, 0, 0, 0, 0, 0, x0⟩) rfl
      have HS2 := Lib.hid S2
      have Hr2 := Lib.hid hr
      clear S S' S2 hA hK HS hc hr
      go_wp2_with fail
      go_meet
      have eb : A.obody op s1 c = (⟨op, 0, Og.Tk.zero, 0, 0, 0, 0, 0, x0⟩, s2) := by
        unfold Wk.Alg.obody; rw [if_neg (by have := Ho.out; omega), if_neg (by have := Ho.out; omega), if_neg (by have := Ho.out; omega), if_neg (by have := Ho.out; omega), if_pos (by have := Ho.out; omega)]; rw [← Hr2.out]
      rw [eb]
      exact ⟨o2, HS2.out⟩
    by_cases h : op = 7
    · have Ho := Lib.hid h
      have e1 : ((op : Int) == 1) = false := by rw [beq_eq_false_iff_ne]; omega
      have e2 : ((op : Int) == 2) = false := by rw [beq_eq_false_iff_ne]; omega
      have e3 : ((op : Int) == 3) = false := by rw [beq_eq_false_iff_ne]; omega
      have e4 : ((op : Int) == 4) = false := by rw [beq_eq_false_iff_ne]; omega
      have e5 : ((op : Int) == 5) = false := by rw [beq_eq_false_iff_ne]; omega
      have e6 : ((op : Int) == 6) = false := by rw [beq_eq_false_iff_ne]; omega
      have e7 : ((op : Int) == 7) = true := by rw [beq_iff_eq]; omega
      clear h
      go_upto_region 21 with (fail)
      refine forget (fun W' => WS K W W' g o o1 s1 26 W.heap.size (W.heap.size + 1) (W.heap.size + 1 + 1) (operC c) (operC Og.Oper.zero) (operC ⟨op, 0, Og.Tk.zero, 0, 0, 0, 0, 0, 0⟩)) HS.out ?_
      clear HS a0
      intro W2 S
      have a0 : W2.cell? ⟨W.heap.size, 15, none⟩ = some (.int .u8 (c.node : Int)) := S.la.cell 15
      have HS := Lib.hid S
      clear S
      go_wp2_with fail
      have S := HS.out
      have hc := K.cO _ g o1 s1 c.node 1 5 S.at_ (by omega) hf.node (by omega) (by omega)
      have l2 := A.lenO s1 c.node 1 5
      obtain ⟨r, hr⟩ : ∃ r, r = A.oct s1 c.node 1 5 := ⟨_, rfl⟩
      rw [← hr] at hc l2
      obtain ⟨x0, s2⟩ := r
      simp only at hc l2
      refine hc.mono ?_
      rintro e w2 ⟨rfl, o2, hA, hK⟩
      have S' := S.call hA hK
      have k0 : w2.cell? ⟨W.heap.size + 1 + 1, 15, none⟩ = some (.int .u8 0) := S'.lc.cell 15
      have z0 := S'.lc.fz 15
      have S2 := S'.put 15 (.int .u8 (x0 : Int)) (vs := operC ⟨op, 0, Og.Tk.zero, 0, 0, 0, 0, 0, x0⟩) rfl
      have HS2 := Lib.hid S2
      have Hr2 := Lib.hid hr
      clear S S' S2 hA hK HS hc hr
      go_wp2_with fail
      go_meet
      have eb : A.obody op s1 c = (⟨op, 0, Og.Tk.zero, 0, 0, 0, 0, 0, x0⟩, s2) := by
        unfold Wk.Alg.obody; rw [if_neg (by have := Ho.out; omega), if_neg (by have := Ho.out; omega), if_neg (by have := Ho.out; omega), if_neg (by have := Ho.out; omega), if_pos (by have := Ho.out; omega)]; rw [← Hr2.out]
      rw [eb]
      exact ⟨o2, HS2.out⟩
    · have Ho : Hid (op = 0 ∨ 7 < op) := Lib.hid (by omega)
      have e1 : ((op : Int) == 1) = false := by rw [beq_eq_false_iff_ne]; omega
      have e2 : ((op : Int) == 2) = false := by rw [beq_eq_false_iff_ne]; omega
      have e3 : ((op : Int) == 3) = false := by rw [beq_eq_false_iff_ne]; omega
      have e4 : ((op : Int) == 4) = false := by rw [beq_eq_false_iff_ne]; omega
      have e5 : ((op : Int) == 5) = false := by rw [beq_eq_false_iff_ne]; omega
      have e6 : ((op : Int) == 6) = false := by rw [beq_eq_false_iff_ne]; omega
      have e7 : ((op : Int) == 7) = false := by rw [beq_eq_false_iff_ne]; omega
      go_wp2_with fail
      go_meet
      have eb : A.obody op s1 c = (⟨op, 0, Og.Tk.zero, 0, 0, 0, 0, 0, 0⟩, s1) := by
        unfold Wk.Alg.obody; rw [if_neg (by have := Ho.out; omega), if_neg (by have := Ho.out; omega), if_neg (by have := Ho.out; omega), if_neg (by have := Ho.out; omega), if_neg (by have := Ho.out; omega)]
      rw [eb]
      exact ⟨o1, HS.out⟩
  case rest =>
    obtain ⟨o4, S⟩ := hcut
    rw [← HC.out] at S
    obtain ⟨r, hr⟩ : ∃ r, r = A.oper s c := ⟨_, rfl⟩
    rw [← hr] at S
    obtain ⟨u, s4⟩ := r
    simp only at S
    have Hr := Lib.hid hr
    clear hr HC
    obtain ⟨z0, z1, z2, z3, z4, z5, z6, z7, z8, z9, z10, z11, z12, z13, z14, z15, zz⟩ := operAt S.lb.row
    obtain ⟨q0, q1, q2, q3, q4, q5, q6, q7, q8, q9, q10, q11, q12, q13, q14, q15, _⟩ := operAt S.lc.row
    have HS := Lib.hid S
    clear S
    go_wp2_with fail
    have SR := put_oper HS.out u
    refine bodyPost_ret (results_cell_row (P := Try.prog) (fn := Try.f62) rfl _ _ (W.heap.size + 1) 26 _ (0, 0) _ rfl SR.lb.row Try.underlying26 rfl sizeOper) rfl ⟨?_, o4, ?_⟩
    · rw [← Hr.out]; rfl
    · rw [← Hr.out]
      exact ⟨SR.at_, SR.kept⟩
end Go.Proofs.Ytlcgjlganmblpaa
namespace Go.Proofs.Ytlcgjlganmblpaa
open Go.RowKit
theorem stoodOper : Try.prog.stoodInHeld 26 = false := by kernel_rfl
theorem guardOper : Try.prog.eqGuardType Try.prog.depth 26 = false := by kernel_rfl
theorem oper_eq (W : World) (x y : Og.Oper) : (Op.equalIn 10000 26 (.agg (operC x)) (.agg (operC y))).run Try.prog W = .ok (decide (x = y)) W := by
  rw [run_equalIn_agg W 9999 26 _ _ (by unfold Program.fieldsOf; rw [Try.underlying26]) stoodOper]
  unfold Program.fieldsOf
  rw [Try.underlying26]
  have ht : ∀ W, (Op.equalIn 9999 23 (.agg (tk8 x.tok)) (.agg (tk8 y.tok))).run Try.prog W = .ok (decide (x.tok = y.tok)) W := fun W => tok_eq 9997 W _ _
  unfold tk8 t8 at ht
  unfold operC
  simp only [Op.eqFields]
  simp [go_sem, ht]
  cases x; cases y
  simp only [Og.Oper.mk.injEq]
  repeat' split
  all_goals (simp_all <;> omega)
theorem oper_neq (x y : Og.Oper) (W : World) : (binOp .neq 26 (.agg (operC x)) (.agg (operC y))).run Try.prog W = .ok (.bool (!decide (x = y))) W := by
  rw [run_neq_struct, oper_eq, Result.andThen_ok]
theorem oper_eql (x y : Og.Oper) (W : World) : (binOp .eql 26 (.agg (operC x)) (.agg (operC y))).run Try.prog W = .ok (.bool (decide (x = y))) W := by
  rw [run_eql_struct, oper_eq, Result.andThen_ok]
end Go.Proofs.Ytlcgjlganmblpaa
