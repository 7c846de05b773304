/-
  The program's disk: a nil one, and one that New did not make: every method. WRITTEN BY wip/tools/gen_dmno.py.
-/
import Derived.Test.YtjmnoogaffjdiaaRDmA
set_option linter.unusedSimpArgs false
set_option linter.unusedVariables false
namespace Go.Proofs.Ytjmnoogaffjdiaa
open Go.RowKit
/-- No disk: nil, or the zero value. -/
def NoD (W : World) (v : Value) : Prop := v = .pointer none ∨ ∃ q, v = .pointer (some ⟨q, 0, none⟩) ∧ W.heap[q]? = some (.cells #[.map none, .int .i64 0, .bool false] 43 (0, 0))
theorem NoD.below {W W' : World} {v : Value} {B : Nat} (h : NoD W v) (hb : Below B W W') (hB : W.heap.size ≤ B) : NoD W' v := by
  rcases h with h | ⟨q, rfl, hq⟩
  · exact .inl h
  · exact .inr ⟨q, rfl, (hb.block q (Nat.lt_of_lt_of_le (Array.getElem?_eq_some_iff.1 hq).1 hB)).trans hq⟩
theorem map_none (W : World) : Sem.run Try.prog (binOp BinOp.neq 41 (.map none) (.map none)) W = .ok (.bool false) W := by kernel_rfl
set_option maxRecDepth 100000 in
theorem nMade (W : World) (v : Value) (h : NoD W v) : Calls Try.prog 40 #[v] W fun e w' => e = .returned (.bool false) ∧ W = w' := by
  rcases h with rfl | ⟨q, rfl, hq⟩
  · go_enter Try.func40, Try.ntmps40
    go_wp2_with fail
    go_ret
    exact ⟨rfl, rfl⟩
  · have c0 : W.cell? ⟨q, 0, none⟩ = some (.map none) := cell_of_row W q 0 _ _ _ hq
    have hm := map_none
    clear hq
    go_enter Try.func40, Try.ntmps40
    go_wp2_with fail
    go_ret
    exact ⟨rfl, rfl⟩
set_option maxRecDepth 100000 in
theorem nPower (W : World) (v : Value) (h : NoD W v) : Calls Try.prog 43 #[v] W fun e w' => e = .returned (.int .i64 2) ∧ W = w' := by
  have H := Lib.hid (nMade W v h)
  clear h
  go_enter Try.func43, Try.ntmps43
  go_wp2_with fail
  refine (H.out).mono ?_
  rintro e w1 ⟨rfl, rfl⟩
  go_wp2_with fail
  go_ret
  exact ⟨rfl, rfl⟩
set_option maxRecDepth 100000 in
theorem nBegin (W : World) (v : Value) (h : NoD W v) (n : ByteArray) : Calls Try.prog 48 #[v, .string n] W fun e w' => e = .returned (.tuple #[.pointer none, .int .i64 2]) ∧ W = w' := by
  have H := Lib.hid (nPower W v h)
  clear h
  go_enter Try.func48, Try.ntmps48
  go_wp2_with fail
  refine (H.out).mono ?_
  rintro e w1 ⟨rfl, rfl⟩
  go_wp2_with fail
  go_ret2
  exact ⟨rfl, rfl⟩
set_option maxRecDepth 100000 in
theorem nAppend (W : World) (v : Value) (h : NoD W v) (n r : ByteArray) : Calls Try.prog 21 #[v, .string n, .string r] W fun e w' => e = .returned (.int .i64 2) ∧ W = w' := by
  have H := Lib.hid (nPower W v h)
  clear h
  go_enter Try.func21, Try.ntmps21
  go_wp2_with fail
  refine (H.out).mono ?_
  rintro e w1 ⟨rfl, rfl⟩
  go_wp2_with fail
  go_ret
  exact ⟨rfl, rfl⟩
set_option maxRecDepth 100000 in
theorem nSync (W : World) (v : Value) (h : NoD W v) (n : ByteArray) : Calls Try.prog 22 #[v, .string n] W fun e w' => e = .returned (.int .i64 2) ∧ W = w' := by
  have H := Lib.hid (nBegin W v h n)
  clear h
  go_enter Try.func22, Try.ntmps22
  go_wp2_with fail
  refine (H.out).mono ?_
  rintro e w1 ⟨rfl, rfl⟩
  go_wp2_with fail
  go_ret
  exact ⟨rfl, rfl⟩
set_option maxRecDepth 100000 in
theorem nDelete (W : World) (v : Value) (h : NoD W v) (n : ByteArray) : Calls Try.prog 24 #[v, .string n] W fun e w' => e = .returned (.int .i64 2) ∧ W = w' := by
  have H := Lib.hid (nBegin W v h n)
  clear h
  go_enter Try.func24, Try.ntmps24
  go_wp2_with fail
  refine (H.out).mono ?_
  rintro e w1 ⟨rfl, rfl⟩
  go_wp2_with fail
  go_ret
  exact ⟨rfl, rfl⟩
set_option maxRecDepth 100000 in
theorem nRename (W : World) (v : Value) (h : NoD W v) (n r : ByteArray) : Calls Try.prog 23 #[v, .string n, .string r] W fun e w' => e = .returned (.int .i64 2) ∧ W = w' := by
  have H := Lib.hid (nPower W v h)
  clear h
  go_enter Try.func23, Try.ntmps23
  go_wp2_with fail
  refine (H.out).mono ?_
  rintro e w1 ⟨rfl, rfl⟩
  go_wp2_with fail
  go_ret
  exact ⟨rfl, rfl⟩
set_option maxRecDepth 100000 in
theorem nRead (W : World) (v : Value) (h : NoD W v) (n : ByteArray) : Calls Try.prog 19 #[v, .string n] W fun e w' => e = .returned (.tuple #[.string ⟨#[]⟩, .int .i64 2]) ∧ W = w' := by
  have H := Lib.hid (nPower W v h)
  clear h
  go_enter Try.func19, Try.ntmps19
  go_wp2_with fail
  refine (H.out).mono ?_
  rintro e w1 ⟨rfl, rfl⟩
  go_wp2_with fail
  go_ret2
  exact ⟨rfl, rfl⟩
set_option maxRecDepth 100000 in
theorem nList (W : World) (v : Value) (h : NoD W v) : Calls Try.prog 25 #[v] W fun e w' => e = .returned (.slice none 0 0) ∧ W = w' := by
  have H := Lib.hid (nMade W v h)
  clear h
  go_enter Try.func25, Try.ntmps25
  go_wp2_with fail
  refine (H.out).mono ?_
  rintro e w1 ⟨rfl, rfl⟩
  go_wp2_with fail
  go_ret
  exact ⟨rfl, rfl⟩
set_option maxRecDepth 100000 in
theorem nRecords (W : World) (v : Value) (h : NoD W v) (n : ByteArray) : Calls Try.prog 20 #[v, .string n] W fun e w' => e = .returned (.tuple #[.int .i64 0, .int .i64 0]) ∧ W = w' := by
  have H := Lib.hid (nMade W v h)
  clear h
  go_enter Try.func20, Try.ntmps20
  go_wp2_with fail
  refine (H.out).mono ?_
  rintro e w1 ⟨rfl, rfl⟩
  go_wp2_with fail
  go_ret2
  exact ⟨rfl, rfl⟩
set_option maxRecDepth 100000 in
theorem nFuse (W : World) (v : Value) (h : NoD W v) (n : Int) : Calls Try.prog 16 #[v, .int .i64 n] W fun e w' => e = .returned (.tuple #[]) ∧ W = w' := by
  have H := Lib.hid (nMade W v h)
  clear h
  go_enter Try.func16, Try.ntmps16
  go_wp2_with fail
  refine (H.out).mono ?_
  rintro e w1 ⟨rfl, rfl⟩
  go_wp2_with fail
  go_end0
  exact ⟨rfl, rfl⟩
set_option maxRecDepth 100000 in
theorem nFused (W : World) (v : Value) (h : NoD W v) : Calls Try.prog 26 #[v] W fun e w' => e = .returned (.int .i64 0) ∧ W = w' := by
  have H := Lib.hid (nMade W v h)
  clear h
  go_enter Try.func26, Try.ntmps26
  go_wp2_with fail
  refine (H.out).mono ?_
  rintro e w1 ⟨rfl, rfl⟩
  go_wp2_with fail
  go_ret
  exact ⟨rfl, rfl⟩
set_option maxRecDepth 100000 in
theorem nStart (W : World) (v : Value) (h : NoD W v) : Calls Try.prog 18 #[v] W fun e w' => e = .returned (.tuple #[]) ∧ W = w' := by
  have H := Lib.hid (nMade W v h)
  clear h
  go_enter Try.func18, Try.ntmps18
  go_wp2_with fail
  refine (H.out).mono ?_
  rintro e w1 ⟨rfl, rfl⟩
  go_wp2_with fail
  go_end0
  exact ⟨rfl, rfl⟩
set_option maxRecDepth 100000 in
theorem nDown (W : World) (v : Value) (h : NoD W v) : Calls Try.prog 27 #[v] W fun e w' => e = .returned (.bool true) ∧ W = w' := by
  have H := Lib.hid (nMade W v h)
  clear h
  go_enter Try.func27, Try.ntmps27
  go_wp2_with fail
  refine (H.out).mono ?_
  rintro e w1 ⟨rfl, rfl⟩
  go_wp2_with fail
  go_ret
  exact ⟨rfl, rfl⟩
set_option maxRecDepth 100000 in
theorem nTwin (W : World) (v : Value) (h : NoD W v) : Calls Try.prog 28 #[v] W fun e w' => e = .returned (.pointer none) ∧ W = w' := by
  have H := Lib.hid (nMade W v h)
  clear h
  go_enter Try.func28, Try.ntmps28
  go_wp2_with fail
  refine (H.out).mono ?_
  rintro e w1 ⟨rfl, rfl⟩
  go_wp2_with fail
  go_ret
  exact ⟨rfl, rfl⟩
set_option maxRecDepth 100000 in
theorem nCrash (W : World) (v : Value) (h : NoD W v) (KA TA : Option Addr) (kn kc tn tc : Nat) : Calls Try.prog 17 #[v, .agg #[.slice KA kn kc, .slice TA tn tc]] W fun e w' => e = .returned (.tuple #[]) ∧ Below W.heap.size W w' := by
  have hb : Below W.heap.size W (W.alloc (.cells #[.slice KA kn kc, .slice TA tn tc] 36)) := bnew (Below.refl _ _) _
  have H := Lib.hid (nMade _ v (h.below hb (Nat.le_refl _)))
  have HB := Lib.hid hb
  clear h hb
  go_enter Try.func17, Try.ntmps17
  go_wp2_with fail
  refine (H.out).mono ?_
  rintro e w1 ⟨rfl, rfl⟩
  go_wp2_with fail
  refine bodyPost_ret (results_none (fn := Try.f17) rfl _ _ _) rfl ?_
  exact ⟨rfl, HB.out⟩
end Go.Proofs.Ytjmnoogaffjdiaa
