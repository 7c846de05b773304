/-
  slices.Clone of bytes and of ints walked.
-/
import Derived.Test.YtjmnoogaffjdiaaRDmA
import Derived.Test.YtjmnoogaffjdiaaRStrCl
set_option linter.unusedSimpArgs false
set_option linter.unusedVariables false
namespace Go.Proofs.Ytjmnoogaffjdiaa
open Go.RowKit
theorem dm_infoInt : (Try.prog.info? 3).map (fun i => (i.zero, i.size, i.bytes)) = some (some (.int .i64 0), 1, 8) := by kernel_rfl
theorem own_cells {w : World} {e : TypeId} {A : Option Addr} {n c : Nat} {xs : List Value} (h : w.ownsRow 0 e 1 (.slice A n c) n xs) : (A = none ∧ n = 0 ∧ c = 0 ∧ xs = []) ∨ ∃ g, A = some ⟨g, 0, none⟩ ∧ ∀ j u, xs[j]? = some u → w.cell? ((⟨g, 0, none⟩ : Addr).add j) = some u := by
  rcases h.2 with ⟨hv, hn⟩ | ⟨g, cap, cur, hv, _⟩
  · injection hv with a b c2
    subst hn
    exact .inl ⟨a, rfl, c2, List.eq_nil_of_length_eq_zero (by have := h.1; omega)⟩
  · injection hv with a b c2
    subst a
    exact .inr ⟨g, rfl, h.cells (g := g) rfl⟩
theorem bytes_nil (W : World) : Sem.run Try.prog (binOp BinOp.eql 56 (.slice none 0 0) (.slice none 0 0)) W = .ok (.bool true) W := by kernel_rfl
theorem bytes_some (g n c : Nat) (W : World) : Sem.run Try.prog (binOp BinOp.eql 56 (.slice (some ⟨g, 0, none⟩) n c) (.slice none 0 0)) W = .ok (.bool false) W := by kernel_rfl
theorem ints_nil (W : World) : Sem.run Try.prog (binOp BinOp.eql 34 (.slice none 0 0) (.slice none 0 0)) W = .ok (.bool true) W := by kernel_rfl
theorem ints_some (g n c : Nat) (W : World) : Sem.run Try.prog (binOp BinOp.eql 34 (.slice (some ⟨g, 0, none⟩) n c) (.slice none 0 0)) W = .ok (.bool false) W := by kernel_rfl
theorem ic_one (l : List Int) : ∀ u ∈ ic l, u.oneCell' = true := fun u hu => by
  obtain ⟨n, _, rfl⟩ := List.mem_map.1 hu; rfl
set_option maxRecDepth 100000 in
set_option maxHeartbeats 1000000 in
theorem cloneB_any (w : World) (A : Option Addr) (n c : Nat) (s : ByteArray) (hs : s.size = n) (h : (A = none ∧ n = 0 ∧ c = 0) ∨ ∃ g, A = some ⟨g, 0, none⟩ ∧ ∀ j u, (Lib.strCells s)[j]? = some u → w.cell? ((⟨g, 0, none⟩ : Addr).add j) = some u) (hn : n ≤ 1000000000) :
    Calls Try.prog 61 #[.slice A n c] w fun e w' => ∃ A' c', e = .returned (.slice A' n c') ∧ w'.ownsRow w.heap.size 5 1 (.slice A' n c') n (Lib.strCells s) ∧ Below w.heap.size w w' := by
  obtain ⟨i0, hi, hz0, hz1, hz2⟩ := info_parts Try.infoByte
  have hl : (Lib.strCells s).length = n := by rw [Lib.strCells_length, hs]
  rcases h with ⟨rfl, rfl, rfl⟩ | ⟨g, rfl, hc⟩
  · have HE : Hid (w.ownsRow w.heap.size 5 1 (.slice none 0 0) 0 (Lib.strCells s)) := Lib.hid ⟨by omega, .inl ⟨rfl, rfl⟩⟩
    clear hl hs hn
    have q0 := bytes_nil
    go_enter Try.func61, Try.ntmps61
    go_wp2_with fail
    go_ret
    exact ⟨none, 0, rfl, HE.out, Below.refl _ _⟩
  · have Hc : Hid (∀ j u, (Lib.strCells s)[j]? = some u → (w.alloc (.cells #[] 5)).cell? ((⟨g, 0, none⟩ : Addr).add j) = some u) := Lib.hid fun j u hu => by
      have := hc j u hu
      exact later (bnew (Below.refl _ _) _) this
    have HL := Lib.hid (And.intro hl hn)
    clear hc hl hs
    have q0 := bytes_some g n c
    go_enter Try.func61, Try.ntmps61
    go_wp2_with (at_builtin; refine wpList_app_own rfl (.tmp 5) (.tmp 6) 56 rfl w.heap.size 5 i0 (.int .u8 0) 1 1 Try.underlying56 hi hz0 hz1 hz2 rfl (by decide) _ _ _ rfl (own_empty w 5) ⟨g, 0, none⟩ n c (Lib.strCells s) rfl (by have := HL.out.1; omega) Hc.out (Lib.strCells_oneCell s) (by simp only [maxLen]; omega) (by omega) (by simp) ?_)
    intro v' w' ho hg hn'
    obtain ⟨A', c', rfl, _⟩ := own_slice ho
    have HO : Hid (w'.ownsRow w.heap.size 5 1 (.slice A' n c') n (Lib.strCells s)) := Lib.hid (by exact ho)
    have HB : Hid (Below w.heap.size w w') := Lib.hid ((bnew (Below.refl _ _) _).grown hg (by simp) (fun j hj => (own_lt (own_empty w 5) hj).2))
    clear ho hg hn'
    go_wp2_with fail
    go_ret
    exact ⟨A', c', rfl, HO.out, HB.out⟩
set_option maxRecDepth 100000 in
set_option maxHeartbeats 1000000 in
theorem cloneI_any (w : World) (A : Option Addr) (n c : Nat) (l : List Int) (hs : l.length = n) (h : (A = none ∧ n = 0 ∧ c = 0) ∨ ∃ g, A = some ⟨g, 0, none⟩ ∧ ∀ j u, (ic l)[j]? = some u → w.cell? ((⟨g, 0, none⟩ : Addr).add j) = some u) (hn : n ≤ 1000000000) :
    Calls Try.prog 65 #[.slice A n c] w fun e w' => ∃ A' c', e = .returned (.slice A' n c') ∧ w'.ownsRow w.heap.size 3 1 (.slice A' n c') n (ic l) ∧ Below w.heap.size w w' := by
  obtain ⟨i0, hi, hz0, hz1, hz2⟩ := info_parts dm_infoInt
  have hl : (ic l).length = n := by rw [ic_length, hs]
  rcases h with ⟨rfl, rfl, rfl⟩ | ⟨g, rfl, hc⟩
  · have HE : Hid (w.ownsRow w.heap.size 3 1 (.slice none 0 0) 0 (ic l)) := Lib.hid ⟨by omega, .inl ⟨rfl, rfl⟩⟩
    clear hl hs hn
    have q0 := ints_nil
    go_enter Try.func65, Try.ntmps65
    go_wp2_with fail
    go_ret
    exact ⟨none, 0, rfl, HE.out, Below.refl _ _⟩
  · have Hc : Hid (∀ j u, (ic l)[j]? = some u → (w.alloc (.cells #[] 3)).cell? ((⟨g, 0, none⟩ : Addr).add j) = some u) := Lib.hid fun j u hu => by
      have := hc j u hu
      exact later (bnew (Below.refl _ _) _) this
    have HL := Lib.hid (And.intro hl hn)
    clear hc hl hs
    have q0 := ints_some g n c
    go_enter Try.func65, Try.ntmps65
    go_wp2_with (at_builtin; refine wpList_app_own rfl (.tmp 5) (.tmp 6) 34 rfl w.heap.size 3 i0 (.int .i64 0) 1 8 Try.underlying34 hi hz0 hz1 hz2 rfl (by decide) _ _ _ rfl (own_empty w 3) ⟨g, 0, none⟩ n c (ic l) rfl (by have := HL.out.1; omega) Hc.out (ic_one l) (by simp only [maxLen]; omega) (by omega) (by simp) ?_)
    intro v' w' ho hg hn'
    obtain ⟨A', c', rfl, _⟩ := own_slice ho
    have HO : Hid (w'.ownsRow w.heap.size 3 1 (.slice A' n c') n (ic l)) := Lib.hid (by exact ho)
    have HB : Hid (Below w.heap.size w w') := Lib.hid ((bnew (Below.refl _ _) _).grown hg (by simp) (fun j hj => (own_lt (own_empty w 3) hj).2))
    clear ho hg hn'
    go_wp2_with fail
    go_ret
    exact ⟨A', c', rfl, HO.out, HB.out⟩
end Go.Proofs.Ytjmnoogaffjdiaa
