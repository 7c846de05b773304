/-
  Put, taken or not, said as one (for LogsPut).
-/
import Derived.Test.YtlnohjboldenpaaLLgPutR
import Derived.Test.YtlnohjboldenpaaLLgRe
set_option linter.unusedSimpArgs false
set_option linter.unusedVariables false
namespace Go.Proofs.Ytlnohjboldenpaa
open Go.RowKit Go.Sort
namespace Lg
open En
def putL (l : L) (i t : Nat) (x : List E) : L := if puts l i t x = true then put l x else l
def putF (l : L) (i t : Nat) (x : List E) : List E := if puts l i t x = true then lacking l x else []
def putN (l : L) (i t : Nat) (x : List E) : Nat := if puts l i t x = true then i + x.length else 0
theorem putL_ok {l : L} (h : Ok l) (i t : Nat) (x : List E) : Ok (putL l i t x) := by
  unfold putL
  split
  next hp =>
    unfold puts at hp
    rw [Bool.and_eq_true] at hp
    exact put_ok h hp.1 hp.2
  next => exact h
theorem putL_twice {l : L} (h : Ok l) (i t : Nat) (x : List E) (hi : l.idx ≤ i) : puts (putL l i t x) i t x = puts l i t x ∧ putF (putL l i t x) i t x = [] ∧ putN (putL l i t x) i t x = putN l i t x ∧ putL (putL l i t x) i t x = putL l i t x := by
  cases hp : puts l i t x with
  | false =>
    have e : putL l i t x = l := by unfold putL; rw [hp]; rfl
    rw [e]
    refine ⟨hp, ?_, rfl, e⟩
    unfold putF; rw [hp]; rfl
  | true =>
    have e : putL l i t x = put l x := by unfold putL; rw [hp]; rfl
    obtain ⟨a, b, c⟩ := puts_again h hp hi
    rw [e]
    refine ⟨a, ?_, ?_, ?_⟩
    · unfold putF; rw [a, b]; rfl
    · unfold putN; rw [a, hp]
    · unfold putL; rw [a, c]; rfl
/-- Nothing fresh: all is as it was. -/
theorem putL_same (l : L) (i t : Nat) (x : List E) (h : puts l i t x = false ∨ putF l i t x = []) : putL l i t x = l := by
  cases hp : puts l i t x with
  | false => unfold putL; rw [hp]; rfl
  | true =>
    rcases h with h | h
    · rw [hp] at h; cases h
    · unfold putF at h
      rw [hp] at h
      unfold putL; rw [hp]
      exact put_nil h
theorem putL_end {l : L} (h : Ok l) (i t : Nat) (x : List E) (hp : puts l i t x = true) (hn : putF l i t x ≠ []) :
    (lst (putL l i t x)).1 = putN l i t x ∧ (putF l i t x).length ≤ (putL l i t x).es.length ∧ (putL l i t x).es.drop ((putL l i t x).es.length - (putF l i t x).length) = putF l i t x := by
  have e1 : putL l i t x = put l x := by unfold putL; rw [hp]; rfl
  have e2 : putF l i t x = lacking l x := by unfold putF; rw [hp]; rfl
  have e3 : putN l i t x = i + x.length := by unfold putN; rw [hp]; rfl
  rw [e2] at hn
  rw [e1, e2, e3]
  unfold puts at hp
  rw [Bool.and_eq_true] at hp
  exact put_end h hp.1 hp.2 hn
theorem putL_len {l : L} (h : Ok l) (i t : Nat) (x : List E) : (putL l i t x).es.length ≤ l.es.length + x.length := by
  unfold putL
  split
  next hp =>
    unfold puts at hp
    rw [Bool.and_eq_true] at hp
    obtain ⟨p, hx, h1, h2, _, _, _, _, h4⟩ := put_es h hp.1 hp.2
    have hxl : x.length = p.length + (lacking l x).length := by
      have := congrArg List.length hx
      rw [List.length_append] at this; exact this
    rcases h4 with ⟨_, h4⟩ | ⟨_, h4⟩
    · rw [h4]; omega
    · rw [h4, List.length_append, List.length_take]; omega
  next => omega
end Lg
/-- What Put hands back, taken or not. -/
theorem RetPut.uni {l : Lg.L} {i t : Nat} {es : List En.E} {p : Nat} {S : Nat → Prop} {w w' : World} {e : Ending} (h : RetPut l i t es p S w e w') (hl : LgAt w p S l) :
    ∃ A c S', e = .returned (.tuple #[.bool (Lg.puts l i t es), .int .u64 ((Lg.putN l i t es : Nat) : Int), .slice A (Lg.putF l i t es).length c]) ∧ Sl w' 13 A (Lg.putF l i t es).length c (ec (Lg.putF l i t es)) ∧ (∀ b, blk A = some b → w.heap.size ≤ b ∧ ¬ S' b) ∧ LgAt w' p S' (Lg.putL l i t es) ∧ (∀ k, S' k → S k ∨ w.heap.size ≤ k) ∧ Ks S w w' := by
  unfold RetPut at h
  unfold Lg.putN Lg.putF Lg.putL
  cases hp : Lg.puts l i t es with
  | true =>
    rw [if_pos hp] at h
    exact h
  | false =>
    rw [if_neg (by rw [hp]; simp)] at h
    obtain ⟨h1, h2⟩ := h
    exact ⟨none, 0, S, h1, Sl.nil _ _, (fun b hb => by cases hb), hl.bel h2, (fun k hk => .inl hk), Ks.bel h2⟩
end Go.Proofs.Ytlnohjboldenpaa
