/-
  CmdOnly walked. WRITTEN BY wip/tools/gen_lwonly.py.
-/
import Derived.Test.YtaebbmhjnhhemaaQLwOnlyA
import Derived.Test.YtaebbmhjnhhemaaQLwOnlyB
import Derived.Test.YtaebbmhjnhhemaaQLwOnlyC
import Derived.Test.YtaebbmhjnhhemaaQLwOnlyD
set_option linter.unusedSimpArgs false
set_option linter.unusedVariables false
namespace Go.Proofs.Ytaebbmhjnhhemaa
open Go.RowKit
theorem cmdOnly_walk (s : ByteArray) (w0 : s.size ≤ maxLen) (w : World) :
    Calls Try.prog 9 #[.string s] w fun e w' => e = .returned (.bool true) ∧ Below w.heap.size w w' := by
  obtain ⟨t, ht, htz⟩ : ∃ t : ByteArray, t = (if 4000 < s.size then s.extract 0 4000 else s) ∧ t.size ≤ 4000 := by
    refine ⟨_, rfl, ?_⟩
    split
    · rw [ByteArray.size_extract]; omega
    · omega
  have htl : t.data.toList.length ≤ 4000 := by rw [← Lib.size_eq]; exact htz
  have htt : (⟨t.data.toList.toArray⟩ : ByteArray) = t := rfl
  have hR := fun W => cmdRead_any t W (by omega)
  have hO := fun W => oread_any t W (by omega)
  have hP := fun W => cmdReadRes_any t W (by omega)
  have hWs : ∀ c, Cm.read t.data.toList = some c → ∀ W A cap, Lies W A (pc c.parts) → Calls Try.prog 10 #[.agg (cmdC c A cap)] W fun e w' => e = .returned (.string t) ∧ Below W.heap.size W w' := by
    intro c hc W A cap hA
    obtain ⟨hs, hm, hl⟩ := (Cm.read_iff _ _).1 hc
    have h := cmdWrite_any c hs.fits (cmd_short hs (by rw [← hl]; omega)) A cap W hA
    unfold Cm.write at h
    rw [hm, if_pos rfl, ← hl] at h
    exact h
  have hWn : ∀ W A cap, Lies W A (pc Cm.zero.parts) → Calls Try.prog 25 #[.agg (cmdC Cm.zero A cap), .agg (cmdC Cm.zero none 0)] W fun e w' => e = .returned (.bool true) ∧ Below W.heap.size W w' := by
    intro W A cap hA
    have h := same_any Cm.zero Cm.zero A none cap 0 W hA (.inl rfl) (by simp [Cm.zero])
    rw [(Cm.same_iff Cm.zero Cm.zero).2 rfl] at h
    exact h
  have hVs : ∀ o, Wk.oin t.data.toList = some o → ∀ W, Calls Try.prog 11 #[.agg (operC o)] W fun e w' => e = .returned (.string t) ∧ Below W.heap.size W w' := by
    intro o ho W
    obtain ⟨hm, hl⟩ := (Wk.oin_iff _ _).1 ho
    have h := owrite_any o (Wk.may_fits hm) W (Wk.oper_ne o (Wk.may_fits hm))
    rw [Wk.oout_eq o (Wk.may_fits hm), if_pos hm, hl] at h
    exact h
  have hXs : ∀ r, Rs.read t.data.toList = some r → ∀ W A cap, Lies W A (rc r.rows) → Calls Try.prog 14 #[.agg (resC r A cap)] W fun e w' => e = .returned (.string t) ∧ Below W.heap.size W w' := by
    intro r hr W A cap hA
    obtain ⟨hs, hl⟩ := (Rs.read_iff _ _).1 hr
    obtain ⟨f1, f2, f3, f4⟩ := res_short hs (by rw [← hl]; omega)
    have h := cmdWriteRes_gen 5000 5000 (by omega) (by omega) (by omega) r f1 (by omega) f3 f4 A cap W hA
    rw [← hl] at h
    exact h
  have hXn : ∀ W A cap, Lies W A (rc Rs.zero.rows) → Calls Try.prog 26 #[.agg (resC Rs.zero A cap), .agg (resC Rs.zero none 0)] W fun e w' => e = .returned (.bool true) ∧ Below W.heap.size W w' := by
    intro W A cap hA
    have h := sameResult_any Rs.zero Rs.zero A none cap 0 W hA (.inl rfl) (by simp [Rs.zero])
    rw [(Rs.same_iff Rs.zero Rs.zero).2 rfl] at h
    exact h
  rcases hx : Cm.read t.data.toList with _ | c <;> rw [hx] at hR
  · rcases hy : Wk.oin t.data.toList with _ | o <;> rw [hy] at hO
    · rcases hz : Rs.read t.data.toList with _ | r <;> rw [hz] at hP
      · by_cases hk : 4000 < s.size
        · exact only_0001 s t hk (by rw [ht, if_pos hk]) w Cm.zero Og.Oper.zero Rs.zero hR hO hP hWn  hXn
        · exact only_0000 s t (by omega) (by rw [ht, if_neg hk]) w Cm.zero Og.Oper.zero Rs.zero hR hO hP hWn  hXn
      · by_cases hk : 4000 < s.size
        · exact only_0011 s t hk (by rw [ht, if_pos hk]) w Cm.zero Og.Oper.zero r hR hO hP hWn  (hXs r hz)
        · exact only_0010 s t (by omega) (by rw [ht, if_neg hk]) w Cm.zero Og.Oper.zero r hR hO hP hWn  (hXs r hz)
    · rcases hz : Rs.read t.data.toList with _ | r <;> rw [hz] at hP
      · by_cases hk : 4000 < s.size
        · exact only_0101 s t hk (by rw [ht, if_pos hk]) w Cm.zero o Rs.zero hR hO hP hWn (hVs o hy) hXn
        · exact only_0100 s t (by omega) (by rw [ht, if_neg hk]) w Cm.zero o Rs.zero hR hO hP hWn (hVs o hy) hXn
      · by_cases hk : 4000 < s.size
        · exact only_0111 s t hk (by rw [ht, if_pos hk]) w Cm.zero o r hR hO hP hWn (hVs o hy) (hXs r hz)
        · exact only_0110 s t (by omega) (by rw [ht, if_neg hk]) w Cm.zero o r hR hO hP hWn (hVs o hy) (hXs r hz)
  · rcases hy : Wk.oin t.data.toList with _ | o <;> rw [hy] at hO
    · rcases hz : Rs.read t.data.toList with _ | r <;> rw [hz] at hP
      · by_cases hk : 4000 < s.size
        · exact only_1001 s t hk (by rw [ht, if_pos hk]) w c Og.Oper.zero Rs.zero hR hO hP (hWs c hx)  hXn
        · exact only_1000 s t (by omega) (by rw [ht, if_neg hk]) w c Og.Oper.zero Rs.zero hR hO hP (hWs c hx)  hXn
      · by_cases hk : 4000 < s.size
        · exact only_1011 s t hk (by rw [ht, if_pos hk]) w c Og.Oper.zero r hR hO hP (hWs c hx)  (hXs r hz)
        · exact only_1010 s t (by omega) (by rw [ht, if_neg hk]) w c Og.Oper.zero r hR hO hP (hWs c hx)  (hXs r hz)
    · rcases hz : Rs.read t.data.toList with _ | r <;> rw [hz] at hP
      · by_cases hk : 4000 < s.size
        · exact only_1101 s t hk (by rw [ht, if_pos hk]) w c o Rs.zero hR hO hP (hWs c hx) (hVs o hy) hXn
        · exact only_1100 s t (by omega) (by rw [ht, if_neg hk]) w c o Rs.zero hR hO hP (hWs c hx) (hVs o hy) hXn
      · by_cases hk : 4000 < s.size
        · exact only_1111 s t hk (by rw [ht, if_pos hk]) w c o r hR hO hP (hWs c hx) (hVs o hy) (hXs r hz)
        · exact only_1110 s t (by omega) (by rw [ht, if_neg hk]) w c o r hR hO hP (hWs c hx) (hVs o hy) (hXs r hz)
end Go.Proofs.Ytaebbmhjnhhemaa
