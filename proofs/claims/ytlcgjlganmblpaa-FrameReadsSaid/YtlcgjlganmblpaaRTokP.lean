/-
  The first bytes of a token.
-/
import Derived.Test.YtlcgjlganmblpaaRTok
set_option linter.unusedSimpArgs false
set_option linter.unusedVariables false
namespace Go.Proofs.Ytlcgjlganmblpaa
open Go.RowKit
/-- The first k bytes of a token. -/
def tokP (T : Og.Tk) (k : Nat) : Og.Tk := ⟨(if 0 < k then T.a0 else 0), (if 1 < k then T.a1 else 0), (if 2 < k then T.a2 else 0), (if 3 < k then T.a3 else 0), (if 4 < k then T.a4 else 0), (if 5 < k then T.a5 else 0), (if 6 < k then T.a6 else 0), (if 7 < k then T.a7 else 0)⟩
theorem tokP0 (T : Og.Tk) : tokP T 0 = Og.Tk.zero := rfl
theorem tokP8 (T : Og.Tk) : tokP T 8 = T := rfl
theorem byte_at (s : ByteArray) (T : Og.Tk) (a k : Nat) (hT : T.l = (s.data.toList.drop (a + 1)).take 8) (hk : k < 8) (h : a + 1 + k < s.size) : T.l[k]'(show k < 8 from hk) = s[a + 1 + k] := by
  have e : T.l[k]? = some s[a + 1 + k] := by
    rw [hT, List.getElem?_take_of_lt hk, List.getElem?_drop, List.getElem?_eq_getElem (by rw [← Lib.size_eq]; exact h)]
    rfl
  have := List.getElem?_eq_getElem (l := T.l) (i := k) (show k < 8 from hk)
  rw [this] at e
  exact Option.some.inj e
end Go.Proofs.Ytlcgjlganmblpaa
