/-
  FrameKnown walked. WRITTEN BY wip/tools/gen_frknown.py.
-/
import Derived.Test.YtlcgjlganmblpaaRFrAw
import Derived.Test.YtlcgjlganmblpaaROpen
import Derived.Great.Walk
set_option linter.unusedSimpArgs false
set_option linter.unusedVariables false
namespace Go.Proofs.Ytlcgjlganmblpaa
open Go.RowKit
set_option linter.unusedVariables false
def leadO : Og.Oper := ⟨7, 0, Og.Tk.zero, 0, 0, 0, 0, 0, 2⟩
def leadF : Fr.F := ⟨2, tkOp, Cm.zero, leadO⟩
def seqC : Cm.Cmd := ⟨0, 0, 1, Cm.e0, Cm.e0, Cm.e0, Cm.e0, Cm.e0, 0, 0, 0, []⟩
def batC : Cm.Cmd := ⟨5, 0, 0, Cm.e0, Cm.e0, Cm.e0, Cm.e0, Cm.e0, 0, 0, 0, []⟩
def bothF : Fr.F := ⟨2, tkOp, seqC, leadO⟩
def mixF : Fr.F := ⟨1, tk12, getC, leadO⟩
def thirdF : Fr.F := ⟨3, tk12, getC, Og.Oper.zero⟩
def batF : Fr.F := ⟨1, Og.Tk.zero, batC, Og.Oper.zero⟩
def opF : Fr.F := ⟨2, Og.Tk.zero, Cm.zero, Og.Oper.zero⟩
def fs6 : List Fr.F := [Fr.F.zero, bothF, mixF, thirdF, batF, opF]
def malR : Fr.R := ⟨1, 0, 0, 0, Rs.zero⟩
def misR : Fr.R := ⟨6, 0, 0, 0, ⟨1, 0, Cm.e0, []⟩⟩
def rs7 : List Fr.R := [Fr.R.zero, ⟨7, 0, 0, 0, Rs.zero⟩, ⟨4, 0, 0, 1, Rs.zero⟩, ⟨1, 0, 1, 0, Rs.zero⟩, ⟨3, 0, 0, 6, Rs.zero⟩, ⟨5, 0, 0, 0, ⟨0, 1, Cm.e0, []⟩⟩, ⟨6, 0, 0, 1, Rs.zero⟩]
def row6 : Array Value := ((fs6.map (fun f => (frC f none 0).toList)).flatten).toArray
def row7 : Array Value := ((rs7.map (fun r => (rpC r none 0).toList)).flatten).toArray
theorem flat_at {n : Nat} : ∀ (Xs : List (List Value)), (∀ X ∈ Xs, X.length = n) → ∀ (k : Nat) (hk : k < Xs.length) (j : Nat), j < n → Xs.flatten[n * k + j]? = (Xs[k])[j]?
  | X :: Xs, h, 0, _, j, hj => by
    have hX := h X (by simp)
    simp only [List.flatten_cons, Nat.mul_zero, Nat.zero_add, List.getElem_cons_zero]
    rw [List.getElem?_append_left (by omega)]
  | X :: Xs, h, k + 1, hk, j, hj => by
    have hX := h X (by simp)
    have := flat_at Xs (fun Y hY => h Y (by simp [hY])) k (by simpa using hk) j hj
    rw [List.flatten_cons, List.getElem?_append_right (by rw [hX, Nat.mul_succ]; omega), hX, show n * (k + 1) + j - n = n * k + j by rw [Nat.mul_succ]; omega, this]
    simp
theorem row6_at (k : Nat) (hk : k < 6) : ∀ j, j < (frC (fs6[k]'hk) none 0).size → row6[k * 37 + j]? = (frC (fs6[k]'hk) none 0)[j]? := fun j hj => by
  rw [Nat.mul_comm k 37]
  have h := flat_at (n := 37) (fs6.map (fun f => (frC f none 0).toList)) (fun X hX => by obtain ⟨f, _, rfl⟩ := List.mem_map.1 hX; rfl) k (by rw [List.length_map]; exact hk) j hj
  unfold row6
  rw [List.getElem?_toArray, h, List.getElem_map, Array.getElem?_toList]
  rfl
theorem row7_at (k : Nat) (hk : k < 7) : ∀ j, j < (rpC (rs7[k]'hk) none 0).size → row7[k * 8 + j]? = (rpC (rs7[k]'hk) none 0)[j]? := fun j hj => by
  rw [Nat.mul_comm k 8]
  have h := flat_at (n := 8) (rs7.map (fun f => (rpC f none 0).toList)) (fun X hX => by obtain ⟨f, _, rfl⟩ := List.mem_map.1 hX; rfl) k (by rw [List.length_map]; exact hk) j hj
  unfold row7
  rw [List.getElem?_toArray, h, List.getElem_map, Array.getElem?_toList]
  rfl
theorem small_top (n : Nat) (h : n ≤ 1000) : n < Nm.top := by unfold Nm.top; omega
theorem okK (f : Fr.F) (h1 : f.kind < 256) (h2 : f.cmd.op < 256) (h3 : f.cmd.ses = 0) (h4 : f.cmd.seq ≤ 1) (h5 : f.cmd.key.size ≤ 10) (h6 : f.cmd.val = Cm.e0) (h7 : f.cmd.exp = Cm.e0) (h8 : f.cmd.frm = Cm.e0) (h9 : f.cmd.tto = Cm.e0) (h10 : f.cmd.lim = 0) (h11 : f.cmd.lease = 0) (h12 : f.cmd.ttl = 0) (h13 : f.cmd.parts = []) (h14 : Og.Fits f.op) : Fr.Ok f :=
  Fr.ok_small ⟨h1, ⟨h2, small_top _ (by omega), small_top _ (by omega), by omega, small_top _ (by omega), small_top _ (by omega), by rw [h13]; exact fun p hp => (by cases hp)⟩, h14⟩
    ⟨by omega, by rw [h6]; decide, by rw [h7]; decide, by rw [h8]; decide, by rw [h9]; decide, by rw [h13]; decide, by rw [h13]; exact fun p hp => (by cases hp)⟩
theorem leadO_fits : Og.Fits leadO := by constructor <;> decide
theorem leadO_may : Og.may leadO := by
  have : decide (Og.may leadO) = true := by decide +kernel
  exact of_decide_eq_true this
theorem lead_ok : Fr.Ok leadF := okK _ (by decide) (by decide) rfl (by decide) (by decide) rfl rfl rfl rfl rfl rfl rfl rfl leadO_fits
theorem lead_write : Fr.write leadF = [2, 111, 112, 101, 114, 97, 116, 111, 114, 7, 2] := by
  rw [Fr.write_yes (.inr ⟨rfl, rfl, leadO_may⟩)]
  unfold Fr.enc
  rw [if_neg (show ¬ leadF.kind = 1 by decide)]
  decide +kernel
theorem fs6_ok : ∀ f ∈ fs6, Fr.Ok f ∧ Fr.write f = [] := by
  intro f hf
  simp only [fs6, List.mem_cons, List.not_mem_nil, or_false] at hf
  have hb : Cm.may batC = false := by decide +kernel
  have ho : ¬ Og.may Og.Oper.zero := by
    have : decide (Og.may Og.Oper.zero) = false := by decide +kernel
    exact of_decide_eq_false this
  have hl : ¬ leadO = Og.Oper.zero := by decide
  have hs : ¬ seqC = Cm.zero := fun h => by have := congrArg Cm.Cmd.seq h; revert this; decide
  rcases hf with rfl | rfl | rfl | rfl | rfl | rfl
  · refine ⟨Fr.ok_zero, Fr.write_no fun h => ?_⟩
    rcases h with ⟨h, _⟩ | ⟨h, _⟩ <;> revert h <;> decide
  · refine ⟨okK _ (by decide) (by decide) rfl (by decide) (by decide) rfl rfl rfl rfl rfl rfl rfl rfl leadO_fits, Fr.write_no fun h => ?_⟩
    rcases h with ⟨h, _⟩ | ⟨_, h, _⟩
    · revert h; decide
    · exact hs h
  · refine ⟨okK _ (by decide) (by decide) rfl (by decide) (by decide) rfl rfl rfl rfl rfl rfl rfl rfl leadO_fits, Fr.write_no fun h => ?_⟩
    rcases h with ⟨_, h, _⟩ | ⟨h, _⟩
    · exact hl h
    · revert h; decide
  · refine ⟨okK _ (by decide) (by decide) rfl (by decide) (by decide) rfl rfl rfl rfl rfl rfl rfl rfl ozero_fits, Fr.write_no fun h => ?_⟩
    rcases h with ⟨h, _⟩ | ⟨h, _⟩ <;> revert h <;> decide
  · refine ⟨okK _ (by decide) (by decide) rfl (by decide) (by decide) rfl rfl rfl rfl rfl rfl rfl rfl ozero_fits, Fr.write_no fun h => ?_⟩
    rcases h with ⟨_, _, h⟩ | ⟨h, _⟩
    · exact Bool.noConfusion (hb.symm.trans h)
    · revert h; decide
  · refine ⟨okK _ (by decide) (by decide) rfl (by decide) (by decide) rfl rfl rfl rfl rfl rfl rfl rfl ozero_fits, Fr.write_no fun h => ?_⟩
    rcases h with ⟨h, _⟩ | ⟨_, _, h⟩
    · revert h; decide
    · exact ho h
theorem okKR (r : Fr.R) (h1 : r.kind < 256) (h2 : r.ses ≤ 1) (h3 : r.seq ≤ 1) (h4 : r.lead < 256) (h5 : r.res.code < 256) (h6 : r.res.n ≤ 1) (h7 : r.res.val = Cm.e0) (h8 : r.res.rows = []) : Fr.OkR r :=
  Fr.okr_small ⟨h1, small_top _ (by omega), small_top _ (by omega), h4⟩ ⟨h5, small_top _ (by omega), by rw [h8]; exact fun p hp => (by cases hp)⟩ ⟨by rw [h7]; decide, by rw [h8]; decide, by rw [h8]; exact fun p hp => (by cases hp)⟩
theorem rs7_ok : ∀ r ∈ rs7, Fr.OkR r ∧ Fr.rwrite r = [] := by
  intro r hr
  simp only [rs7, List.mem_cons, List.not_mem_nil, or_false] at hr
  rcases hr with rfl | rfl | rfl | rfl | rfl | rfl | rfl <;> exact ⟨okKR _ (by decide) (by decide) (by decide) (by decide) (by decide) (by decide) rfl rfl, by decide +kernel⟩
theorem kF (f : Fr.F) (h : Fr.Ok f) (t : List UInt8) (ht : Fr.write f = t) (W : World) (hp : f.cmd.parts = []) : Calls Try.prog 10 #[.agg (frC f none 0)] W fun e w' => e = .returned (.string ⟨t.toArray⟩) ∧ Below W.heap.size W w' := by
  have := okW h none 0 W (by rw [hp]; exact .inl rfl)
  rw [ht] at this
  exact this
theorem kP (r : Fr.R) (h : Fr.OkR r) (t : List UInt8) (ht : Fr.rwrite r = t) (W : World) (hp : r.res.rows = []) : Calls Try.prog 11 #[.agg (rpC r none 0)] W fun e w' => e = .returned (.string ⟨t.toArray⟩) ∧ Below W.heap.size W w' := by
  have := okR h none 0 W (by rw [hp]; exact .inl rfl)
  rw [ht] at this
  exact this
theorem fs6_parts : ∀ f ∈ fs6, f.cmd.parts = [] := by
  intro f hf
  simp only [fs6, List.mem_cons, List.not_mem_nil, or_false] at hf
  rcases hf with rfl | rfl | rfl | rfl | rfl | rfl <;> rfl
theorem rs7_rows : ∀ r ∈ rs7, r.res.rows = [] := by
  intro f hf
  simp only [rs7, List.mem_cons, List.not_mem_nil, or_false] at hf
  rcases hf with rfl | rfl | rfl | rfl | rfl | rfl | rfl <;> rfl
theorem read_e : Fr.read (⟨#[]⟩ : ByteArray).data.toList = none := rfl
theorem rread_e : Fr.rread (⟨#[]⟩ : ByteArray).data.toList = none := rfl
theorem built6 : Try.prog.builtSlice 32 6 [(0, .agg (frC Fr.F.zero none 0)), (1, .agg (frC bothF none 0)), (2, .agg (frC mixF none 0)), (3, .agg (frC thirdF none 0)), (4, .agg (frC batF none 0)), (5, .agg (frC opF none 0))] = some row6 := by kernel_rfl
theorem built7 : Try.prog.builtSlice 39 7 [(0, .agg (rpC Fr.R.zero none 0)), (1, .agg (rpC ⟨7, 0, 0, 0, Rs.zero⟩ none 0)), (2, .agg (rpC ⟨4, 0, 0, 1, Rs.zero⟩ none 0)), (3, .agg (rpC ⟨1, 0, 1, 0, Rs.zero⟩ none 0)), (4, .agg (rpC ⟨3, 0, 0, 6, Rs.zero⟩ none 0)), (5, .agg (rpC ⟨5, 0, 0, 0, ⟨0, 1, Cm.e0, []⟩⟩ none 0)), (6, .agg (rpC ⟨6, 0, 0, 1, Rs.zero⟩ none 0))] = some row7 := by kernel_rfl
end Go.Proofs.Ytlcgjlganmblpaa
