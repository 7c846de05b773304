/-
  conf's List and Of walked.
-/
import Derived.Test.YtdodpocckjcomaaRCfWalk
import Derived.Test.YtdodpocckjcomaaRWords
set_option linter.unusedSimpArgs false
set_option linter.unusedVariables false
namespace Go.Proofs.Ytdodpocckjcomaa
open Go.RowKit
namespace Cf
theorem below_step : ∀ n : Fin 6, 1 ≤ n.val → five.filter (fun k => decide (k < n.val + 1)) = five.filter (fun k => decide (k < n.val)) ++ [n.val] := by decide
theorem below_add (n : Nat) (h1 : 1 ≤ n) (h2 : n ≤ 5) : five.filter (fun k => decide (k < n + 1)) = five.filter (fun k => decide (k < n)) ++ [n] := below_step ⟨n, by omega⟩ h1
theorem below_one : five.filter (fun k => decide (k < 1)) = [] := by decide
theorem below_six : five.filter (fun k => decide (k < 6)) = five := by decide
/-- The members below a number. -/
def upto (m n : Nat) : List Nat := (five.filter fun k => decide (k < n)).filter (has m)
theorem upto_add (m n : Nat) (h1 : 1 ≤ n) (h2 : n ≤ 5) : upto m (n + 1) = upto m n ++ (if has m n then [n] else []) := by
  unfold upto
  rw [below_add n h1 h2, List.filter_append]
  congr 1
  cases h : has m n
  · simp [h]
  · simp [h]
theorem upto_one (m : Nat) : upto m 1 = [] := by unfold upto; rw [below_one]; rfl
theorem upto_six (m : Nat) : upto m 6 = mem m := by unfold upto mem; rw [below_six]
theorem upto_len (m n : Nat) : (upto m n).length ≤ 5 := Nat.le_trans (List.length_filter_le _ _) (List.length_filter_le _ five)
theorem mem_len (m : Nat) : (mem m).length ≤ 5 := List.length_filter_le _ five
theorem mem_lt (m : Nat) : ∀ n ∈ mem m, n < 256 := fun n h => by have := mem_le m n h; omega
end Cf
theorem nc_length (l : List Nat) : (nc l).length = l.length := by simp [nc]
theorem nc_append (l m : List Nat) : nc (l ++ m) = nc l ++ nc m := by simp [nc]
/-- A slice of small numbers of one's own. -/
def OwnN (w : World) (base : Nat) (v : Value) (l : List Nat) : Prop := w.ownsRow base 5 1 v l.length (nc l)
theorem OwnN.nil (w : World) (base : Nat) : OwnN w base (.slice none 0 0) [] := World.ownsRow_nil _ _ _ _
theorem ownN_step {w wr w1 : World} {base : Nat} {v v' : Value} {l : List Nat} {x : Nat} {o : Obj} (ho : OwnN wr base v l) (hb : Below base w wr) (hB : base ≤ wr.heap.size)
    (ho1 : w1.ownsRow base 5 1 v' (l.length + 1) (nc l ++ [.int .u8 (x : Int)])) (hg : (wr.alloc o).grownBy w1 v.ownBlock) : OwnN w1 base v' (l ++ [x]) ∧ Below base w w1 := by
  refine ⟨?_, (hb.alloc hB o).grown hg (by simp; omega) (fun k hk => (World.ownsRow.lt ho k hk).1)⟩
  unfold OwnN
  rw [nc_append, List.length_append]
  exact ho1
theorem OwnN.lies {w : World} {base : Nat} {v : Value} {l : List Nat} (h : OwnN w base v l) : ∃ A cap, v = .slice A l.length cap ∧ Lies w A (nc l) := by
  rcases h.2 with ⟨rfl, hn⟩ | ⟨g, cap, cur, rfl, hlt, hg, _, _, _, htake⟩
  · have : l = [] := List.eq_nil_of_length_eq_zero hn
    subst this
    exact ⟨none, 0, rfl, .inl rfl⟩
  · refine ⟨_, _, rfl, .inr ⟨g, 0, rfl, (World.ownsRow.lt h g rfl).2, fun i u hu => ?_⟩⟩
    have := World.ownsRow.cells h (g := g) rfl i u hu
    by_cases h0 : i = 0
    · subst h0; simpa [Addr.add] using this
    · simpa [Addr.add, h0] using this
/-- A contract's end: a slice of one's own with these numbers. -/
def RetN (l : List Nat) (w : World) (e : Ending) (w' : World) : Prop := ∃ v, e = .returned v ∧ OwnN w' w.heap.size v l ∧ Below w.heap.size w w'
set_option maxRecDepth 100000 in
set_option maxHeartbeats 2000000 in
theorem list_any10 (m : Nat) (hm : m < 256) (w : World) : Calls Try.prog 9 #[.int .u8 (m : Int)] w (RetN (Cf.mem m) w) := by
  obtain ⟨i0, hi, hz0, hz1, hz2⟩ := info_parts Try.infoByte
  have HH := Lib.hid (fun n (hn : n < 256) w => has_any m n hm hn w)
  go_enter Try.func9, Try.ntmps9
  go_wp2
  go_loopw [3, 4] (fun v i wr => ∃ n : Nat, 1 ≤ n ∧ n ≤ 6 ∧ i = .int .u8 (n : Int) ∧ OwnN wr w.heap.size v (Cf.upto m n) ∧ Below w.heap.size w wr) (fun _ i _ => 6 - (intOf i).toNat)
  case atStart => exact ⟨1, by omega, by omega, rfl, by rw [Cf.upto_one]; exact OwnN.nil _ _, Below.refl _ _⟩
  case round =>
    obtain ⟨n, h1, h6, rfl, ho, hb⟩ := hrel
    have hbs := hb.size
    by_cases hlt : n ≤ 5
    · have hl1 : decide (n ≤ 5) = true := by simpa using hlt
      have hl2 : ((n : Int) ≤ 5) = True := by simp; omega
      have hst := Cf.upto_add m n h1 hlt
      have hln := Cf.upto_len m n
      have HHn := Lib.hid (HH.out n (by omega))
      by_cases ht : Cf.has m n = true
      · rw [ht] at HHn hst
        rw [if_pos rfl] at hst
        have Hy := Lib.hid hst
        have HO := Lib.hid ho
        have HB := Lib.hid hb
        clear hb hst ht
        go_wp2_with (first
          | (go_at_call 13; refine (HHn.out _).mono ?_; rintro e w1 ⟨rfl, rfl⟩)
          | (at_builtin; refine wpList_append_own _ rfl (.tmp 12) (.tmp 14) 24 rfl w.heap.size 5 i0 (.int .u8 0) 1 1 Try.underlying24 hi hz0 hz1 hz2 rfl (by decide) _ _ _ rfl (World.ownsRow.alloc ho _) ⟨wr.heap.size, 0, none⟩ 1 1 [_] rfl rfl (cell_one_new _ _ _) (fun u hu => by simp at hu; subst hu; rfl) (by simp only [maxLen]; omega) (by omega) (by simp; omega) ?_; intro v' w1 ho1 hg1 _))
        have R := ownN_step HO.out HB.out hbs ho1 hg1
        clear ho1 hg1
        go_roundw
        case rel => exact ⟨n + 1, by omega, by omega, by go_num, by rw [Hy.out]; exact R.1, R.2⟩
        case measure => simp [intOf]; omega
      · rw [Bool.not_eq_true] at ht
        rw [ht] at HHn hst
        have Hy := Lib.hid hst
        have HO := Lib.hid ho
        have HB := Lib.hid hb
        clear ho hb hst ht
        go_wp2_with (go_at_call 13; refine (HHn.out _).mono ?_; rintro e w1 ⟨rfl, rfl⟩)
        go_roundw
        case rel => exact ⟨n + 1, by omega, by omega, by go_num, by rw [Hy.out]; simpa using HO.out, HB.out⟩
        case measure => simp [intOf]; omega
    · obtain rfl : n = 6 := by omega
      rw [Cf.upto_six] at ho
      have HO := Lib.hid ho
      have HB := Lib.hid hb
      clear ho hb
      go_wp2_with fail
      go_ret
      exact ⟨_, rfl, HO.out, HB.out⟩
set_option maxRecDepth 100000 in
theorem of_any (l : List Nat) (hl : ∀ n ∈ l, n < 256) (A : Option Addr) (cap : Nat) (w : World) (hA : Lies w A (nc l)) (hlen : l.length ≤ 140737488355328) : Calls Try.prog 11 #[.slice A l.length cap] w fun e w' => e = .returned (.int .u8 (Cf.of l : Int)) ∧ w = w' := by
  have HB := Lib.hid (fun n (hn : n < 256) w => bitOf_any n hn w)
  have HA := Lib.hid hA
  clear hA
  go_enter Try.func11, Try.ntmps11
  go_wp2_with fail
  go_loopw [3, 8] (fun v i wr => ∃ j, j ≤ l.length ∧ i = .int .i64 (j : Int) ∧ v = .int .u8 (Cf.of (l.take j) : Int) ∧ w = wr) (fun _ i _ => l.length - (intOf i).toNat)
  case atStart => exact ⟨0, Nat.zero_le _, rfl, rfl, rfl⟩
  case round =>
    obtain ⟨j, hj, rfl, rfl, rfl⟩ := hrel
    by_cases hlt : j < l.length
    · obtain ⟨x, hx⟩ : ∃ x, x = l[j] := ⟨_, rfl⟩
      have hx256 := hl x (by rw [hx]; exact List.getElem_mem hlt)
      have hcell : ∃ bb oo, A = some ⟨bb, oo, none⟩ ∧ w.cell? ⟨bb, oo + j, none⟩ = some (.int .u8 (x : Int)) := by
        rcases HA.out with h | ⟨bb, oo, rfl, _, hc⟩
        · exfalso
          have := congrArg List.length h
          simp [nc] at this; simp [this] at hlt
        · exact ⟨bb, oo, rfl, hc j _ (by simp [nc, hlt, hx])⟩
      obtain ⟨bb, oo, rfl, hcell⟩ := hcell
      have E : Hid (Cf.of (l.take (j + 1)) = Cf.of (l.take j) ||| Cf.bit x) := Lib.hid (by rw [List.take_succ_eq_append_getElem hlt, Cf.of_snoc, hx])
      have hy := Cf.of_lt (l.take j)
      obtain ⟨y, hyy⟩ : ∃ y, y = Cf.of (l.take j) := ⟨_, rfl⟩
      rw [← hyy] at E hy ⊢
      have hbb := Cf.bit_lt x
      have HBx := Lib.hid (HB.out x hx256)
      obtain ⟨b, hb⟩ : ∃ b, b = Cf.bit x := ⟨_, rfl⟩
      rw [← hb] at E HBx hbb
      have e2 : bits .or .u8 (y : Int) (b : Int) = ((y ||| b : Nat) : Int) := u8_or_nat _ _ (by omega) (by omega)
      obtain ⟨z, hz⟩ : ∃ z, z = y ||| b := ⟨_, rfl⟩
      rw [← hz] at E e2
      clear hx hyy hb hz
      go_wp2_with (go_at_call 25; refine (HBx.out _).mono ?_; rintro e w1 ⟨rfl, rfl⟩)
      go_roundw
      case rel => exact ⟨j + 1, by omega, by go_num, by rw [E.out], by trivial⟩
      case measure => simp [intOf]; omega
    · obtain rfl : j = l.length := by omega
      rw [List.take_of_length_le (Nat.le_refl _)]
      go_wp2_with fail
      go_ret
      exact ⟨rfl, rfl⟩
end Go.Proofs.Ytdodpocckjcomaa
