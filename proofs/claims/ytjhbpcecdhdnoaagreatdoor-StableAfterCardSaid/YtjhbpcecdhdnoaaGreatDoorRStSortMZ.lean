/-
  The plain mathematics of the sort of numbers: what is in order and has these members is St.sortU of them.
  The library's sort of uint64 numbers, first part: cmp.Less and the insertion sort, walked: they compute what the plain functions of the sort's mathematics say.
  The library's sort of at most twelve uint64 numbers, walked.
-/
import Derived.Test.YtjhbpcecdhdnoaaGreatDoorRStOps
import Derived.Test.YtjhbpcecdhdnoaaGreatDoorRWords
import Derived.Sort.LotA
import Derived.Sort.Grow
import Derived.Lib.OwnBridge
import Derived.BigQuiet
import Derived.BigGuard
import Derived.BigCall
import Derived.CellFam
import Derived.Deep.Draws
import Derived.Deep.QuietTactic
set_option linter.unusedSimpArgs false
set_option linter.unusedVariables false
namespace Go.Proofs.YtjhbpcecdhdnoaaGreatDoor
namespace St
theorem rise_unique : ∀ {a b : List Nat}, a.Pairwise (· < ·) → b.Pairwise (· < ·) → (∀ x, x ∈ a ↔ x ∈ b) → a = b
  | [], [], _, _, _ => rfl
  | [], y :: b, _, _, h => absurd ((h y).2 (List.mem_cons_self ..)) (by simp)
  | x :: a, [], _, _, h => absurd ((h x).1 (List.mem_cons_self ..)) (by simp)
  | x :: a, y :: b, ha, hb, h => by
    obtain ⟨a1, a2⟩ := List.pairwise_cons.1 ha
    obtain ⟨b1, b2⟩ := List.pairwise_cons.1 hb
    have hxy : x = y := by
      have h1 := (h x).1 (List.mem_cons_self ..)
      have h2 := (h y).2 (List.mem_cons_self ..)
      rcases List.mem_cons.1 h1 with e | h1
      · exact e
      · rcases List.mem_cons.1 h2 with e | h2
        · exact e.symm
        · have := b1 x h1
          have := a1 y h2
          omega
    subst hxy
    congr 1
    refine rise_unique a2 b2 fun z => ⟨fun hz => ?_, fun hz => ?_⟩
    · rcases List.mem_cons.1 ((h z).1 (List.mem_cons_of_mem _ hz)) with e | h3
      · subst e
        have := a1 z hz
        omega
      · exact h3
    · rcases List.mem_cons.1 ((h z).2 (List.mem_cons_of_mem _ hz)) with e | h3
      · subst e
        have := b1 z hz
        omega
      · exact h3
theorem sorted_eq {l ns : List Nat} (hp : l.Perm ns) (hs : l.Pairwise (· ≤ ·)) (hn : ns.Nodup) : l = sortU ns := by
  have hl : l.Nodup := hp.symm.nodup hn
  have hr : l.Pairwise (· < ·) := (hs.and hl).imp fun ⟨h1, h2⟩ => Nat.lt_of_le_of_ne h1 h2
  exact rise_unique hr (sortU_rise hn) fun x => by rw [sortU_mem]; exact hp.mem_iff
def swp (l : List Nat) (j : Nat) : List Nat := (l.set j (l.getD (j - 1) 0)).set (j - 1) (l.getD j 0)
theorem swp_length (l : List Nat) (j : Nat) : (swp l j).length = l.length := by unfold swp; rw [List.length_set, List.length_set]
theorem swp_get (l : List Nat) (j i : Nat) (hj : 0 < j) (hl : j < l.length) : (swp l j)[i]? = if i = j - 1 then l[j]? else if i = j then l[j - 1]? else l[i]? := by
  have e1 : l.getD j 0 = l[j] := by rw [List.getD_eq_getElem?_getD, List.getElem?_eq_getElem hl]; rfl
  have e2 : l.getD (j - 1) 0 = l[j - 1] := by rw [List.getD_eq_getElem?_getD, List.getElem?_eq_getElem (by omega)]; rfl
  unfold swp
  rw [List.getElem?_set, List.length_set, e1, e2]
  by_cases h1 : i = j - 1
  · rw [if_pos h1.symm, if_pos (by omega), if_pos h1, List.getElem?_eq_getElem hl]
  · rw [if_neg (fun e => h1 e.symm), if_neg h1, List.getElem?_set]
    by_cases h2 : i = j
    · rw [if_pos h2.symm, if_pos (by omega), if_pos h2, List.getElem?_eq_getElem (by omega)]
    · rw [if_neg (fun e => h2 e.symm), if_neg h2]
def Fro (l : List Nat) (i : Nat) : Prop := ∀ a b x y, a < b → b < i → l[a]? = some x → l[b]? = some y → x ≤ y
structure Ins (l : List Nat) (i j : Nat) : Prop where
  ji : j ≤ i
  il : i < l.length
  rest : ∀ a b x y, a < b → b ≤ i → a ≠ j → b ≠ j → l[a]? = some x → l[b]? = some y → x ≤ y
  less : ∀ b x y, j < b → b ≤ i → l[j]? = some x → l[b]? = some y → x ≤ y
theorem Ins.start {l : List Nat} {i : Nat} (h : Fro l i) (hi : i < l.length) : Ins l i i :=
  ⟨Nat.le_refl _, hi, fun a b x y hab hbi _ hb h1 h2 => h a b x y hab (by omega) h1 h2, fun b _ _ h1 h2 => by omega⟩
theorem Ins.step {l : List Nat} {i j : Nat} (h : Ins l i j) (hj : 0 < j) {x y : Nat} (hx : l[j - 1]? = some x) (hy : l[j]? = some y) (hlt : y < x) : Ins (swp l j) i (j - 1) := by
  have hl : j < l.length := by have := h.ji; have := h.il; omega
  refine ⟨by have := h.ji; omega, by rw [swp_length]; exact h.il, fun a b u v hab hb ha hb2 hu hv => ?_, fun b u v hb hbi hu hv => ?_⟩
  · rw [swp_get l j _ hj hl, if_neg ha] at hu
    rw [swp_get l j _ hj hl, if_neg hb2] at hv
    by_cases h1 : a = j
    · rw [if_pos h1] at hu
      rw [if_neg (by omega)] at hv
      exact h.rest (j - 1) b u v (by omega) hb (by omega) (by omega) hu hv
    · rw [if_neg h1] at hu
      by_cases h2 : b = j
      · rw [if_pos h2] at hv
        exact h.rest a (j - 1) u v (by omega) (by omega) h1 (by omega) hu hv
      · rw [if_neg h2] at hv
        exact h.rest a b u v hab hb h1 h2 hu hv
  · rw [swp_get l j _ hj hl, if_pos rfl, hy] at hu
    injection hu with hu
    rw [swp_get l j _ hj hl, if_neg (by omega)] at hv
    by_cases h2 : b = j
    · rw [if_pos h2, hx] at hv
      injection hv with hv
      omega
    · rw [if_neg h2] at hv
      have := h.less b y v (by omega) hbi hy hv
      omega
theorem Fro.all {l : List Nat} (h : Fro l l.length) : l.Pairwise (· ≤ ·) := by
  rw [List.pairwise_iff_getElem]
  intro i j hi hj hij
  exact h i j _ _ hij hj (List.getElem?_eq_getElem hi) (List.getElem?_eq_getElem hj)
end St
end Go.Proofs.YtjhbpcecdhdnoaaGreatDoor
namespace Go.Proofs.YtjhbpcecdhdnoaaGreatDoor
open Go.RowKit Go.Sort
abbrev uV : Int → Value := Value.int .u64
theorem so_nan (x : Int) (w : World) : Calls Tryz.prog 224 #[uV x] w fun e w' => e = .returned (.bool false) ∧ w' = w := by
  go_enter Tryz.func224, Tryz.ntmps224
  go_wp2
  go_ret
  exact ⟨by simp, rfl⟩
theorem so_less (x y : Int) (w : World) : Calls Tryz.prog 175 #[uV x, uV y] w fun e w' => e = .returned (.bool (ltInt x y)) ∧ w' = w := by
  go_enter Tryz.func175, Tryz.ntmps175
  go_wp2_with (go_at_call 224; refine (so_nan _ _).mono ?_; rintro e w1 ⟨rfl, rfl⟩)
  go_ret
  exact ⟨rfl, rfl⟩
section
variable (lt : Int → Int → Bool)
theorem ins_on {a j : Nat} {d : Array Int} (hj : a < j) (hl : lt d[j]! d[j - 1]! = true) : insInner lt a j d = insInner lt a (j - 1) (swp d j (j - 1)) := by
  cases j with
  | zero => omega
  | succ k =>
    rw [Nat.add_sub_cancel] at hl ⊢
    conv => lhs; rw [insInner]
    rw [if_pos (by rw [hl]; simpa using hj)]
theorem ins_off {a j : Nat} {d : Array Int} (h : j ≤ a ∨ lt d[j]! d[j - 1]! = false) : insInner lt a j d = d := by
  cases j with
  | zero => rfl
  | succ k =>
    rw [Nat.add_sub_cancel] at h
    rw [insInner, if_neg]
    rcases h with h | h
    · simp; omega
    · simp [h]
theorem outer_on {a b i : Nat} {d : Array Int} (h : i < b) : insOuter lt a b i d = insOuter lt a b (i + 1) (insInner lt a i d) := by conv => lhs; rw [insOuter, if_pos h]
theorem outer_off {a b i : Nat} {d : Array Int} (h : ¬ i < b) : insOuter lt a b i d = d := by rw [insOuter, if_neg h]
end
abbrev sw (w : World) (g off : Nat) (d : Array Int) (n : Nat) : World := putRow uV (Sort.ahead w n) g off d
theorem sw_drew (w : World) (g off : Nat) (d : Array Int) (m q : Nat) : (sw w g off d m).drewN q = sw w g off d (m + q) := by
  show Sort.ahead (putRow uV (Sort.ahead w m) g off d) q = _
  rw [putRow_ahead, ahead_ahead, ← putRow_ahead]
theorem sw_swp (w : World) (g off : Nat) (d : Array Int) (m q j k : Nat) (hj : j < d.size) (hk : k < d.size) : (((sw w g off d m).drewN q).setCell ⟨g, off + j, none⟩ (uV d[k]!)).setCell ⟨g, off + k, none⟩ (uV d[j]!) = sw w g off (swp d j k) (m + q) := by
  rw [sw_drew]
  exact putRow_swp uV _ g off d j k hj hk
theorem sw_cell {w : World} {g off : Nat} {d dk : Array Int} (h : Holds uV w g off d) (hs : dk.size = d.size) (n t : Nat) (ht : t < d.size) : (sw w g off dk n).cell? ⟨g, off + t, none⟩ = some (uV dk[t]!) := cell?_putRow _ _ _ _ d dk (holds_ahead _ _ _ _ _ _ h) hs t (by omega)
theorem sw_free {w : World} {g off : Nat} {d : Array Int} (h : Holds uV w g off d) (dk : Array Int) (n t : Nat) (ht : t < d.size) : (sw w g off dk n).frozen? ⟨g, off + t, none⟩ = false := by
  rw [frozen?_putRow]; exact ((holds_ahead _ _ n _ _ _ h) t ht).2
set_option maxHeartbeats 2000000 in
theorem so_ins (g off cap a b : Nat) (d : Array Int) (w : World) (hH : Holds uV w g off d) (hab : a ≤ b) (hb : b ≤ d.size) (hsz : d.size < 4611686018427387904) :
    Calls Tryz.prog 169 #[.slice (some ⟨g, off, none⟩) d.size cap, .int .i64 a, .int .i64 b] w fun e w' => e = .returned (.tuple #[]) ∧ ∃ n, w' = sw w g off (Sort.insertionSort ltInt d a b) n := by
  go_enter Tryz.func169, Tryz.ntmps169
  go_wp2
  go_loopw [6] (fun vi wr => ∃ (i n : Nat) (dk : Array Int), vi = .int .i64 i ∧ a < i ∧ i ≤ b + 1 ∧ dk.size = d.size ∧ wr = sw w g off dk n ∧ insOuter ltInt a b i dk = Sort.insertionSort ltInt d a b) (fun vi _ => b + 1 - (intOf vi).toNat)
  case atStart => exact ⟨a + 1, 0, d, by go_num, by omega, by omega, rfl, (putRow_self _ _ _ _ _ hH).symm, rfl⟩
  case round =>
    obtain ⟨i, n, dk, rfl, hai, hib, hsk, hwr, hO⟩ := hrel
    have HO := Lib.hid hO
    clear hO
    by_cases hlt : i < b
    · go_wp2
      go_loopw [7] (fun vj wr2 => ∃ (j m : Nat) (dj : Array Int), vj = .int .i64 j ∧ a ≤ j ∧ j ≤ i ∧ dj.size = d.size ∧ wr2 = sw w g off dj m ∧ insInner ltInt a j dj = insInner ltInt a i dk) (fun vj _ => (intOf vj).toNat)
      case atStart => exact ⟨i, n, dk, rfl, by omega, Nat.le_refl _, hsk, rfl, rfl⟩
      case round =>
        obtain ⟨j, m, dj, rfl, haj, hji, hsj, hw2, hI⟩ := hrel
        obtain ⟨G, hG⟩ : ∃ G : Nat → Int, ∀ t, G t = dj[t]! := ⟨fun t => dj[t]!, fun _ => rfl⟩
        have hcw : ∀ t, t < d.size → wr.cell? ⟨g, off + t, none⟩ = some (.int .u64 (G t)) := fun t ht => by rw [hw2, hG]; exact sw_cell hH hsj m t ht
        have hfw : ∀ t, t < d.size → wr.frozen? ⟨g, off + t, none⟩ = false := fun t ht => by rw [hw2]; exact sw_free hH dj m t ht
        have HW := Lib.hid hw2
        have HG := Lib.hid hG
        have HI := Lib.hid hI
        clear hw2 hG hI hH hwr
        have OUT := Lib.hid (fun (hs : j ≤ a ∨ ltInt dj[j]! dj[j - 1]! = false) (q : Nat) => show ∃ i' n' dk', Value.int .i64 ((i : Int) + 1) = .int .i64 (i' : Nat) ∧ a < i' ∧ i' ≤ b + 1 ∧ dk'.size = d.size ∧ wr.drewN q = sw w g off dk' n' ∧ insOuter ltInt a b i' dk' = Sort.insertionSort ltInt d a b from
          ⟨i + 1, m + q, dj, by go_num, by omega, by omega, hsj, by rw [HW.out]; exact sw_drew _ _ _ _ _ _, by rw [← HO.out, outer_on _ hlt, ← HI.out, ins_off _ hs]⟩)
        by_cases hja : a < j
        · go_wp2
          go_quiet (first | (go_at_call 175; refine Calls.quiet_of_same (so_less _ _ _)))
          go_wp2
          · have hl : ltInt (G j) (G (j - 1)) = true := by assumption
            go_region
            all_goals go_wp2
            go_roundw
            case rel =>
              refine ⟨j - 1, m + (nq + 1), swp dj j (j - 1), by congr 1; omega, by omega, by omega, by rw [size_swp]; exact hsj, ?_, ?_⟩
              · rw [HW.out, HG.out, HG.out]
                exact sw_swp w g off dj m (nq + 1) j (j - 1) (by omega) (by omega)
              · rw [← HI.out, ins_on ltInt hja (by rw [← HG.out, ← HG.out]; exact hl)]
            case measure => simp [intOf]; omega
          · have hl : ltInt (G j) (G (j - 1)) = false := by assumption
            go_roundw
            case rel => exact OUT.out (.inr (by rw [← HG.out, ← HG.out]; exact hl)) nq
            case measure => simp [intOf]; omega
        · go_wp2
          go_quiet (first | (go_at_call 175; refine Calls.quiet_of_same (so_less _ _ _)))
          go_wp2
          go_roundw
          case rel => exact OUT.out (.inl (by omega)) nq
          case measure => simp [intOf]; omega
    · go_wp2
      go_end0
      exact ⟨rfl, n, by rw [← HO.out, outer_off _ hlt]⟩
end Go.Proofs.YtjhbpcecdhdnoaaGreatDoor
namespace Go.Proofs.YtjhbpcecdhdnoaaGreatDoor
open Go.RowKit Go.Sort
set_option maxRecDepth 100000 in
theorem so_len64 (x : Nat) (hx : x ≤ 12) (w : World) : Calls Tryz.prog 179 #[.int .u64 (x : Int)] w fun e w' => (∃ n, e = .returned (.int .i64 n)) ∧ w = w' := by
  have hc : x = 0 ∨ x = 1 ∨ x = 2 ∨ x = 3 ∨ x = 4 ∨ x = 5 ∨ x = 6 ∨ x = 7 ∨ x = 8 ∨ x = 9 ∨ x = 10 ∨ x = 11 ∨ x = 12 := by omega
  rcases hc with rfl | rfl | rfl | rfl | rfl | rfl | rfl | rfl | rfl | rfl | rfl | rfl | rfl
  all_goals
    go_enter Tryz.func179, Tryz.ntmps179
    go_wp2_with fail
    go_ret
    exact ⟨⟨_, rfl⟩, rfl⟩
set_option maxRecDepth 100000 in
theorem so_len (x : Nat) (hx : x ≤ 12) (w : World) : Calls Tryz.prog 118 #[.int .u64 (x : Int)] w fun e w' => (∃ n, e = .returned (.int .i64 n)) ∧ w = w' := by
  have HL := Lib.hid (fun w => so_len64 x hx w)
  go_enter Tryz.func118, Tryz.ntmps118
  go_wp2_with (go_at_call 179; refine (HL.out _).mono ?_; rintro e w1 ⟨⟨n, rfl⟩, rfl⟩)
  go_ret
  exact ⟨⟨_, rfl⟩, rfl⟩
set_option maxRecDepth 100000 in
theorem so_pdq12 (g off cap : Nat) (d : Array Int) (u : Value) (w : World) (hH : Holds uV w g off d) (h12 : d.size ≤ 12) :
    Calls Tryz.prog 117 #[.slice (some ⟨g, off, none⟩) d.size cap, .int .i64 0, .int .i64 d.size, u] w fun e w' => e = .returned (.tuple #[]) ∧ ∃ n, w' = sw w g off (Sort.insertionSort ltInt d 0 d.size) n := by
  have HI := Lib.hid (so_ins g off cap 0 d.size d w hH (Nat.zero_le _) (Nat.le_refl _) (by omega))
  clear hH
  obtain ⟨n, hn⟩ : ∃ n, n = d.size := ⟨_, rfl⟩
  obtain ⟨F, hF⟩ : ∃ F : World → Prop, F = fun w' => ∃ n, w' = sw w g off (Sort.insertionSort ltInt d 0 d.size) n := ⟨_, rfl⟩
  have HI : Hid (Calls Tryz.prog 169 #[.slice (some ⟨g, off, none⟩) n cap, .int .i64 ((0 : Nat) : Int), .int .i64 n] w fun e w' => e = .returned (.tuple #[]) ∧ F w') := Lib.hid (by rw [hF, hn]; exact HI.out)
  have h2 : n ≤ 12 := by omega
  have GO : Calls Tryz.prog 117 #[.slice (some ⟨g, off, none⟩) n cap, .int .i64 0, .int .i64 n, u] w fun e w' => e = .returned (.tuple #[]) ∧ F w' := by
    clear hn hF h12
    go_enter Tryz.func117, Tryz.ntmps117
    go_wp2_with fail
    go_loopw [1, 2] (fun a b wr => a = .int .i64 0 ∧ b = .int .i64 (n : Int) ∧ w = wr) (fun _ _ _ => 0)
    case atStart => exact ⟨rfl, rfl, rfl⟩
    case round =>
      obtain ⟨rfl, rfl, rfl⟩ := hrel
      go_wp2_with fail
      refine HI.out.mono ?_
      rintro e w1 ⟨rfl, hw⟩
      have HW := Lib.hid hw
      clear hw
      go_wp2_with fail
      refine bodyPost_ret (results_none (fn := Tryz.f117) rfl _ _ _) rfl ⟨rfl, HW.out⟩
  rw [hF, hn] at GO
  exact GO
set_option maxRecDepth 100000 in
theorem so_sort12 (g off cap : Nat) (d : Array Int) (w : World) (hH : Holds uV w g off d) (h12 : d.size ≤ 12) :
    Calls Tryz.prog 60 #[.slice (some ⟨g, off, none⟩) d.size cap] w fun e w' => e = .returned (.tuple #[]) ∧ ∃ n, w' = sw w g off (Sort.insertionSort ltInt d 0 d.size) n := by
  have HI := Lib.hid (fun u => so_pdq12 g off cap d u w hH h12)
  have HL := Lib.hid (fun w => so_len d.size (by omega) w)
  clear hH
  obtain ⟨n, hn⟩ : ∃ n, n = d.size := ⟨_, rfl⟩
  rw [← hn] at HI HL h12 ⊢
  clear hn
  obtain ⟨F, hF⟩ : ∃ F : World → Prop, F = fun w' => ∃ m, w' = sw w g off (Sort.insertionSort ltInt d 0 n) m := ⟨_, rfl⟩
  have GO : Calls Tryz.prog 60 #[.slice (some ⟨g, off, none⟩) n cap] w fun e w' => e = .returned (.tuple #[]) ∧ F w' := by
    have HI : Hid (∀ u, Calls Tryz.prog 117 #[.slice (some ⟨g, off, none⟩) n cap, .int .i64 0, .int .i64 n, u] w fun e w' => e = .returned (.tuple #[]) ∧ F w') := by rw [hF]; exact HI
    clear hF
    go_enter Tryz.func60, Tryz.ntmps60
    go_wp2_with fail
    refine (HL.out _).mono ?_
    rintro e w1 ⟨⟨k, rfl⟩, rfl⟩
    go_wp2_with fail
    refine (HI.out _).mono ?_
    rintro e w1 ⟨rfl, hw⟩
    have HW := Lib.hid hw
    clear hw
    go_wp2_with fail
    go_end0
    exact ⟨rfl, HW.out⟩
  rw [hF] at GO
  exact GO
set_option maxRecDepth 100000 in
theorem so_nil (A : Option Addr) (cap : Nat) (w : World) : Calls Tryz.prog 60 #[.slice A 0 cap] w fun e w' => e = .returned (.tuple #[]) ∧ w = w' := by
  have HL := Lib.hid (fun w => so_len 0 (by decide) w)
  have HI := Lib.hid (fun (u : Value) => show Calls Tryz.prog 117 #[.slice A 0 cap, .int .i64 0, .int .i64 0, u] w fun e w' => e = .returned (.tuple #[]) ∧ w = w' from by
    have HJ : Hid (Calls Tryz.prog 169 #[.slice A 0 cap, .int .i64 0, .int .i64 0] w fun e w' => e = .returned (.tuple #[]) ∧ w = w') := by
      apply Lib.hid
      go_enter Tryz.func169, Tryz.ntmps169
      go_wp2_with fail
      go_loopw [6] (fun i wr => i = .int .i64 1 ∧ w = wr) (fun i _ => 0)
      case atStart => exact ⟨rfl, rfl⟩
      case round =>
        obtain ⟨rfl, rfl⟩ := hrel
        go_wp2_with fail
        go_end0
        exact ⟨rfl, rfl⟩
    go_enter Tryz.func117, Tryz.ntmps117
    go_wp2_with fail
    go_loopw [1, 2] (fun a b wr => a = .int .i64 0 ∧ b = .int .i64 0 ∧ w = wr) (fun _ _ _ => 0)
    case atStart => exact ⟨rfl, rfl, rfl⟩
    case round =>
      obtain ⟨rfl, rfl, rfl⟩ := hrel
      go_wp2_with fail
      refine HJ.out.mono ?_
      rintro e w1 ⟨rfl, rfl⟩
      go_wp2_with fail
      refine bodyPost_ret (results_none (fn := Tryz.f117) rfl _ _ _) rfl ⟨rfl, rfl⟩)
  go_enter Tryz.func60, Tryz.ntmps60
  go_wp2_with fail
  refine (HL.out _).mono ?_
  rintro e w1 ⟨⟨k, rfl⟩, rfl⟩
  go_wp2_with fail
  refine (HI.out _).mono ?_
  rintro e w1 ⟨rfl, rfl⟩
  go_wp2_with fail
  go_end0
  exact ⟨rfl, rfl⟩
theorem uc_uV (ns : List Nat) : uc ns = (ns.map fun (n : Nat) => (n : Int)).map uV := by unfold uc; rw [List.map_map]; rfl
theorem so_own {B : Nat} {v : Value} {ns : List Nat} {w : World} (ho : w.ownsRow B 38 1 v ns.length (uc ns)) (h12 : ns.length ≤ 12) :
    Calls Tryz.prog 60 #[v] w fun e w' => e = .returned (.tuple #[]) ∧ ∃ s : List Nat, w'.ownsRow B 38 1 v s.length (uc s) ∧ s.Perm ns ∧ s.Pairwise (· ≤ ·) ∧ Below B w w' := by
  by_cases hv : v = .slice none 0 0
  · subst hv
    have hns : ns = [] := by
      rcases ho.2 with ⟨_, h0⟩ | ⟨g, cap, cur, hv, _⟩
      · exact List.eq_nil_of_length_eq_zero h0
      · cases hv
    subst hns
    refine (so_nil none 0 w).mono ?_
    rintro e w' ⟨rfl, rfl⟩
    exact ⟨rfl, [], ho, List.Perm.refl _, List.Pairwise.nil, Below.refl _ _⟩
  · have ho2 := ho
    rw [uc_uV] at ho2
    obtain ⟨g, cap, rfl, hBg, hgw, _, _, hl, hH⟩ := Go.Lib.holds_of_ownsRow ho2 hv
    obtain ⟨d, hd⟩ : ∃ d, d = (ns.map fun (n : Nat) => (n : Int)).toArray := ⟨_, rfl⟩
    rw [← hd] at hH
    have hds : d.size = ns.length := by rw [hd]; simp
    have hs := so_sort12 g 0 cap d w hH (by omega)
    rw [hds] at hs
    refine hs.mono ?_
    rintro e w' ⟨rfl, n, rfl⟩
    refine ⟨rfl, ?_⟩
    obtain ⟨hp, hso⟩ := insertionSort_holds (lt := ltInt) swo_ltInt d 0 d.size (Nat.zero_le _) (Nat.le_refl _)
    rw [hds] at hp hso
    obtain ⟨r, hr⟩ : ∃ r, r = Sort.insertionSort ltInt d 0 ns.length := ⟨_, rfl⟩
    rw [← hr] at hp hso ⊢
    have hrs : r.size = ns.length := by rw [hp.1, hds]
    have hperm : r.toList.Perm (ns.map fun (n : Nat) => (n : Int)) := by
      have h3 := hp.2.2
      rw [Array.extract_eq_self_of_le (by omega), Array.extract_eq_self_of_le (by omega)] at h3
      rw [hd] at h3
      simpa using h3
    obtain ⟨s, hs1⟩ : ∃ s : List Nat, r.toList = s.map fun (n : Nat) => (n : Int) := by
      refine ⟨r.toList.map Int.toNat, ?_⟩
      rw [List.map_map]
      conv => lhs; rw [← List.map_id r.toList]
      refine List.map_congr_left fun x hx => ?_
      obtain ⟨k, _, rfl⟩ := List.mem_map.1 (hperm.mem_iff.1 hx)
      simp
    have hsl : s.length = ns.length := by
      have := congrArg List.length hs1
      simp at this; omega
    have hra : r = (s.map fun (n : Nat) => (n : Int)).toArray := by rw [← hs1]
    refine ⟨s, ?_, ?_, ?_, ?_⟩
    · have := Go.Lib.ownsRow_putRow (enc := uV) (q := n) (k := ns.length) (ys := s.map fun (n : Nat) => (n : Int)) ho2 (by simp; omega) (Nat.le_refl _)
      rw [hra, hsl, uc_uV]
      have e2 : (s.map fun (n : Nat) => (n : Int)).take ns.length = s.map fun (n : Nat) => (n : Int) := List.take_of_length_le (by simp; omega)
      rw [e2] at this
      exact this
    · rw [hs1] at hperm
      have := hperm.map Int.toNat
      rw [List.map_map, List.map_map] at this
      have id1 : (Int.toNat ∘ fun (n : Nat) => (n : Int)) = id := by funext n; simp
      rwa [id1, List.map_id, List.map_id] at this
    · rw [List.pairwise_iff_getElem]
      intro i j hi hj hij
      have h5 := hso i j (Nat.zero_le _) hij (by omega)
      rw [hra] at h5
      have g1 : (s.map fun (n : Nat) => (n : Int)).toArray[i]! = (s[i] : Int) := by rw [getElem!_pos _ i (by simpa using hi)]; simp
      have g2 : (s.map fun (n : Nat) => (n : Int)).toArray[j]! = (s[j] : Int) := by rw [getElem!_pos _ j (by simpa using hj)]; simp
      rw [g1, g2] at h5
      unfold ltInt at h5
      have := of_decide_eq_false h5
      omega
    · exact Go.Lib.below_putRow (Below.refl B w) hBg
end Go.Proofs.YtjhbpcecdhdnoaaGreatDoor
