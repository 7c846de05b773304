/-
  The library's sort of at most twelve uint64 numbers, walked.
-/
import Derived.Test.YtdodpocckjcomaaRSoIns
set_option linter.unusedSimpArgs false
set_option linter.unusedVariables false
namespace Go.Proofs.Ytdodpocckjcomaa
open Go.RowKit Go.Sort
set_option maxRecDepth 100000 in
theorem so_len64 (x : Nat) (hx : x ≤ 12) (w : World) : Calls Try.prog 43 #[.int .u64 (x : Int)] w fun e w' => (∃ n, e = .returned (.int .i64 n)) ∧ w = w' := by
  have hc : x = 0 ∨ x = 1 ∨ x = 2 ∨ x = 3 ∨ x = 4 ∨ x = 5 ∨ x = 6 ∨ x = 7 ∨ x = 8 ∨ x = 9 ∨ x = 10 ∨ x = 11 ∨ x = 12 := by omega
  rcases hc with rfl | rfl | rfl | rfl | rfl | rfl | rfl | rfl | rfl | rfl | rfl | rfl | rfl
  all_goals
    go_enter Try.func43, Try.ntmps43
    go_wp2_with fail
    go_ret
    exact ⟨⟨_, rfl⟩, rfl⟩
set_option maxRecDepth 100000 in
theorem so_len (x : Nat) (hx : x ≤ 12) (w : World) : Calls Try.prog 32 #[.int .u64 (x : Int)] w fun e w' => (∃ n, e = .returned (.int .i64 n)) ∧ w = w' := by
  have HL := Lib.hid (fun w => so_len64 x hx w)
  go_enter Try.func32, Try.ntmps32
  go_wp2_with (go_at_call 43; refine (HL.out _).mono ?_; rintro e w1 ⟨⟨n, rfl⟩, rfl⟩)
  go_ret
  exact ⟨⟨_, rfl⟩, rfl⟩
set_option maxRecDepth 100000 in
theorem so_pdq12 (g off cap : Nat) (d : Array Int) (u : Value) (w : World) (hH : Holds uV w g off d) (h12 : d.size ≤ 12) :
    Calls Try.prog 31 #[.slice (some ⟨g, off, none⟩) d.size cap, .int .i64 0, .int .i64 d.size, u] w fun e w' => e = .returned (.tuple #[]) ∧ ∃ n, w' = sw w g off (Sort.insertionSort ltInt d 0 d.size) n := by
  have HI := Lib.hid (so_ins g off cap 0 d.size d w hH (Nat.zero_le _) (Nat.le_refl _) (by omega))
  clear hH
  obtain ⟨n, hn⟩ : ∃ n, n = d.size := ⟨_, rfl⟩
  obtain ⟨F, hF⟩ : ∃ F : World → Prop, F = fun w' => ∃ n, w' = sw w g off (Sort.insertionSort ltInt d 0 d.size) n := ⟨_, rfl⟩
  have HI : Hid (Calls Try.prog 33 #[.slice (some ⟨g, off, none⟩) n cap, .int .i64 ((0 : Nat) : Int), .int .i64 n] w fun e w' => e = .returned (.tuple #[]) ∧ F w') := Lib.hid (by rw [hF, hn]; exact HI.out)
  have h2 : n ≤ 12 := by omega
  have GO : Calls Try.prog 31 #[.slice (some ⟨g, off, none⟩) n cap, .int .i64 0, .int .i64 n, u] w fun e w' => e = .returned (.tuple #[]) ∧ F w' := by
    clear hn hF h12
    go_enter Try.func31, Try.ntmps31
    go_wp2_with fail
    go_loopw [1, 2] (fun a b wr => a = .int .i64 0 ∧ b = .int .i64 (n : Int) ∧ w = wr) (fun _ _ _ => 0)
    case atStart => exact ⟨rfl, rfl, rfl⟩
    case round =>
      obtain ⟨rfl, rfl, rfl⟩ := hrel
      go_wp2_with fail
      refine HI.out.mono ?_
      rintro e w1 ⟨rfl, hw⟩
      have HW := Lib.hid hw
      clear hw
      go_wp2_with fail
      refine bodyPost_ret (results_none (fn := Try.f31) rfl _ _ _) rfl ⟨rfl, HW.out⟩
  rw [hF, hn] at GO
  exact GO
set_option maxRecDepth 100000 in
theorem so_sort12 (g off cap : Nat) (d : Array Int) (w : World) (hH : Holds uV w g off d) (h12 : d.size ≤ 12) :
    Calls Try.prog 29 #[.slice (some ⟨g, off, none⟩) d.size cap] w fun e w' => e = .returned (.tuple #[]) ∧ ∃ n, w' = sw w g off (Sort.insertionSort ltInt d 0 d.size) n := by
  have HI := Lib.hid (fun u => so_pdq12 g off cap d u w hH h12)
  have HL := Lib.hid (fun w => so_len d.size (by omega) w)
  clear hH
  obtain ⟨n, hn⟩ : ∃ n, n = d.size := ⟨_, rfl⟩
  rw [← hn] at HI HL h12 ⊢
  clear hn
  obtain ⟨F, hF⟩ : ∃ F : World → Prop, F = fun w' => ∃ m, w' = sw w g off (Sort.insertionSort ltInt d 0 n) m := ⟨_, rfl⟩
  have GO : Calls Try.prog 29 #[.slice (some ⟨g, off, none⟩) n cap] w fun e w' => e = .returned (.tuple #[]) ∧ F w' := by
    have HI : Hid (∀ u, Calls Try.prog 31 #[.slice (some ⟨g, off, none⟩) n cap, .int .i64 0, .int .i64 n, u] w fun e w' => e = .returned (.tuple #[]) ∧ F w') := by rw [hF]; exact HI
    clear hF
    go_enter Try.func29, Try.ntmps29
    go_wp2_with fail
    refine (HL.out _).mono ?_
    rintro e w1 ⟨⟨k, rfl⟩, rfl⟩
    go_wp2_with fail
    refine (HI.out _).mono ?_
    rintro e w1 ⟨rfl, hw⟩
    have HW := Lib.hid hw
    clear hw
    go_wp2_with fail
    go_end0
    exact ⟨rfl, HW.out⟩
  rw [hF] at GO
  exact GO
set_option maxRecDepth 100000 in
theorem so_nil (A : Option Addr) (cap : Nat) (w : World) : Calls Try.prog 29 #[.slice A 0 cap] w fun e w' => e = .returned (.tuple #[]) ∧ w = w' := by
  have HL := Lib.hid (fun w => so_len 0 (by decide) w)
  have HI := Lib.hid (fun (u : Value) => show Calls Try.prog 31 #[.slice A 0 cap, .int .i64 0, .int .i64 0, u] w fun e w' => e = .returned (.tuple #[]) ∧ w = w' from by
    have HJ : Hid (Calls Try.prog 33 #[.slice A 0 cap, .int .i64 0, .int .i64 0] w fun e w' => e = .returned (.tuple #[]) ∧ w = w') := by
      apply Lib.hid
      go_enter Try.func33, Try.ntmps33
      go_wp2_with fail
      go_loopw [6] (fun i wr => i = .int .i64 1 ∧ w = wr) (fun i _ => 0)
      case atStart => exact ⟨rfl, rfl⟩
      case round =>
        obtain ⟨rfl, rfl⟩ := hrel
        go_wp2_with fail
        go_end0
        exact ⟨rfl, rfl⟩
    go_enter Try.func31, Try.ntmps31
    go_wp2_with fail
    go_loopw [1, 2] (fun a b wr => a = .int .i64 0 ∧ b = .int .i64 0 ∧ w = wr) (fun _ _ _ => 0)
    case atStart => exact ⟨rfl, rfl, rfl⟩
    case round =>
      obtain ⟨rfl, rfl, rfl⟩ := hrel
      go_wp2_with fail
      refine HJ.out.mono ?_
      rintro e w1 ⟨rfl, rfl⟩
      go_wp2_with fail
      refine bodyPost_ret (results_none (fn := Try.f31) rfl _ _ _) rfl ⟨rfl, rfl⟩)
  go_enter Try.func29, Try.ntmps29
  go_wp2_with fail
  refine (HL.out _).mono ?_
  rintro e w1 ⟨⟨k, rfl⟩, rfl⟩
  go_wp2_with fail
  refine (HI.out _).mono ?_
  rintro e w1 ⟨rfl, rfl⟩
  go_wp2_with fail
  go_end0
  exact ⟨rfl, rfl⟩
theorem uc_uV (ns : List Nat) : uc ns = (ns.map fun (n : Nat) => (n : Int)).map uV := by unfold uc; rw [List.map_map]; rfl
/-- What the sort does to a row of one's own: these numbers, in order. -/
theorem so_own {B : Nat} {v : Value} {ns : List Nat} {w : World} (ho : w.ownsRow B 22 1 v ns.length (uc ns)) (h12 : ns.length ≤ 12) :
    Calls Try.prog 29 #[v] w fun e w' => e = .returned (.tuple #[]) ∧ ∃ s : List Nat, w'.ownsRow B 22 1 v s.length (uc s) ∧ s.Perm ns ∧ s.Pairwise (· ≤ ·) ∧ Below B w w' := by
  by_cases hv : v = .slice none 0 0
  · subst hv
    have hns : ns = [] := by
      rcases ho.2 with ⟨_, h0⟩ | ⟨g, cap, cur, hv, _⟩
      · exact List.eq_nil_of_length_eq_zero h0
      · cases hv
    subst hns
    refine (so_nil none 0 w).mono ?_
    rintro e w' ⟨rfl, rfl⟩
    exact ⟨rfl, [], ho, List.Perm.refl _, List.Pairwise.nil, Below.refl _ _⟩
  · have ho2 := ho
    rw [uc_uV] at ho2
    obtain ⟨g, cap, rfl, hBg, hgw, _, _, hl, hH⟩ := Go.Lib.holds_of_ownsRow ho2 hv
    obtain ⟨d, hd⟩ : ∃ d, d = (ns.map fun (n : Nat) => (n : Int)).toArray := ⟨_, rfl⟩
    rw [← hd] at hH
    have hds : d.size = ns.length := by rw [hd]; simp
    have hs := so_sort12 g 0 cap d w hH (by omega)
    rw [hds] at hs
    refine hs.mono ?_
    rintro e w' ⟨rfl, n, rfl⟩
    refine ⟨rfl, ?_⟩
    obtain ⟨hp, hso⟩ := insertionSort_holds (lt := ltInt) swo_ltInt d 0 d.size (Nat.zero_le _) (Nat.le_refl _)
    rw [hds] at hp hso
    obtain ⟨r, hr⟩ : ∃ r, r = Sort.insertionSort ltInt d 0 ns.length := ⟨_, rfl⟩
    rw [← hr] at hp hso ⊢
    have hrs : r.size = ns.length := by rw [hp.1, hds]
    have hperm : r.toList.Perm (ns.map fun (n : Nat) => (n : Int)) := by
      have h3 := hp.2.2
      rw [Array.extract_eq_self_of_le (by omega), Array.extract_eq_self_of_le (by omega)] at h3
      rw [hd] at h3
      simpa using h3
    obtain ⟨s, hs1⟩ : ∃ s : List Nat, r.toList = s.map fun (n : Nat) => (n : Int) := by
      refine ⟨r.toList.map Int.toNat, ?_⟩
      rw [List.map_map]
      conv => lhs; rw [← List.map_id r.toList]
      refine List.map_congr_left fun x hx => ?_
      obtain ⟨k, _, rfl⟩ := List.mem_map.1 (hperm.mem_iff.1 hx)
      simp
    have hsl : s.length = ns.length := by
      have := congrArg List.length hs1
      simp at this; omega
    have hra : r = (s.map fun (n : Nat) => (n : Int)).toArray := by rw [← hs1]
    refine ⟨s, ?_, ?_, ?_, ?_⟩
    · have := Go.Lib.ownsRow_putRow (enc := uV) (q := n) (k := ns.length) (ys := s.map fun (n : Nat) => (n : Int)) ho2 (by simp; omega) (Nat.le_refl _)
      rw [hra, hsl, uc_uV]
      have e2 : (s.map fun (n : Nat) => (n : Int)).take ns.length = s.map fun (n : Nat) => (n : Int) := List.take_of_length_le (by simp; omega)
      rw [e2] at this
      exact this
    · rw [hs1] at hperm
      have := hperm.map Int.toNat
      rw [List.map_map, List.map_map] at this
      have id1 : (Int.toNat ∘ fun (n : Nat) => (n : Int)) = id := by funext n; simp
      rwa [id1, List.map_id, List.map_id] at this
    · rw [List.pairwise_iff_getElem]
      intro i j hi hj hij
      have h5 := hso i j (Nat.zero_le _) hij (by omega)
      rw [hra] at h5
      have g1 : (s.map fun (n : Nat) => (n : Int)).toArray[i]! = (s[i] : Int) := by rw [getElem!_pos _ i (by simpa using hi)]; simp
      have g2 : (s.map fun (n : Nat) => (n : Int)).toArray[j]! = (s[j] : Int) := by rw [getElem!_pos _ j (by simpa using hj)]; simp
      rw [g1, g2] at h5
      unfold ltInt at h5
      have := of_decide_eq_false h5
      omega
    · exact Go.Lib.below_putRow (Below.refl B w) hBg
end Go.Proofs.Ytdodpocckjcomaa
