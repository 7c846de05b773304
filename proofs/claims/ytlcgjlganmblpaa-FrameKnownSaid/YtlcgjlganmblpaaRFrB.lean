/-
  frame.isNoCommand and frame.isNoResult walked. WRITTEN BY wip/tools/gen_frno.py.
  frame.isRightReply walked. WRITTEN BY wip/tools/gen_frright.py.
  frame.writeCommand walked. WRITTEN BY wip/tools/gen_frcmd.py.
  wapentakeref06.Same and SameReply walked. WRITTEN BY wip/tools/gen_frsame.py.
-/
import Derived.Test.YtlcgjlganmblpaaRFrA
import Derived.Test.YtlcgjlganmblpaaROWr
import Derived.Test.YtlcgjlganmblpaaRCall
import Derived.Test.YtlcgjlganmblpaaRRes
import Derived.Test.YtlcgjlganmblpaaRSame
set_option linter.unusedSimpArgs false
set_option linter.unusedVariables false
namespace Go.Proofs.Ytlcgjlganmblpaa
open Go.RowKit
theorem emp_t {s : ByteArray} (h : s.size = 0) : s.toList.isEmpty = true := by rw [body_empty]; simpa using h
theorem emp_f {s : ByteArray} (h : ¬ s.size = 0) : s.toList.isEmpty = false := by rw [body_empty]; simpa using h
theorem nz_t {n : Nat} (h : n = 0) : ((n : Int) == 0) = true := by simpa using h
theorem nz_f {n : Nat} (h : ¬ n = 0) : ((n : Int) == 0) = false := by simpa using h
set_option maxRecDepth 100000 in
set_option maxHeartbeats 4000000 in
theorem noCmd_any (c : Cm.Cmd) (A : Option Addr) (cap : Nat) (w : World) : Calls Try.prog 53 #[.agg (cmdC c A cap)] w (RetTr (Cm.same c Cm.zero) w) := by
  have no : Cm.same c Cm.zero = true → c = Cm.zero := fun h => (Cm.same_iff _ _).1 h
  have yes : c.op = 0 → c.ses = 0 → c.seq = 0 → c.key.size = 0 → c.val.size = 0 → c.exp.size = 0 → c.frm.size = 0 → c.tto.size = 0 → c.lim = 0 → c.lease = 0 → c.ttl = 0 → c.parts.length = 0 → Cm.same c Cm.zero = true := fun a0 a1 a2 a3 a4 a5 a6 a7 a8 a9 a10 a11 => by
    refine (Cm.same_iff _ _).2 ?_
    obtain ⟨x0, x1, x2, x3, x4, x5, x6, x7, x8, x9, x10, x11⟩ := c
    simp only [Fr.size_e0, List.length_eq_zero_iff] at a0 a1 a2 a3 a4 a5 a6 a7 a8 a9 a10 a11
    subst a0 a1 a2 a3 a4 a5 a6 a7 a8 a9 a10 a11
    rfl
  have FX := cmdF c A cap
  generalize cmdC c A cap = X at FX ⊢
  obtain ⟨hx, _, x0, x1, x2, x3, x4, x5, x6, x7, x8, x9, x10, x11⟩ := FX
  by_cases h0 : c.op = 0
  case neg =>
    have d0 := nz_f h0
    have E : Hid (Cm.same c Cm.zero = false) := Lib.hid (Bool.eq_false_iff.2 fun h => h0 (by rw [no h]; rfl))
    clear h0 yes no
    go_enter Try.func53, Try.ntmps53
    go_wp2_with fail
    go_ret
    exact ⟨by rw [E.out]; rfl, bnew (Below.refl _ _) _⟩
  by_cases h1 : c.ses = 0
  case neg =>
    have d0 := nz_t h0
    have d1 := nz_f h1
    have E : Hid (Cm.same c Cm.zero = false) := Lib.hid (Bool.eq_false_iff.2 fun h => h1 (by rw [no h]; rfl))
    clear h0 h1 yes no
    go_enter Try.func53, Try.ntmps53
    go_wp2_with fail
    go_ret
    exact ⟨by rw [E.out]; rfl, bnew (Below.refl _ _) _⟩
  by_cases h2 : c.seq = 0
  case neg =>
    have d0 := nz_t h0
    have d1 := nz_t h1
    have d2 := nz_f h2
    have E : Hid (Cm.same c Cm.zero = false) := Lib.hid (Bool.eq_false_iff.2 fun h => h2 (by rw [no h]; rfl))
    clear h0 h1 h2 yes no
    go_enter Try.func53, Try.ntmps53
    go_wp2_with fail
    go_ret
    exact ⟨by rw [E.out]; rfl, bnew (Below.refl _ _) _⟩
  by_cases h3 : c.key.size = 0
  case neg =>
    have d0 := nz_t h0
    have d1 := nz_t h1
    have d2 := nz_t h2
    have d3 := emp_f h3
    have E : Hid (Cm.same c Cm.zero = false) := Lib.hid (Bool.eq_false_iff.2 fun h => h3 (by rw [no h]; rfl))
    clear h0 h1 h2 h3 yes no
    go_enter Try.func53, Try.ntmps53
    go_wp2_with fail
    go_ret
    exact ⟨by rw [E.out]; rfl, bnew (Below.refl _ _) _⟩
  by_cases h4 : c.val.size = 0
  case neg =>
    have d0 := nz_t h0
    have d1 := nz_t h1
    have d2 := nz_t h2
    have d3 := emp_t h3
    have d4 := emp_f h4
    have E : Hid (Cm.same c Cm.zero = false) := Lib.hid (Bool.eq_false_iff.2 fun h => h4 (by rw [no h]; rfl))
    clear h0 h1 h2 h3 h4 yes no
    go_enter Try.func53, Try.ntmps53
    go_wp2_with fail
    go_ret
    exact ⟨by rw [E.out]; rfl, bnew (Below.refl _ _) _⟩
  by_cases h5 : c.exp.size = 0
  case neg =>
    have d0 := nz_t h0
    have d1 := nz_t h1
    have d2 := nz_t h2
    have d3 := emp_t h3
    have d4 := emp_t h4
    have d5 := emp_f h5
    have E : Hid (Cm.same c Cm.zero = false) := Lib.hid (Bool.eq_false_iff.2 fun h => h5 (by rw [no h]; rfl))
    clear h0 h1 h2 h3 h4 h5 yes no
    go_enter Try.func53, Try.ntmps53
    go_wp2_with fail
    go_ret
    exact ⟨by rw [E.out]; rfl, bnew (Below.refl _ _) _⟩
  by_cases h6 : c.frm.size = 0
  case neg =>
    have d0 := nz_t h0
    have d1 := nz_t h1
    have d2 := nz_t h2
    have d3 := emp_t h3
    have d4 := emp_t h4
    have d5 := emp_t h5
    have d6 := emp_f h6
    have E : Hid (Cm.same c Cm.zero = false) := Lib.hid (Bool.eq_false_iff.2 fun h => h6 (by rw [no h]; rfl))
    clear h0 h1 h2 h3 h4 h5 h6 yes no
    go_enter Try.func53, Try.ntmps53
    go_wp2_with fail
    go_ret
    exact ⟨by rw [E.out]; rfl, bnew (Below.refl _ _) _⟩
  by_cases h7 : c.tto.size = 0
  case neg =>
    have d0 := nz_t h0
    have d1 := nz_t h1
    have d2 := nz_t h2
    have d3 := emp_t h3
    have d4 := emp_t h4
    have d5 := emp_t h5
    have d6 := emp_t h6
    have d7 := emp_f h7
    have E : Hid (Cm.same c Cm.zero = false) := Lib.hid (Bool.eq_false_iff.2 fun h => h7 (by rw [no h]; rfl))
    clear h0 h1 h2 h3 h4 h5 h6 h7 yes no
    go_enter Try.func53, Try.ntmps53
    go_wp2_with fail
    go_ret
    exact ⟨by rw [E.out]; rfl, bnew (Below.refl _ _) _⟩
  by_cases h8 : c.lim = 0
  case neg =>
    have d0 := nz_t h0
    have d1 := nz_t h1
    have d2 := nz_t h2
    have d3 := emp_t h3
    have d4 := emp_t h4
    have d5 := emp_t h5
    have d6 := emp_t h6
    have d7 := emp_t h7
    have d8 := nz_f h8
    have E : Hid (Cm.same c Cm.zero = false) := Lib.hid (Bool.eq_false_iff.2 fun h => h8 (by rw [no h]; rfl))
    clear h0 h1 h2 h3 h4 h5 h6 h7 h8 yes no
    go_enter Try.func53, Try.ntmps53
    go_wp2_with fail
    go_ret
    exact ⟨by rw [E.out]; rfl, bnew (Below.refl _ _) _⟩
  by_cases h9 : c.lease = 0
  case neg =>
    have d0 := nz_t h0
    have d1 := nz_t h1
    have d2 := nz_t h2
    have d3 := emp_t h3
    have d4 := emp_t h4
    have d5 := emp_t h5
    have d6 := emp_t h6
    have d7 := emp_t h7
    have d8 := nz_t h8
    have d9 := nz_f h9
    have E : Hid (Cm.same c Cm.zero = false) := Lib.hid (Bool.eq_false_iff.2 fun h => h9 (by rw [no h]; rfl))
    clear h0 h1 h2 h3 h4 h5 h6 h7 h8 h9 yes no
    go_enter Try.func53, Try.ntmps53
    go_wp2_with fail
    go_ret
    exact ⟨by rw [E.out]; rfl, bnew (Below.refl _ _) _⟩
  by_cases h10 : c.ttl = 0
  case neg =>
    have d0 := nz_t h0
    have d1 := nz_t h1
    have d2 := nz_t h2
    have d3 := emp_t h3
    have d4 := emp_t h4
    have d5 := emp_t h5
    have d6 := emp_t h6
    have d7 := emp_t h7
    have d8 := nz_t h8
    have d9 := nz_t h9
    have d10 := nz_f h10
    have E : Hid (Cm.same c Cm.zero = false) := Lib.hid (Bool.eq_false_iff.2 fun h => h10 (by rw [no h]; rfl))
    clear h0 h1 h2 h3 h4 h5 h6 h7 h8 h9 h10 yes no
    go_enter Try.func53, Try.ntmps53
    go_wp2_with fail
    go_ret
    exact ⟨by rw [E.out]; rfl, bnew (Below.refl _ _) _⟩
  by_cases h11 : c.parts.length = 0
  case neg =>
    have d0 := nz_t h0
    have d1 := nz_t h1
    have d2 := nz_t h2
    have d3 := emp_t h3
    have d4 := emp_t h4
    have d5 := emp_t h5
    have d6 := emp_t h6
    have d7 := emp_t h7
    have d8 := nz_t h8
    have d9 := nz_t h9
    have d10 := nz_t h10
    have d11 := nz_f h11
    have E : Hid (Cm.same c Cm.zero = false) := Lib.hid (Bool.eq_false_iff.2 fun h => h11 (by rw [no h]; rfl))
    clear h0 h1 h2 h3 h4 h5 h6 h7 h8 h9 h10 h11 yes no
    go_enter Try.func53, Try.ntmps53
    go_wp2_with fail
    go_ret
    exact ⟨by rw [E.out]; rfl, bnew (Below.refl _ _) _⟩
  have d0 := nz_t h0
  have d1 := nz_t h1
  have d2 := nz_t h2
  have d3 := emp_t h3
  have d4 := emp_t h4
  have d5 := emp_t h5
  have d6 := emp_t h6
  have d7 := emp_t h7
  have d8 := nz_t h8
  have d9 := nz_t h9
  have d10 := nz_t h10
  have d11 := nz_t h11
  have E : Hid (Cm.same c Cm.zero = true) := Lib.hid (yes h0 h1 h2 h3 h4 h5 h6 h7 h8 h9 h10 h11)
  clear h0 h1 h2 h3 h4 h5 h6 h7 h8 h9 h10 h11 yes no
  go_enter Try.func53, Try.ntmps53
  go_wp2_with fail
  go_ret
  exact ⟨by rw [E.out]; rfl, bnew (Below.refl _ _) _⟩
set_option maxRecDepth 100000 in
set_option maxHeartbeats 4000000 in
theorem noRes_any (r : Rs.Res) (A : Option Addr) (cap : Nat) (w : World) : Calls Try.prog 56 #[.agg (resC r A cap)] w (RetTr (Fr.noRes r) w) := by
  have no : Fr.noRes r = true → r = Rs.zero := fun h => (Fr.noRes_iff _).1 h
  have yes : r.code = 0 → r.n = 0 → r.val.size = 0 → r.rows.length = 0 → Fr.noRes r = true := fun a0 a1 a2 a3 => by unfold Fr.noRes; simp [a0, a1, a2, a3]
  have hx : (resC r A cap).size = 4 := rfl
  have x0 : ∀ h, (resC r A cap)[0]'h = .int .u8 (r.code : Int) := fun _ => rfl
  have x1 : ∀ h, (resC r A cap)[1]'h = .int .u64 (r.n : Int) := fun _ => rfl
  have x2 : ∀ h, (resC r A cap)[2]'h = .string r.val := fun _ => rfl
  have x3 : ∀ h, (resC r A cap)[3]'h = .slice A r.rows.length cap := fun _ => rfl
  generalize resC r A cap = X at hx x0 x1 x2 x3 ⊢
  by_cases h0 : r.code = 0
  case neg =>
    have d0 := nz_f h0
    have E : Hid (Fr.noRes r = false) := Lib.hid (Bool.eq_false_iff.2 fun h => h0 (by rw [no h]; rfl))
    clear h0 yes no
    go_enter Try.func56, Try.ntmps56
    go_wp2_with fail
    go_ret
    exact ⟨by rw [E.out]; rfl, bnew (Below.refl _ _) _⟩
  by_cases h1 : r.n = 0
  case neg =>
    have d0 := nz_t h0
    have d1 := nz_f h1
    have E : Hid (Fr.noRes r = false) := Lib.hid (Bool.eq_false_iff.2 fun h => h1 (by rw [no h]; rfl))
    clear h0 h1 yes no
    go_enter Try.func56, Try.ntmps56
    go_wp2_with fail
    go_ret
    exact ⟨by rw [E.out]; rfl, bnew (Below.refl _ _) _⟩
  by_cases h2 : r.val.size = 0
  case neg =>
    have d0 := nz_t h0
    have d1 := nz_t h1
    have d2 := emp_f h2
    have E : Hid (Fr.noRes r = false) := Lib.hid (Bool.eq_false_iff.2 fun h => h2 (by rw [no h]; rfl))
    clear h0 h1 h2 yes no
    go_enter Try.func56, Try.ntmps56
    go_wp2_with fail
    go_ret
    exact ⟨by rw [E.out]; rfl, bnew (Below.refl _ _) _⟩
  by_cases h3 : r.rows.length = 0
  case neg =>
    have d0 := nz_t h0
    have d1 := nz_t h1
    have d2 := emp_t h2
    have d3 := nz_f h3
    have E : Hid (Fr.noRes r = false) := Lib.hid (Bool.eq_false_iff.2 fun h => h3 (by rw [no h]; rfl))
    clear h0 h1 h2 h3 yes no
    go_enter Try.func56, Try.ntmps56
    go_wp2_with fail
    go_ret
    exact ⟨by rw [E.out]; rfl, bnew (Below.refl _ _) _⟩
  have d0 := nz_t h0
  have d1 := nz_t h1
  have d2 := emp_t h2
  have d3 := nz_t h3
  have E : Hid (Fr.noRes r = true) := Lib.hid (yes h0 h1 h2 h3)
  clear h0 h1 h2 h3 yes no
  go_enter Try.func56, Try.ntmps56
  go_wp2_with fail
  go_ret
  exact ⟨by rw [E.out]; rfl, bnew (Below.refl _ _) _⟩
end Go.Proofs.Ytlcgjlganmblpaa
namespace Go.Proofs.Ytlcgjlganmblpaa
open Go.RowKit
theorem kd_t {n m : Nat} (h : n = m) : ((n : Int) == (m : Int)) = true := by subst h; simp
theorem kd_f {n m : Nat} (h : ¬ n = m) : ((n : Int) == (m : Int)) = false := by simp; omega
set_option maxRecDepth 100000 in
set_option maxHeartbeats 4000000 in
theorem fright_any (r : Fr.R) (A : Option Addr) (cap : Nat) (w : World) : Calls Try.prog 27 #[.agg (rpC r A cap)] w (RetTr (Fr.right r) w) := by
  have hN := fun W => noRes_any r.res A cap W
  unfold RetTr resC at hN
  obtain ⟨nb, hnb⟩ : ∃ nb, nb = Fr.noRes r.res := ⟨_, rfl⟩
  have hr : Fr.right r = if r.kind = 1 then r.ses == 0 && (r.seq == 0 && (r.lead == 0 && nb)) else if r.kind = 2 ∨ r.kind = 4 ∨ r.kind = 5 then r.lead == 0 && nb else if r.kind = 3 then decide (r.lead ≤ 5) && nb else if r.kind = 6 then r.lead == 0 else false := by rw [hnb]; rfl
  rw [← hnb] at hN
  have HN := Lib.hid hN
  have F := rpF r A cap
  generalize rpC r A cap = X at F ⊢
  obtain ⟨hx, _, x0, x1, x2, x3, x4, x5, x6, x7⟩ := F
  clear hN hnb
  by_cases k1 : r.kind = 1
  case pos =>
    by_cases hses : r.ses = 0
    case neg =>
      have e1 : ((r.kind : Int) == 1) = true := kd_t k1
      have nses := nz_f hses
      have E : Hid (Fr.right r = false) := Lib.hid (by rw [hr]; simp [k1, hses])
      clear hr k1 hses
      go_enter Try.func27, Try.ntmps27
      go_wp2_with fail
      go_ret
      exact ⟨by rw [E.out]; rfl, bnew (Below.refl _ _) _⟩
    by_cases hseq : r.seq = 0
    case neg =>
      have e1 : ((r.kind : Int) == 1) = true := kd_t k1
      have nses := nz_t hses
      have nseq := nz_f hseq
      have E : Hid (Fr.right r = false) := Lib.hid (by rw [hr]; simp [k1, hses, hseq])
      clear hr k1 hses hseq
      go_enter Try.func27, Try.ntmps27
      go_wp2_with fail
      go_ret
      exact ⟨by rw [E.out]; rfl, bnew (Below.refl _ _) _⟩
    by_cases hlead : r.lead = 0
    case neg =>
      have e1 : ((r.kind : Int) == 1) = true := kd_t k1
      have nses := nz_t hses
      have nseq := nz_t hseq
      have nlead := nz_f hlead
      have E : Hid (Fr.right r = false) := Lib.hid (by rw [hr]; simp [k1, hses, hseq, hlead])
      clear hr k1 hses hseq hlead
      go_enter Try.func27, Try.ntmps27
      go_wp2_with fail
      go_ret
      exact ⟨by rw [E.out]; rfl, bnew (Below.refl _ _) _⟩
    have e1 : ((r.kind : Int) == 1) = true := kd_t k1
    have nses := nz_t hses
    have nseq := nz_t hseq
    have nlead := nz_t hlead
    have E : Hid (Fr.right r = nb) := Lib.hid (by rw [hr]; simp [k1, hses, hseq, hlead])
    clear hr k1 hses hseq hlead
    go_enter Try.func27, Try.ntmps27
    go_wp2_with fail
    refine (HN.out _).mono ?_
    rintro e w1 ⟨rfl, hb1⟩
    have HB1 := Lib.hid (bnext (bnew (Below.refl _ _) _) hb1)
    clear hb1
    go_wp2_with fail
    go_ret
    exact ⟨by rw [E.out]; rfl, HB1.out⟩
  by_cases k2 : r.kind = 2
  case pos =>
    by_cases hl : r.lead = 0
    case neg =>
      have e1 : ((r.kind : Int) == 1) = false := kd_f k1
      have e2 : ((r.kind : Int) == 2) = true := kd_t k2
      have nl := nz_f hl
      have E : Hid (Fr.right r = false) := Lib.hid (by rw [hr]; simp [k1, k2, hl])
      clear hr k1 k2 hl
      go_enter Try.func27, Try.ntmps27
      go_wp2_with fail
      go_ret
      exact ⟨by rw [E.out]; rfl, bnew (Below.refl _ _) _⟩
    have e1 : ((r.kind : Int) == 1) = false := kd_f k1
    have e2 : ((r.kind : Int) == 2) = true := kd_t k2
    have nl := nz_t hl
    have E : Hid (Fr.right r = nb) := Lib.hid (by rw [hr]; simp [k1, k2, hl])
    clear hr k1 k2 hl
    go_enter Try.func27, Try.ntmps27
    go_wp2_with fail
    refine (HN.out _).mono ?_
    rintro e w1 ⟨rfl, hb1⟩
    have HB1 := Lib.hid (bnext (bnew (Below.refl _ _) _) hb1)
    clear hb1
    go_wp2_with fail
    go_ret
    exact ⟨by rw [E.out]; rfl, HB1.out⟩
  by_cases k4 : r.kind = 4
  case pos =>
    by_cases hl : r.lead = 0
    case neg =>
      have e1 : ((r.kind : Int) == 1) = false := kd_f k1
      have e2 : ((r.kind : Int) == 2) = false := kd_f k2
      have e4 : ((r.kind : Int) == 4) = true := kd_t k4
      have nl := nz_f hl
      have E : Hid (Fr.right r = false) := Lib.hid (by rw [hr]; simp [k1, k2, k4, hl])
      clear hr k1 k2 k4 hl
      go_enter Try.func27, Try.ntmps27
      go_wp2_with fail
      go_ret
      exact ⟨by rw [E.out]; rfl, bnew (Below.refl _ _) _⟩
    have e1 : ((r.kind : Int) == 1) = false := kd_f k1
    have e2 : ((r.kind : Int) == 2) = false := kd_f k2
    have e4 : ((r.kind : Int) == 4) = true := kd_t k4
    have nl := nz_t hl
    have E : Hid (Fr.right r = nb) := Lib.hid (by rw [hr]; simp [k1, k2, k4, hl])
    clear hr k1 k2 k4 hl
    go_enter Try.func27, Try.ntmps27
    go_wp2_with fail
    refine (HN.out _).mono ?_
    rintro e w1 ⟨rfl, hb1⟩
    have HB1 := Lib.hid (bnext (bnew (Below.refl _ _) _) hb1)
    clear hb1
    go_wp2_with fail
    go_ret
    exact ⟨by rw [E.out]; rfl, HB1.out⟩
  by_cases k5 : r.kind = 5
  case pos =>
    by_cases hl : r.lead = 0
    case neg =>
      have e1 : ((r.kind : Int) == 1) = false := kd_f k1
      have e2 : ((r.kind : Int) == 2) = false := kd_f k2
      have e4 : ((r.kind : Int) == 4) = false := kd_f k4
      have e5 : ((r.kind : Int) == 5) = true := kd_t k5
      have nl := nz_f hl
      have E : Hid (Fr.right r = false) := Lib.hid (by rw [hr]; simp [k1, k2, k4, k5, hl])
      clear hr k1 k2 k4 k5 hl
      go_enter Try.func27, Try.ntmps27
      go_wp2_with fail
      go_ret
      exact ⟨by rw [E.out]; rfl, bnew (Below.refl _ _) _⟩
    have e1 : ((r.kind : Int) == 1) = false := kd_f k1
    have e2 : ((r.kind : Int) == 2) = false := kd_f k2
    have e4 : ((r.kind : Int) == 4) = false := kd_f k4
    have e5 : ((r.kind : Int) == 5) = true := kd_t k5
    have nl := nz_t hl
    have E : Hid (Fr.right r = nb) := Lib.hid (by rw [hr]; simp [k1, k2, k4, k5, hl])
    clear hr k1 k2 k4 k5 hl
    go_enter Try.func27, Try.ntmps27
    go_wp2_with fail
    refine (HN.out _).mono ?_
    rintro e w1 ⟨rfl, hb1⟩
    have HB1 := Lib.hid (bnext (bnew (Below.refl _ _) _) hb1)
    clear hb1
    go_wp2_with fail
    go_ret
    exact ⟨by rw [E.out]; rfl, HB1.out⟩
  by_cases k3 : r.kind = 3
  case pos =>
    by_cases hl : r.lead ≤ 5
    case neg =>
      have e1 : ((r.kind : Int) == 1) = false := kd_f k1
      have e2 : ((r.kind : Int) == 2) = false := kd_f k2
      have e4 : ((r.kind : Int) == 4) = false := kd_f k4
      have e5 : ((r.kind : Int) == 5) = false := kd_f k5
      have e3 : ((r.kind : Int) == 3) = true := kd_t k3
      have nl : decide (r.lead ≤ 5) = false := by simpa using hl
      have nl2 : ((r.lead : Int) ≤ 5) = False := by simp; omega
      have E : Hid (Fr.right r = false) := Lib.hid (by rw [hr]; simp [k1, k2, k4, k5, k3, hl])
      clear hr k1 k2 k4 k5 k3 hl
      go_enter Try.func27, Try.ntmps27
      go_wp2_with fail
      go_ret
      exact ⟨by rw [E.out]; rfl, bnew (Below.refl _ _) _⟩
    have e1 : ((r.kind : Int) == 1) = false := kd_f k1
    have e2 : ((r.kind : Int) == 2) = false := kd_f k2
    have e4 : ((r.kind : Int) == 4) = false := kd_f k4
    have e5 : ((r.kind : Int) == 5) = false := kd_f k5
    have e3 : ((r.kind : Int) == 3) = true := kd_t k3
    have nl : decide (r.lead ≤ 5) = true := by simpa using hl
    have nl2 : ((r.lead : Int) ≤ 5) = True := by simp; omega
    have E : Hid (Fr.right r = nb) := Lib.hid (by rw [hr]; simp [k1, k2, k4, k5, k3, hl])
    clear hr k1 k2 k4 k5 k3 hl
    go_enter Try.func27, Try.ntmps27
    go_wp2_with fail
    refine (HN.out _).mono ?_
    rintro e w1 ⟨rfl, hb1⟩
    have HB1 := Lib.hid (bnext (bnew (Below.refl _ _) _) hb1)
    clear hb1
    go_wp2_with fail
    go_ret
    exact ⟨by rw [E.out]; rfl, HB1.out⟩
  by_cases k6 : r.kind = 6
  case pos =>
    by_cases hl : r.lead = 0
    case neg =>
      have e1 : ((r.kind : Int) == 1) = false := kd_f k1
      have e2 : ((r.kind : Int) == 2) = false := kd_f k2
      have e4 : ((r.kind : Int) == 4) = false := kd_f k4
      have e5 : ((r.kind : Int) == 5) = false := kd_f k5
      have e3 : ((r.kind : Int) == 3) = false := kd_f k3
      have e6 : ((r.kind : Int) == 6) = true := kd_t k6
      have nl := nz_f hl
      have E : Hid (Fr.right r = false) := Lib.hid (by rw [hr]; simp [k1, k2, k4, k5, k3, k6, hl])
      clear hr k1 k2 k4 k5 k3 k6 hl
      go_enter Try.func27, Try.ntmps27
      go_wp2_with fail
      go_ret
      exact ⟨by rw [E.out]; rfl, bnew (Below.refl _ _) _⟩
    have e1 : ((r.kind : Int) == 1) = false := kd_f k1
    have e2 : ((r.kind : Int) == 2) = false := kd_f k2
    have e4 : ((r.kind : Int) == 4) = false := kd_f k4
    have e5 : ((r.kind : Int) == 5) = false := kd_f k5
    have e3 : ((r.kind : Int) == 3) = false := kd_f k3
    have e6 : ((r.kind : Int) == 6) = true := kd_t k6
    have nl := nz_t hl
    have E : Hid (Fr.right r = true) := Lib.hid (by rw [hr]; simp [k1, k2, k4, k5, k3, k6, hl])
    clear hr k1 k2 k4 k5 k3 k6 hl
    go_enter Try.func27, Try.ntmps27
    go_wp2_with fail
    go_ret
    exact ⟨by rw [E.out]; rfl, bnew (Below.refl _ _) _⟩
  have e1 : ((r.kind : Int) == 1) = false := kd_f k1
  have e2 : ((r.kind : Int) == 2) = false := kd_f k2
  have e4 : ((r.kind : Int) == 4) = false := kd_f k4
  have e5 : ((r.kind : Int) == 5) = false := kd_f k5
  have e3 : ((r.kind : Int) == 3) = false := kd_f k3
  have e6 : ((r.kind : Int) == 6) = false := kd_f k6
  have E : Hid (Fr.right r = false) := Lib.hid (by rw [hr]; simp [k1, k2, k4, k5, k3, k6])
  clear hr k1 k2 k4 k5 k3 k6
  go_enter Try.func27, Try.ntmps27
  go_wp2_with fail
  go_ret
  exact ⟨by rw [E.out]; rfl, bnew (Below.refl _ _) _⟩
end Go.Proofs.Ytlcgjlganmblpaa
namespace Go.Proofs.Ytlcgjlganmblpaa
open Go.RowKit
theorem operZ : operC Og.Oper.zero = #[.int .u8 0, .int .u8 0, .int .u8 0, .int .u8 0, .int .u8 0, .int .u8 0, .int .u8 0, .int .u8 0, .int .u8 0, .int .u8 0, .int .u8 0, .int .i64 0, .int .i64 0, .int .i64 0, .int .i64 0, .int .u8 0] := rfl
set_option maxRecDepth 100000 in
set_option maxHeartbeats 4000000 in
theorem fcmd_any (f : Fr.F) (hf : Fr.Fits f) (hz : Short f.cmd) (A : Option Addr) (cap : Nat) (w : World) (hA : Lies w A (pc f.cmd.parts)) : Calls Try.prog 25 #[.agg (frC f A cap)] w (RetS (Fr.cw f) w) := by
  have hW : ∀ W, Below w.heap.size w W → _ := fun W hb => cmdWrite_any f.cmd hf.cmd hz A cap W (hA.below hb)
  have hO := fun W => owrite_any f.op hf.op W (Wk.oper_ne f.op hf.op)
  rw [show Wk.oout f.op = Fr.ow f.op from Wk.oout_eq f.op hf.op] at hO
  have hN := fun W => noCmd_any f.cmd A cap W
  have heq := oper_eql f.op Og.Oper.zero
  rw [operZ] at heq
  unfold cmdC at hW hN
  unfold operC at hO heq
  unfold RetS at hW hO ⊢
  unfold RetTr at hN
  have HW := Lib.hid hW
  have HO := Lib.hid hO
  have HN := Lib.hid hN
  have X0 := frF f A cap
  generalize frC f A cap = X at X0 ⊢
  obtain ⟨hx, _, x0, x1, x2, x3, x4, x5, x6, x7, x8, x9, x10, x11, x12, x13, x14, x15, x16, x17, x18, x19, x20, x21, x22, x23, x24, x25, x26, x27, x28, x29, x30, x31, x32, x33, x34, x35, x36⟩ := X0
  have hb0 : Below w.heap.size w (w.alloc (.cells X 32)) := bnew (Below.refl _ _) _
  have HB0 := Lib.hid hb0
  clear hb0 hW hO hN hA hz
  by_cases k1 : f.kind = 1
  case pos =>
    have e1 : ((f.kind : Int) == 1) = true := kd_t k1
    by_cases hz : f.op = Og.Oper.zero
    case neg =>
      have E : Hid (Fr.cw f = []) := Lib.hid (by unfold Fr.cw; rw [if_pos k1, if_neg hz])
      rw [decide_eq_false hz] at heq
      clear k1 hz hf
      go_enter Try.func25, Try.ntmps25
      go_wp2_with fail
      go_ret
      exact ⟨by rw [E.out]; rfl, HB0.out⟩
    have E : Hid (Fr.cw f = Cm.write f.cmd) := Lib.hid (by unfold Fr.cw; rw [if_pos k1, if_pos hz])
    rw [decide_eq_true hz] at heq
    clear k1 hz hf
    go_enter Try.func25, Try.ntmps25
    go_wp2_with fail
    refine (HW.out _ HB0.out).mono ?_
    rintro e w1 ⟨rfl, hb1⟩
    have HB1 := Lib.hid (bnext HB0.out hb1)
    clear hb1
    go_wp2_with fail
    go_ret
    exact ⟨by rw [E.out]; rfl, HB1.out⟩
  have e1 : ((f.kind : Int) == 1) = false := kd_f k1
  by_cases k2 : f.kind = 2
  case pos =>
    have e2 : ((f.kind : Int) == 2) = true := kd_t k2
    rcases hs : Cm.same f.cmd Cm.zero with _ | _
    · have E : Hid (Fr.cw f = []) := Lib.hid (by unfold Fr.cw; rw [if_neg k1, if_pos k2, hs]; rfl)
      rw [hs] at HN
      clear k1 k2 hf hs heq
      go_enter Try.func25, Try.ntmps25
      go_wp2_with fail
      refine (HN.out _).mono ?_
      rintro e w1 ⟨rfl, hb1⟩
      have HB1 := Lib.hid (bnext HB0.out hb1)
      clear hb1
      go_wp2_with fail
      go_ret
      exact ⟨by rw [E.out]; rfl, HB1.out⟩
    · have E : Hid (Fr.cw f = Fr.ow f.op) := Lib.hid (by unfold Fr.cw; rw [if_neg k1, if_pos k2, hs, if_pos rfl])
      rw [hs] at HN
      clear k1 k2 hf hs heq
      go_enter Try.func25, Try.ntmps25
      go_wp2_with fail
      refine (HN.out _).mono ?_
      rintro e w1 ⟨rfl, hb1⟩
      have HB1 := Lib.hid (bnext HB0.out hb1)
      have hrow : w1.heap[w.heap.size]? = some (.cells X 32 (0, 0)) := (hb1.block _ (by simp)).trans (heap_alloc_new w _)
      clear hb1
      have c21 := cell_of_row w1 w.heap.size 21 X _ _ hrow
      rw [Array.getElem?_eq_getElem (by omega), x21] at c21
      have c22 := cell_of_row w1 w.heap.size 22 X _ _ hrow
      rw [Array.getElem?_eq_getElem (by omega), x22] at c22
      have c23 := cell_of_row w1 w.heap.size 23 X _ _ hrow
      rw [Array.getElem?_eq_getElem (by omega), x23] at c23
      have c24 := cell_of_row w1 w.heap.size 24 X _ _ hrow
      rw [Array.getElem?_eq_getElem (by omega), x24] at c24
      have c25 := cell_of_row w1 w.heap.size 25 X _ _ hrow
      rw [Array.getElem?_eq_getElem (by omega), x25] at c25
      have c26 := cell_of_row w1 w.heap.size 26 X _ _ hrow
      rw [Array.getElem?_eq_getElem (by omega), x26] at c26
      have c27 := cell_of_row w1 w.heap.size 27 X _ _ hrow
      rw [Array.getElem?_eq_getElem (by omega), x27] at c27
      have c28 := cell_of_row w1 w.heap.size 28 X _ _ hrow
      rw [Array.getElem?_eq_getElem (by omega), x28] at c28
      have c29 := cell_of_row w1 w.heap.size 29 X _ _ hrow
      rw [Array.getElem?_eq_getElem (by omega), x29] at c29
      have c30 := cell_of_row w1 w.heap.size 30 X _ _ hrow
      rw [Array.getElem?_eq_getElem (by omega), x30] at c30
      have c31 := cell_of_row w1 w.heap.size 31 X _ _ hrow
      rw [Array.getElem?_eq_getElem (by omega), x31] at c31
      have c32 := cell_of_row w1 w.heap.size 32 X _ _ hrow
      rw [Array.getElem?_eq_getElem (by omega), x32] at c32
      have c33 := cell_of_row w1 w.heap.size 33 X _ _ hrow
      rw [Array.getElem?_eq_getElem (by omega), x33] at c33
      have c34 := cell_of_row w1 w.heap.size 34 X _ _ hrow
      rw [Array.getElem?_eq_getElem (by omega), x34] at c34
      have c35 := cell_of_row w1 w.heap.size 35 X _ _ hrow
      rw [Array.getElem?_eq_getElem (by omega), x35] at c35
      have c36 := cell_of_row w1 w.heap.size 36 X _ _ hrow
      rw [Array.getElem?_eq_getElem (by omega), x36] at c36
      go_wp2_with fail
      refine (HO.out _).mono ?_
      rintro e w2 ⟨rfl, hb2⟩
      have HB2 := Lib.hid (bnext HB1.out hb2)
      clear hb2
      go_wp2_with fail
      go_ret
      exact ⟨by rw [E.out]; rfl, HB2.out⟩
  have e2 : ((f.kind : Int) == 2) = false := kd_f k2
  have E : Hid (Fr.cw f = []) := Lib.hid (by unfold Fr.cw; rw [if_neg k1, if_neg k2])
  clear k1 k2 hf heq
  go_enter Try.func25, Try.ntmps25
  go_wp2_with fail
  go_ret
  exact ⟨by rw [E.out]; rfl, HB0.out⟩
end Go.Proofs.Ytlcgjlganmblpaa
namespace Go.Proofs.Ytlcgjlganmblpaa
open Go.RowKit
set_option linter.unusedVariables false
theorem two_rows (w : World) (X Y : Array Value) (T : TypeId) : Below w.heap.size w ((w.alloc (.cells X T)).alloc (.cells Y T)) ∧ ((w.alloc (.cells X T)).alloc (.cells Y T)).heap[w.heap.size]? = some (.cells X T (0, 0)) ∧ ((w.alloc (.cells X T)).alloc (.cells Y T)).heap[w.heap.size + 1]? = some (.cells Y T (0, 0)) := by
  refine ⟨bnew (bnew (Below.refl _ _) _) _, (Below.heap_alloc _ _ _ (by simp)).trans (heap_alloc_new w _), ?_⟩
  have := heap_alloc_new (w.alloc (.cells X T)) (.cells Y T)
  rw [World.size_alloc] at this
  exact this
theorem kk_t {n m : Nat} (h : n = m) : ((n : Int) == (m : Int)) = true := by subst h; simp
theorem kk_f {n m : Nat} (h : ¬ n = m) : ((n : Int) == (m : Int)) = false := by simp; omega
set_option maxRecDepth 100000 in
set_option maxHeartbeats 4000000 in
theorem fsame_any (a b : Fr.F) (A B : Option Addr) (ca cb : Nat) (w : World) (hA : Lies w A (pc a.cmd.parts)) (hB : Lies w B (pc b.cmd.parts)) (hn : a.cmd.parts.length ≤ 1000000) :
    Calls Try.prog 22 #[.agg (frC a A ca), .agg (frC b B cb)] w (RetTr (Fr.same a b) w) := by
  have hS := fun W (hb : Below w.heap.size w W) => same_any a.cmd b.cmd A B ca cb W (hA.below hb) (hB.below hb) hn
  have HS := Lib.hid hS
  have ht := tok_eql a.tok b.tok
  have ho := oper_eql a.op b.op
  have hE : Fr.same a b = (a.kind == b.kind && (decide (a.tok = b.tok) && (decide (a.op = b.op) && Cm.same a.cmd b.cmd))) := rfl
  obtain ⟨X, hX⟩ : ∃ X, X = frC a A ca := ⟨_, rfl⟩
  obtain ⟨Y, hY⟩ : ∃ X, X = frC b B cb := ⟨_, rfl⟩
  rw [← hX, ← hY]
  have HX := Lib.hid hX
  have HY := Lib.hid hY
  clear hX hY hS hA hB hn
  by_cases k0 : a.kind = b.kind
  case neg =>
    have e0 := kk_f k0
    have E : Hid (Fr.same a b = false) := Lib.hid (by rw [hE]; simp [k0])
    clear hE k0
    go_enter Try.func22, Try.ntmps22
    go_upto_region 1 with (fail)
    refine forget (fun W => Below w.heap.size w W ∧ W.heap[w.heap.size]? = some (.cells X 32 (0, 0)) ∧ W.heap[w.heap.size + 1]? = some (.cells Y 32 (0, 0))) (two_rows w X Y 32) ?_
    rintro W1 ⟨hb1, hx1, hy1⟩
    rw [HX.out] at hx1
    rw [HY.out] at hy1
    obtain ⟨g, hg⟩ : ∃ g, g = w.heap.size := ⟨_, rfl⟩
    rw [← hg] at hx1 hy1 ⊢
    have HM := Lib.hid (And.intro hb1 (And.intro hx1 hy1))
    have a0 := (frAt hx1).c0
    have b0 := (frAt hy1).c0
    clear hb1 hx1 hy1 hg
    go_wp2_with fail
    go_ret
    exact ⟨by rw [E.out]; rfl, HM.out.1⟩
  have e0 := kk_t k0
  by_cases k1 : a.tok = b.tok
  case neg =>
    rw [decide_eq_false k1] at ht
    have E : Hid (Fr.same a b = false) := Lib.hid (by rw [hE]; simp [k0, k1])
    clear hE k0 k1
    go_enter Try.func22, Try.ntmps22
    go_upto_region 1 with (fail)
    refine forget (fun W => Below w.heap.size w W ∧ W.heap[w.heap.size]? = some (.cells X 32 (0, 0)) ∧ W.heap[w.heap.size + 1]? = some (.cells Y 32 (0, 0))) (two_rows w X Y 32) ?_
    rintro W1 ⟨hb1, hx1, hy1⟩
    rw [HX.out] at hx1
    rw [HY.out] at hy1
    obtain ⟨g, hg⟩ : ∃ g, g = w.heap.size := ⟨_, rfl⟩
    rw [← hg] at hx1 hy1 ⊢
    have HM := Lib.hid (And.intro hb1 (And.intro hx1 hy1))
    have a0 := (frAt hx1).c0
    have b0 := (frAt hy1).c0
    clear hb1 hx1 hy1 hg
    go_wp2_with (first | (refine wpList_load_sub rfl 23 _ rfl g 1 rfl 32 (frC a A ca) (tk8 a.tok) (0, 0) _ ?_ (subTok _ _ _) Try.underlying23 rfl (sizeTk8 _) ?_; exact HM.out.2.1) | (refine wpList_load_sub rfl 23 _ rfl (g + 1) 1 rfl 32 (frC b B cb) (tk8 b.tok) (0, 0) _ ?_ (subTok _ _ _) Try.underlying23 rfl (sizeTk8 _) ?_; exact HM.out.2.2) | (refine wpList_load_sub rfl 26 _ rfl g 21 rfl 32 (frC a A ca) (operC a.op) (0, 0) _ ?_ (subOp _ _ _) Try.underlying26 rfl (sizeOpC _) ?_; exact HM.out.2.1) | (refine wpList_load_sub rfl 26 _ rfl (g + 1) 21 rfl 32 (frC b B cb) (operC b.op) (0, 0) _ ?_ (subOp _ _ _) Try.underlying26 rfl (sizeOpC _) ?_; exact HM.out.2.2) | (refine wpList_load_sub rfl 30 _ rfl g 9 rfl 32 (frC a A ca) (cmdC a.cmd A ca) (0, 0) _ ?_ (subCmd _ _ _) Try.underlying30 rfl (sizeCmdC _ _ _) ?_; exact HM.out.2.1) | (refine wpList_load_sub rfl 30 _ rfl (g + 1) 9 rfl 32 (frC b B cb) (cmdC b.cmd B cb) (0, 0) _ ?_ (subCmd _ _ _) Try.underlying30 rfl (sizeCmdC _ _ _) ?_; exact HM.out.2.2))
    go_ret
    exact ⟨by rw [E.out]; rfl, HM.out.1⟩
  rw [decide_eq_true k1] at ht
  by_cases k2 : a.op = b.op
  case neg =>
    rw [decide_eq_false k2] at ho
    have E : Hid (Fr.same a b = false) := Lib.hid (by rw [hE]; simp [k0, k1, k2])
    clear hE k0 k1 k2
    go_enter Try.func22, Try.ntmps22
    go_upto_region 1 with (fail)
    refine forget (fun W => Below w.heap.size w W ∧ W.heap[w.heap.size]? = some (.cells X 32 (0, 0)) ∧ W.heap[w.heap.size + 1]? = some (.cells Y 32 (0, 0))) (two_rows w X Y 32) ?_
    rintro W1 ⟨hb1, hx1, hy1⟩
    rw [HX.out] at hx1
    rw [HY.out] at hy1
    obtain ⟨g, hg⟩ : ∃ g, g = w.heap.size := ⟨_, rfl⟩
    rw [← hg] at hx1 hy1 ⊢
    have HM := Lib.hid (And.intro hb1 (And.intro hx1 hy1))
    have a0 := (frAt hx1).c0
    have b0 := (frAt hy1).c0
    clear hb1 hx1 hy1 hg
    go_wp2_with (first | (refine wpList_load_sub rfl 23 _ rfl g 1 rfl 32 (frC a A ca) (tk8 a.tok) (0, 0) _ ?_ (subTok _ _ _) Try.underlying23 rfl (sizeTk8 _) ?_; exact HM.out.2.1) | (refine wpList_load_sub rfl 23 _ rfl (g + 1) 1 rfl 32 (frC b B cb) (tk8 b.tok) (0, 0) _ ?_ (subTok _ _ _) Try.underlying23 rfl (sizeTk8 _) ?_; exact HM.out.2.2) | (refine wpList_load_sub rfl 26 _ rfl g 21 rfl 32 (frC a A ca) (operC a.op) (0, 0) _ ?_ (subOp _ _ _) Try.underlying26 rfl (sizeOpC _) ?_; exact HM.out.2.1) | (refine wpList_load_sub rfl 26 _ rfl (g + 1) 21 rfl 32 (frC b B cb) (operC b.op) (0, 0) _ ?_ (subOp _ _ _) Try.underlying26 rfl (sizeOpC _) ?_; exact HM.out.2.2) | (refine wpList_load_sub rfl 30 _ rfl g 9 rfl 32 (frC a A ca) (cmdC a.cmd A ca) (0, 0) _ ?_ (subCmd _ _ _) Try.underlying30 rfl (sizeCmdC _ _ _) ?_; exact HM.out.2.1) | (refine wpList_load_sub rfl 30 _ rfl (g + 1) 9 rfl 32 (frC b B cb) (cmdC b.cmd B cb) (0, 0) _ ?_ (subCmd _ _ _) Try.underlying30 rfl (sizeCmdC _ _ _) ?_; exact HM.out.2.2))
    go_ret
    exact ⟨by rw [E.out]; rfl, HM.out.1⟩
  rw [decide_eq_true k2] at ho
  have E : Hid (Fr.same a b = Cm.same a.cmd b.cmd) := Lib.hid (by rw [hE]; simp [k0, k1, k2])
  clear hE k0 k1 k2
  go_enter Try.func22, Try.ntmps22
  go_upto_region 1 with (fail)
  refine forget (fun W => Below w.heap.size w W ∧ W.heap[w.heap.size]? = some (.cells X 32 (0, 0)) ∧ W.heap[w.heap.size + 1]? = some (.cells Y 32 (0, 0))) (two_rows w X Y 32) ?_
  rintro W1 ⟨hb1, hx1, hy1⟩
  rw [HX.out] at hx1
  rw [HY.out] at hy1
  obtain ⟨g, hg⟩ : ∃ g, g = w.heap.size := ⟨_, rfl⟩
  rw [← hg] at hx1 hy1 ⊢
  have HM := Lib.hid (And.intro hb1 (And.intro hx1 hy1))
  have a0 := (frAt hx1).c0
  have b0 := (frAt hy1).c0
  clear hb1 hx1 hy1 hg
  go_wp2_with (first | (refine wpList_load_sub rfl 23 _ rfl g 1 rfl 32 (frC a A ca) (tk8 a.tok) (0, 0) _ ?_ (subTok _ _ _) Try.underlying23 rfl (sizeTk8 _) ?_; exact HM.out.2.1) | (refine wpList_load_sub rfl 23 _ rfl (g + 1) 1 rfl 32 (frC b B cb) (tk8 b.tok) (0, 0) _ ?_ (subTok _ _ _) Try.underlying23 rfl (sizeTk8 _) ?_; exact HM.out.2.2) | (refine wpList_load_sub rfl 26 _ rfl g 21 rfl 32 (frC a A ca) (operC a.op) (0, 0) _ ?_ (subOp _ _ _) Try.underlying26 rfl (sizeOpC _) ?_; exact HM.out.2.1) | (refine wpList_load_sub rfl 26 _ rfl (g + 1) 21 rfl 32 (frC b B cb) (operC b.op) (0, 0) _ ?_ (subOp _ _ _) Try.underlying26 rfl (sizeOpC _) ?_; exact HM.out.2.2) | (refine wpList_load_sub rfl 30 _ rfl g 9 rfl 32 (frC a A ca) (cmdC a.cmd A ca) (0, 0) _ ?_ (subCmd _ _ _) Try.underlying30 rfl (sizeCmdC _ _ _) ?_; exact HM.out.2.1) | (refine wpList_load_sub rfl 30 _ rfl (g + 1) 9 rfl 32 (frC b B cb) (cmdC b.cmd B cb) (0, 0) _ ?_ (subCmd _ _ _) Try.underlying30 rfl (sizeCmdC _ _ _) ?_; exact HM.out.2.2))
  refine (HS.out _ HM.out.1).mono ?_
  rintro e w2 ⟨rfl, hb2⟩
  have HB := Lib.hid (bnext HM.out.1 hb2)
  clear hb2
  go_wp2_with fail
  go_ret
  exact ⟨by rw [E.out]; rfl, HB.out⟩
set_option maxRecDepth 100000 in
set_option maxHeartbeats 4000000 in
theorem rpsame_any (a b : Fr.R) (A B : Option Addr) (ca cb : Nat) (w : World) (hA : Lies w A (rc a.res.rows)) (hB : Lies w B (rc b.res.rows)) (hn : a.res.rows.length ≤ 1000000) :
    Calls Try.prog 23 #[.agg (rpC a A ca), .agg (rpC b B cb)] w (RetTr (Fr.rsame a b) w) := by
  have hS := fun W (hb : Below w.heap.size w W) => sameResult_any a.res b.res A B ca cb W (hA.below hb) (hB.below hb) hn
  unfold resC at hS
  have HS := Lib.hid hS
  have hE : Fr.rsame a b = (a.kind == b.kind && (a.ses == b.ses && (a.seq == b.seq && (a.lead == b.lead && Rs.same a.res b.res)))) := rfl
  obtain ⟨X, hX⟩ : ∃ X, X = rpC a A ca := ⟨_, rfl⟩
  obtain ⟨Y, hY⟩ : ∃ X, X = rpC b B cb := ⟨_, rfl⟩
  rw [← hX, ← hY]
  have HX := Lib.hid hX
  have HY := Lib.hid hY
  clear hX hY hS hA hB hn
  by_cases k0 : a.kind = b.kind
  case neg =>
    have e0 := kk_f k0
    have E : Hid (Fr.rsame a b = false) := Lib.hid (by rw [hE]; simp [k0])
    clear hE k0
    go_enter Try.func23, Try.ntmps23
    go_upto_region 1 with (fail)
    refine forget (fun W => Below w.heap.size w W ∧ W.heap[w.heap.size]? = some (.cells X 39 (0, 0)) ∧ W.heap[w.heap.size + 1]? = some (.cells Y 39 (0, 0))) (two_rows w X Y 39) ?_
    rintro W1 ⟨hb1, hx1, hy1⟩
    rw [HX.out] at hx1
    rw [HY.out] at hy1
    obtain ⟨g, hg⟩ : ∃ g, g = w.heap.size := ⟨_, rfl⟩
    rw [← hg] at hx1 hy1 ⊢
    have HM := Lib.hid (And.intro hb1 (And.intro hx1 hy1))
    have a0 := (rpAt hx1).c0
    have b0 := (rpAt hy1).c0
    have a1 := (rpAt hx1).c1
    have b1 := (rpAt hy1).c1
    have a2 := (rpAt hx1).c2
    have b2 := (rpAt hy1).c2
    have a3 := (rpAt hx1).c3
    have b3 := (rpAt hy1).c3
    have a4 := (rpAt hx1).c4
    have b4 := (rpAt hy1).c4
    have a5 := (rpAt hx1).c5
    have b5 := (rpAt hy1).c5
    have a6 := (rpAt hx1).c6
    have b6 := (rpAt hy1).c6
    have a7 := (rpAt hx1).c7
    have b7 := (rpAt hy1).c7
    clear hb1 hx1 hy1 hg
    go_wp2_with fail
    go_ret
    exact ⟨by rw [E.out]; rfl, HM.out.1⟩
  have e0 := kk_t k0
  by_cases k1 : a.ses = b.ses
  case neg =>
    have e1 := kk_f k1
    have E : Hid (Fr.rsame a b = false) := Lib.hid (by rw [hE]; simp [k0, k1])
    clear hE k0 k1
    go_enter Try.func23, Try.ntmps23
    go_upto_region 1 with (fail)
    refine forget (fun W => Below w.heap.size w W ∧ W.heap[w.heap.size]? = some (.cells X 39 (0, 0)) ∧ W.heap[w.heap.size + 1]? = some (.cells Y 39 (0, 0))) (two_rows w X Y 39) ?_
    rintro W1 ⟨hb1, hx1, hy1⟩
    rw [HX.out] at hx1
    rw [HY.out] at hy1
    obtain ⟨g, hg⟩ : ∃ g, g = w.heap.size := ⟨_, rfl⟩
    rw [← hg] at hx1 hy1 ⊢
    have HM := Lib.hid (And.intro hb1 (And.intro hx1 hy1))
    have a0 := (rpAt hx1).c0
    have b0 := (rpAt hy1).c0
    have a1 := (rpAt hx1).c1
    have b1 := (rpAt hy1).c1
    have a2 := (rpAt hx1).c2
    have b2 := (rpAt hy1).c2
    have a3 := (rpAt hx1).c3
    have b3 := (rpAt hy1).c3
    have a4 := (rpAt hx1).c4
    have b4 := (rpAt hy1).c4
    have a5 := (rpAt hx1).c5
    have b5 := (rpAt hy1).c5
    have a6 := (rpAt hx1).c6
    have b6 := (rpAt hy1).c6
    have a7 := (rpAt hx1).c7
    have b7 := (rpAt hy1).c7
    clear hb1 hx1 hy1 hg
    go_wp2_with fail
    go_ret
    exact ⟨by rw [E.out]; rfl, HM.out.1⟩
  have e1 := kk_t k1
  by_cases k2 : a.seq = b.seq
  case neg =>
    have e2 := kk_f k2
    have E : Hid (Fr.rsame a b = false) := Lib.hid (by rw [hE]; simp [k0, k1, k2])
    clear hE k0 k1 k2
    go_enter Try.func23, Try.ntmps23
    go_upto_region 1 with (fail)
    refine forget (fun W => Below w.heap.size w W ∧ W.heap[w.heap.size]? = some (.cells X 39 (0, 0)) ∧ W.heap[w.heap.size + 1]? = some (.cells Y 39 (0, 0))) (two_rows w X Y 39) ?_
    rintro W1 ⟨hb1, hx1, hy1⟩
    rw [HX.out] at hx1
    rw [HY.out] at hy1
    obtain ⟨g, hg⟩ : ∃ g, g = w.heap.size := ⟨_, rfl⟩
    rw [← hg] at hx1 hy1 ⊢
    have HM := Lib.hid (And.intro hb1 (And.intro hx1 hy1))
    have a0 := (rpAt hx1).c0
    have b0 := (rpAt hy1).c0
    have a1 := (rpAt hx1).c1
    have b1 := (rpAt hy1).c1
    have a2 := (rpAt hx1).c2
    have b2 := (rpAt hy1).c2
    have a3 := (rpAt hx1).c3
    have b3 := (rpAt hy1).c3
    have a4 := (rpAt hx1).c4
    have b4 := (rpAt hy1).c4
    have a5 := (rpAt hx1).c5
    have b5 := (rpAt hy1).c5
    have a6 := (rpAt hx1).c6
    have b6 := (rpAt hy1).c6
    have a7 := (rpAt hx1).c7
    have b7 := (rpAt hy1).c7
    clear hb1 hx1 hy1 hg
    go_wp2_with fail
    go_ret
    exact ⟨by rw [E.out]; rfl, HM.out.1⟩
  have e2 := kk_t k2
  by_cases k3 : a.lead = b.lead
  case neg =>
    have e3 := kk_f k3
    have E : Hid (Fr.rsame a b = false) := Lib.hid (by rw [hE]; simp [k0, k1, k2, k3])
    clear hE k0 k1 k2 k3
    go_enter Try.func23, Try.ntmps23
    go_upto_region 1 with (fail)
    refine forget (fun W => Below w.heap.size w W ∧ W.heap[w.heap.size]? = some (.cells X 39 (0, 0)) ∧ W.heap[w.heap.size + 1]? = some (.cells Y 39 (0, 0))) (two_rows w X Y 39) ?_
    rintro W1 ⟨hb1, hx1, hy1⟩
    rw [HX.out] at hx1
    rw [HY.out] at hy1
    obtain ⟨g, hg⟩ : ∃ g, g = w.heap.size := ⟨_, rfl⟩
    rw [← hg] at hx1 hy1 ⊢
    have HM := Lib.hid (And.intro hb1 (And.intro hx1 hy1))
    have a0 := (rpAt hx1).c0
    have b0 := (rpAt hy1).c0
    have a1 := (rpAt hx1).c1
    have b1 := (rpAt hy1).c1
    have a2 := (rpAt hx1).c2
    have b2 := (rpAt hy1).c2
    have a3 := (rpAt hx1).c3
    have b3 := (rpAt hy1).c3
    have a4 := (rpAt hx1).c4
    have b4 := (rpAt hy1).c4
    have a5 := (rpAt hx1).c5
    have b5 := (rpAt hy1).c5
    have a6 := (rpAt hx1).c6
    have b6 := (rpAt hy1).c6
    have a7 := (rpAt hx1).c7
    have b7 := (rpAt hy1).c7
    clear hb1 hx1 hy1 hg
    go_wp2_with fail
    go_ret
    exact ⟨by rw [E.out]; rfl, HM.out.1⟩
  have e3 := kk_t k3
  have E : Hid (Fr.rsame a b = Rs.same a.res b.res) := Lib.hid (by rw [hE]; simp [k0, k1, k2, k3])
  clear hE k0 k1 k2 k3
  go_enter Try.func23, Try.ntmps23
  go_upto_region 1 with (fail)
  refine forget (fun W => Below w.heap.size w W ∧ W.heap[w.heap.size]? = some (.cells X 39 (0, 0)) ∧ W.heap[w.heap.size + 1]? = some (.cells Y 39 (0, 0))) (two_rows w X Y 39) ?_
  rintro W1 ⟨hb1, hx1, hy1⟩
  rw [HX.out] at hx1
  rw [HY.out] at hy1
  obtain ⟨g, hg⟩ : ∃ g, g = w.heap.size := ⟨_, rfl⟩
  rw [← hg] at hx1 hy1 ⊢
  have HM := Lib.hid (And.intro hb1 (And.intro hx1 hy1))
  have a0 := (rpAt hx1).c0
  have b0 := (rpAt hy1).c0
  have a1 := (rpAt hx1).c1
  have b1 := (rpAt hy1).c1
  have a2 := (rpAt hx1).c2
  have b2 := (rpAt hy1).c2
  have a3 := (rpAt hx1).c3
  have b3 := (rpAt hy1).c3
  have a4 := (rpAt hx1).c4
  have b4 := (rpAt hy1).c4
  have a5 := (rpAt hx1).c5
  have b5 := (rpAt hy1).c5
  have a6 := (rpAt hx1).c6
  have b6 := (rpAt hy1).c6
  have a7 := (rpAt hx1).c7
  have b7 := (rpAt hy1).c7
  clear hb1 hx1 hy1 hg
  go_wp2_with fail
  refine (HS.out _ HM.out.1).mono ?_
  rintro e w2 ⟨rfl, hb2⟩
  have HB := Lib.hid (bnext HM.out.1 hb2)
  clear hb2
  go_wp2_with fail
  go_ret
  exact ⟨by rw [E.out]; rfl, HB.out⟩
end Go.Proofs.Ytlcgjlganmblpaa
