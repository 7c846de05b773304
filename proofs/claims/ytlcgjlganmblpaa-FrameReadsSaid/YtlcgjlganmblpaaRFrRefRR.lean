/-
  wapentakeref06.ReadReply walked. WRITTEN BY wip/tools/gen_frrefrr.py.
-/
import Derived.Test.YtlcgjlganmblpaaRFrRd
import Derived.Test.YtlcgjlganmblpaaRFrRefRd
import Derived.Test.YtlcgjlganmblpaaRFrB
import Derived.Test.YtlcgjlganmblpaaRRsRd
set_option linter.unusedSimpArgs false
set_option linter.unusedVariables false
namespace Go.Proofs.Ytlcgjlganmblpaa
open Go.RowKit
set_option linter.unusedVariables false
theorem extL (s : ByteArray) (k : Nat) : (s.extract k s.size).data.toList = s.data.toList.drop k := by rw [extD]
theorem nil_iff (x : ByteArray) : x.data.toList = [] ↔ x.size = 0 := by rw [Lib.size_eq, List.length_eq_zero_iff]
theorem layRes0 (c d : Rs.Res) (A B : Option Addr) (cap cb : Nat) : lay (resC c A cap) 0 (resC d B cb).toList = resC d B cb := by simp [lay, resC]
theorem rpSet12 (c a b : Nat) : ((rpC ⟨c, 0, 0, 0, Rs.zero⟩ none 0).setIfInBounds 1 (.int .u64 (a : Int))).setIfInBounds 2 (.int .u64 (b : Int)) = rpC ⟨c, a, b, 0, Rs.zero⟩ none 0 := rfl
theorem rpSet3 (c a b d : Nat) : (rpC ⟨c, a, b, 0, Rs.zero⟩ none 0).setIfInBounds 3 (.int .u8 (d : Int)) = rpC ⟨c, a, b, d, Rs.zero⟩ none 0 := rfl
namespace Fr
open Cm (rdB)
theorem rread_out {l l1 : List UInt8} {c : Nat} (h : rdB l = some (c, l1)) (h1 : c < 1 ∨ 6 < c) : rread l = none := by
  unfold rread rparse; rw [h, Option.bind_some]
  simp only []
  rw [if_neg (by omega), if_neg (by omega)]; rfl
theorem rread_0 {l : List UInt8} (h : rdB l = none) : rread l = none := by
  unfold rread rparse; rw [h]; rfl
end Fr
set_option maxRecDepth 100000 in
set_option maxHeartbeats 8000000 in
theorem rfr_0 (s : ByteArray) (w : World) (hs : s.size ≤ 10000000) (h0 : s.size = 0) : Calls Try.prog 21 #[.string s] w (RetRp (Fr.rread s.data.toList) w) := by
  have E := Lib.hid (Fr.rread_0 (rdB0 s h0))
  have dz : ((s.size : Int) == 0) = true := nz_t h0
  have dz2 : (s.size : Int) = 0 := by omega
  clear h0 dz2
  go_enter Try.func21, Try.ntmps21
  go_upto_region 2 with (fail)
  have hrow := heap_alloc_new w (.cells (rpC Fr.R.zero none 0) 39)
  have HB : Hid (Below w.heap.size w (w.alloc (.cells (rpC Fr.R.zero none 0) 39))) := Lib.hid (bnew (Below.refl _ _) _)
  refine forget (fun W => Below w.heap.size w W ∧ W.heap[w.heap.size]? = some (.cells (rpC Fr.R.zero none 0) 39 (0, 0))) ⟨HB.out, hrow⟩ ?_
  clear hrow HB
  rintro W1 ⟨hb1, hr1⟩
  have HR := Lib.hid (And.intro hb1 hr1)
  clear hb1 hr1
  go_wp2_with (refine wpList_store_sub rfl 39 _ _ rfl w.heap.size 0 rfl 39 _ (rpC Fr.R.zero none 0) rfl HR.out.2 (Nat.le_refl 8) (sizeRpC _ _ _) (rpC_one _ _ _) ?_)
  have hres := results_ct (P := Try.prog) (fn := Try.f21) rfl
  refine bodyPost_ret (hres _ _ w.heap.size 39 (rpC Fr.R.zero none 0) (0, 0) _ rfl ((row_setCells _ 0 _ _ HR.out.2).trans (by rw [layRp])) Try.underlying39 rfl sizeRp) rfl ⟨none, 0, by rw [E.out]; rfl, by rw [E.out]; exact .inl rfl, setCells_below (Nat.le_refl _) _ _ _ HR.out.1⟩
set_option maxRecDepth 100000 in
set_option maxHeartbeats 8000000 in
theorem rfr_out (s : ByteArray) (w : World) (hs : s.size ≤ 10000000) (hp : 0 < s.size) (hk : s[0].toNat < 1 ∨ 6 < s[0].toNat) : Calls Try.prog 21 #[.string s] w (RetRp (Fr.rread s.data.toList) w) := by
  have E := Lib.hid (Fr.rread_out (rdBx s hp) hk)
  have dz : ((s.size : Int) == 0) = false := nz_f (by omega)
  have d4 : (0 : Int) < (s.size : Int) := by omega
  have d5 := hp
  by_cases h1 : s[0].toNat < 1
  case pos =>
    have d1 : decide ((s[0].toNat : Int) < 1) = true := by simp; omega
    have d1' : ((s[0].toNat : Int) < 1) = True := by simp; omega
    have d1'' : decide (s[0].toNat < 1) = true := by simp; omega
    clear hk h1
    go_enter Try.func21, Try.ntmps21
    go_upto_region 2 with (fail)
    have hrow := heap_alloc_new w (.cells (rpC Fr.R.zero none 0) 39)
    have HB : Hid (Below w.heap.size w (w.alloc (.cells (rpC Fr.R.zero none 0) 39))) := Lib.hid (bnew (Below.refl _ _) _)
    refine forget (fun W => Below w.heap.size w W ∧ W.heap[w.heap.size]? = some (.cells (rpC Fr.R.zero none 0) 39 (0, 0))) ⟨HB.out, hrow⟩ ?_
    clear hrow HB
    rintro W1 ⟨hb1, hr1⟩
    have HR := Lib.hid (And.intro hb1 hr1)
    clear hb1 hr1
    go_wp2_with (refine wpList_store_sub rfl 39 _ _ rfl w.heap.size 0 rfl 39 _ (rpC Fr.R.zero none 0) rfl HR.out.2 (Nat.le_refl 8) (sizeRpC _ _ _) (rpC_one _ _ _) ?_)
    have hres := results_ct (P := Try.prog) (fn := Try.f21) rfl
    refine bodyPost_ret (hres _ _ w.heap.size 39 (rpC Fr.R.zero none 0) (0, 0) _ rfl ((row_setCells _ 0 _ _ HR.out.2).trans (by rw [layRp])) Try.underlying39 rfl sizeRp) rfl ⟨none, 0, by rw [E.out]; rfl, by rw [E.out]; exact .inl rfl, setCells_below (Nat.le_refl _) _ _ _ HR.out.1⟩
  have d1 : decide ((s[0].toNat : Int) < 1) = false := by simp; omega
  have d1' : ((s[0].toNat : Int) < 1) = False := by simp; omega
  have d1'' : decide (s[0].toNat < 1) = false := by simp; omega
  have d6 : decide ((6 : Int) < (s[0].toNat : Int)) = true := by simp; omega
  have d6' : ((6 : Int) < (s[0].toNat : Int)) = True := by simp; omega
  have d6'' : decide (6 < s[0].toNat) = true := by simp; omega
  clear hk h1
  go_enter Try.func21, Try.ntmps21
  go_upto_region 2 with (fail)
  have hrow := heap_alloc_new w (.cells (rpC Fr.R.zero none 0) 39)
  have HB : Hid (Below w.heap.size w (w.alloc (.cells (rpC Fr.R.zero none 0) 39))) := Lib.hid (bnew (Below.refl _ _) _)
  refine forget (fun W => Below w.heap.size w W ∧ W.heap[w.heap.size]? = some (.cells (rpC Fr.R.zero none 0) 39 (0, 0))) ⟨HB.out, hrow⟩ ?_
  clear hrow HB
  rintro W1 ⟨hb1, hr1⟩
  have HR := Lib.hid (And.intro hb1 hr1)
  clear hb1 hr1
  go_wp2_with (refine wpList_store_sub rfl 39 _ _ rfl w.heap.size 0 rfl 39 _ (rpC Fr.R.zero none 0) rfl HR.out.2 (Nat.le_refl 8) (sizeRpC _ _ _) (rpC_one _ _ _) ?_)
  have hres := results_ct (P := Try.prog) (fn := Try.f21) rfl
  refine bodyPost_ret (hres _ _ w.heap.size 39 (rpC Fr.R.zero none 0) (0, 0) _ rfl ((row_setCells _ 0 _ _ HR.out.2).trans (by rw [layRp])) Try.underlying39 rfl sizeRp) rfl ⟨none, 0, by rw [E.out]; rfl, by rw [E.out]; exact .inl rfl, setCells_below (Nat.le_refl _) _ _ _ HR.out.1⟩
set_option maxRecDepth 100000 in
set_option maxHeartbeats 8000000 in
theorem rfr_1 (s : ByteArray) (w : World) (hs : s.size ≤ 10000000) (hp : 0 < s.size) (hk : s[0].toNat = 1) : Calls Try.prog 21 #[.string s] w (RetRp (Fr.rread s.data.toList) w) := by
  have dz : ((s.size : Int) == 0) = false := nz_f (by omega)
  have d4 : (0 : Int) < (s.size : Int) := by omega
  have d5 := hp
  have p1 : (1 : Int) ≤ (s.size : Int) := by omega
  have d1 : decide ((s[0].toNat : Int) < 1) = false := by simp; omega
  have d1' : ((s[0].toNat : Int) < 1) = False := by simp; omega
  have d1'' : decide (s[0].toNat < 1) = false := by simp; omega
  have d6 : decide ((6 : Int) < (s[0].toNat : Int)) = false := by simp; omega
  have d6' : ((6 : Int) < (s[0].toNat : Int)) = False := by simp; omega
  have d6'' : decide (6 < s[0].toNat) = false := by simp; omega
  have hb := rdBx s hp
  obtain ⟨y, hy⟩ : ∃ y, y = s.extract 1 s.size := ⟨_, rfl⟩
  have zy : y.size ≤ 10000000 := by rw [hy, ByteArray.size_extract]; omega
  have hys : y.size = s.size - 1 := by rw [hy, ByteArray.size_extract]; omega
  rw [← hy] at hb
  obtain ⟨c, hc⟩ : ∃ c : Nat, c = s[0].toNat := ⟨_, rfl⟩
  rw [← hc] at hb
  have Hc := Lib.hid hc
  have hc1 : c = 1 := by omega
  have e1 : ((c : Int) == 1) = true := kd_t hc1
  rw [hc1] at hb
  have hE := Fr.rread_1 hb
  have hn := nil_iff y
  clear hk hc hb hy zy hp
  by_cases h1 : s.size = 1
  case pos =>
    have E : Hid (Fr.rread s.data.toList = some ⟨c, 0, 0, 0, Rs.zero⟩) := Lib.hid (by rw [hE, if_pos (hn.2 (by omega)), hc1])
    have g1 : decide ((1 : Int) < (s.size : Int)) = false := by simp; omega
    have g1' : ((1 : Int) < (s.size : Int)) = False := by simp; omega
    have g1'' : decide (1 < s.size) = false := by simp; omega
    clear hE hn hys h1 hc1
    go_enter Try.func21, Try.ntmps21
    go_upto_region 3 with (fail)
    refine forget (fun W => Below w.heap.size w W ∧ W.heap[w.heap.size]? = some (.cells (rpC Fr.R.zero none 0) 39 (0, 0))) ⟨bnew (Below.refl _ _) _, heap_alloc_new w _⟩ ?_
    rintro V9 ⟨hb9, hr9⟩
    have HV9 := Lib.hid (And.intro hb9 (And.intro hr9 (Array.getElem?_eq_some_iff.1 hr9).1))
    clear hb9 hr9
    go_upto_region 4 with (refine wpList_store_sub rfl 39 _ _ rfl V9.heap.size 0 rfl 39 (rpC Fr.R.zero none 0) (rpC ⟨s[0].toNat, 0, 0, 0, Rs.zero⟩ none 0) rfl ?_ (Nat.le_refl 8) (sizeRpC _ _ _) (rpC_one _ _ _) ?_; exact heap_alloc_new V9 _)
    refine forget (fun W => St2 w W w.heap.size V9.heap.size 39 (rpC Fr.R.zero none 0) (rpC ⟨c, 0, 0, 0, Rs.zero⟩ none 0)) (by
      obtain ⟨q1, q2, q3⟩ := HV9.out
      have S9 : St2 w (V9.alloc (.cells (rpC Fr.R.zero none 0) 39)) w.heap.size V9.heap.size 39 (rpC Fr.R.zero none 0) (rpC Fr.R.zero none 0) := ⟨bnew q1 _, Nat.le_refl _, q1.size, Nat.ne_of_lt q3, (Below.heap_alloc _ _ _ q3).trans q2, heap_alloc_new V9 _⟩
      rw [Hc.out]
      exact (S9.setX 0 (rpC ⟨s[0].toNat, 0, 0, 0, Rs.zero⟩ none 0).toList).to rfl (layRp _ _ _ _ _ _)) ?_
    obtain ⟨q, hq⟩ : ∃ q, q = w.heap.size := ⟨_, rfl⟩
    obtain ⟨g, hg⟩ : ∃ g, g = V9.heap.size := ⟨_, rfl⟩
    rw [← hg, ← hq]
    clear hg hq HV9 V9
    intro V0 S0
    have HS0 := Lib.hid S0
    clear S0
    have c0 := (rpAt HS0.out.x).c0
    go_wp2_with (first | ((refine wpList_load_sub rfl 39 _ rfl g 0 rfl 39 _ (rpC ⟨c, 0, 0, 0, Rs.zero⟩ none 0) (0, 0) _ ?_ (subAll _) Try.underlying39 rfl (sizeRpC _ _ _) ?_; exact HS0.out.x)) | ((refine wpList_store_sub rfl 39 _ _ rfl q 0 rfl 39 (rpC Fr.R.zero none 0) (rpC ⟨c, 0, 0, 0, Rs.zero⟩ none 0) rfl ?_ (Nat.le_refl 8) (sizeRpC _ _ _) (rpC_one _ _ _) ?_; exact HS0.out.z)))
    have hres := results_ct (P := Try.prog) (fn := Try.f21) rfl
    refine bodyPost_ret (hres _ _ q 39 (rpC ⟨c, 0, 0, 0, Rs.zero⟩ none 0) (0, 0) _ rfl ((HS0.out.setZ 0 (rpC ⟨c, 0, 0, 0, Rs.zero⟩ none 0).toList).to (layRp _ _ _ _ _ _) rfl).z Try.underlying39 rfl sizeRp) rfl ⟨_, _, by rw [E.out]; rfl, by rw [E.out]; exact .inl rfl, (HS0.out.setZ 0 _).b⟩
  have E : Hid (Fr.rread s.data.toList = none) := Lib.hid (by rw [hE, if_neg (fun h => by have := hn.1 h; omega)])
  have g1 : decide ((1 : Int) < (s.size : Int)) = true := by simp; omega
  have g1' : ((1 : Int) < (s.size : Int)) = True := by simp; omega
  have g1'' : decide (1 < s.size) = true := by simp; omega
  clear hE hn hys h1 hc1
  go_enter Try.func21, Try.ntmps21
  go_upto_region 3 with (fail)
  refine forget (fun W => Below w.heap.size w W ∧ W.heap[w.heap.size]? = some (.cells (rpC Fr.R.zero none 0) 39 (0, 0))) ⟨bnew (Below.refl _ _) _, heap_alloc_new w _⟩ ?_
  rintro V9 ⟨hb9, hr9⟩
  have HV9 := Lib.hid (And.intro hb9 (And.intro hr9 (Array.getElem?_eq_some_iff.1 hr9).1))
  clear hb9 hr9
  go_upto_region 4 with (refine wpList_store_sub rfl 39 _ _ rfl V9.heap.size 0 rfl 39 (rpC Fr.R.zero none 0) (rpC ⟨s[0].toNat, 0, 0, 0, Rs.zero⟩ none 0) rfl ?_ (Nat.le_refl 8) (sizeRpC _ _ _) (rpC_one _ _ _) ?_; exact heap_alloc_new V9 _)
  refine forget (fun W => St2 w W w.heap.size V9.heap.size 39 (rpC Fr.R.zero none 0) (rpC ⟨c, 0, 0, 0, Rs.zero⟩ none 0)) (by
    obtain ⟨q1, q2, q3⟩ := HV9.out
    have S9 : St2 w (V9.alloc (.cells (rpC Fr.R.zero none 0) 39)) w.heap.size V9.heap.size 39 (rpC Fr.R.zero none 0) (rpC Fr.R.zero none 0) := ⟨bnew q1 _, Nat.le_refl _, q1.size, Nat.ne_of_lt q3, (Below.heap_alloc _ _ _ q3).trans q2, heap_alloc_new V9 _⟩
    rw [Hc.out]
    exact (S9.setX 0 (rpC ⟨s[0].toNat, 0, 0, 0, Rs.zero⟩ none 0).toList).to rfl (layRp _ _ _ _ _ _)) ?_
  obtain ⟨q, hq⟩ : ∃ q, q = w.heap.size := ⟨_, rfl⟩
  obtain ⟨g, hg⟩ : ∃ g, g = V9.heap.size := ⟨_, rfl⟩
  rw [← hg, ← hq]
  clear hg hq HV9 V9
  intro V0 S0
  have HS0 := Lib.hid S0
  clear S0
  have c0 := (rpAt HS0.out.x).c0
  go_wp2_with ((refine wpList_store_sub rfl 39 _ _ rfl q 0 rfl 39 (rpC Fr.R.zero none 0) (rpC Fr.R.zero none 0) rfl ?_ (Nat.le_refl 8) (sizeRpC _ _ _) (rpC_one _ _ _) ?_; exact HS0.out.z))
  have hres := results_ct (P := Try.prog) (fn := Try.f21) rfl
  refine bodyPost_ret (hres _ _ q 39 (rpC Fr.R.zero none 0) (0, 0) _ rfl ((HS0.out.setZ 0 (rpC Fr.R.zero none 0).toList).to (layRp _ _ _ _ _ _) rfl).z Try.underlying39 rfl sizeRp) rfl ⟨none, 0, by rw [E.out]; rfl, by rw [E.out]; exact .inl rfl, (HS0.out.setZ 0 _).b⟩
set_option maxRecDepth 100000 in
set_option maxHeartbeats 8000000 in
theorem rfr_n (s : ByteArray) (w : World) (hs : s.size ≤ 10000000) (hp : 0 < s.size) (hk1 : s[0].toNat ≠ 1) (hlo : 1 ≤ s[0].toNat) (hhi : s[0].toNat ≤ 6) : Calls Try.prog 21 #[.string s] w (RetRp (Fr.rread s.data.toList) w) := by
  have dz : ((s.size : Int) == 0) = false := nz_f (by omega)
  have d4 : (0 : Int) < (s.size : Int) := by omega
  have d5 := hp
  have p1 : (1 : Int) ≤ (s.size : Int) := by omega
  have d1 : decide ((s[0].toNat : Int) < 1) = false := by simp; omega
  have d1' : ((s[0].toNat : Int) < 1) = False := by simp; omega
  have d1'' : decide (s[0].toNat < 1) = false := by simp; omega
  have d6 : decide ((6 : Int) < (s[0].toNat : Int)) = false := by simp; omega
  have d6' : ((6 : Int) < (s[0].toNat : Int)) = False := by simp; omega
  have d6'' : decide (6 < s[0].toNat) = false := by simp; omega
  have hb := rdBx s hp
  obtain ⟨y, hy⟩ : ∃ y, y = s.extract 1 s.size := ⟨_, rfl⟩
  have zy : y.size ≤ 10000000 := by rw [hy, ByteArray.size_extract]; omega
  have hys : y.size = s.size - 1 := by rw [hy, ByteArray.size_extract]; omega
  rw [← hy] at hb
  obtain ⟨c, hc⟩ : ∃ c : Nat, c = s[0].toNat := ⟨_, rfl⟩
  rw [← hc] at hb
  have Hc := Lib.hid hc
  have hk : c ≠ 1 := by omega
  have hc2 : 2 ≤ c ∧ c ≤ 6 := by omega
  have e1 : ((c : Int) == 1) = false := kd_f (m := 1) hk
  have HV1 := Lib.hid (fun W => refReadV_any y W (by omega))
  have hq0 : Fr.rq y.data.toList = (Cm.rdV y.data.toList).bind fun (s, l) => (Cm.rdV l).bind fun (q, l) => some ((s, q), l) := rfl
  rw [rdVx] at hq0
  have Hy := Lib.hid hy
  clear hk1 hlo hhi hc hp
  rcases hv : Nm.readV y.data.toList with _ | ⟨a, k1⟩
  · have E : Hid (Fr.rread s.data.toList = none) := Lib.hid (Fr.rread_no hb hk (by rw [hq0, hv]; rfl))
    have Hv := Lib.hid hv
    clear hq0 hv hb hk hy hys zy hc2
    go_enter Try.func21, Try.ntmps21
    go_upto_region 3 with (fail)
    refine forget (fun W => Below w.heap.size w W ∧ W.heap[w.heap.size]? = some (.cells (rpC Fr.R.zero none 0) 39 (0, 0))) ⟨bnew (Below.refl _ _) _, heap_alloc_new w _⟩ ?_
    rintro V9 ⟨hb9, hr9⟩
    have HV9 := Lib.hid (And.intro hb9 (And.intro hr9 (Array.getElem?_eq_some_iff.1 hr9).1))
    clear hb9 hr9
    go_upto_region 4 with (refine wpList_store_sub rfl 39 _ _ rfl V9.heap.size 0 rfl 39 (rpC Fr.R.zero none 0) (rpC ⟨s[0].toNat, 0, 0, 0, Rs.zero⟩ none 0) rfl ?_ (Nat.le_refl 8) (sizeRpC _ _ _) (rpC_one _ _ _) ?_; exact heap_alloc_new V9 _)
    refine forget (fun W => St2 w W w.heap.size V9.heap.size 39 (rpC Fr.R.zero none 0) (rpC ⟨c, 0, 0, 0, Rs.zero⟩ none 0)) (by
      obtain ⟨q1, q2, q3⟩ := HV9.out
      have S9 : St2 w (V9.alloc (.cells (rpC Fr.R.zero none 0) 39)) w.heap.size V9.heap.size 39 (rpC Fr.R.zero none 0) (rpC Fr.R.zero none 0) := ⟨bnew q1 _, Nat.le_refl _, q1.size, Nat.ne_of_lt q3, (Below.heap_alloc _ _ _ q3).trans q2, heap_alloc_new V9 _⟩
      rw [Hc.out]
      exact (S9.setX 0 (rpC ⟨s[0].toNat, 0, 0, 0, Rs.zero⟩ none 0).toList).to rfl (layRp _ _ _ _ _ _)) ?_
    obtain ⟨q, hq⟩ : ∃ q, q = w.heap.size := ⟨_, rfl⟩
    obtain ⟨g, hg⟩ : ∃ g, g = V9.heap.size := ⟨_, rfl⟩
    rw [← hg, ← hq]
    clear hg hq HV9 V9
    intro V0 S0
    have HS0 := Lib.hid S0
    clear S0
    have c0 := (rpAt HS0.out.x).c0
    go_wp2_with fail
    rw [← Hy.out]
    refine (HV1.out _).mono ?_
    rw [Hv.out, rv]
    rintro e w1 ⟨rfl, hb1⟩
    have HS1 := Lib.hid (HS0.out.grow hb1)
    clear hb1 c0 HS0
    go_wp2_with ((refine wpList_store_sub rfl 39 _ _ rfl q 0 rfl 39 (rpC Fr.R.zero none 0) (rpC Fr.R.zero none 0) rfl ?_ (Nat.le_refl 8) (sizeRpC _ _ _) (rpC_one _ _ _) ?_; exact HS1.out.z))
    have hres := results_ct (P := Try.prog) (fn := Try.f21) rfl
    refine bodyPost_ret (hres _ _ q 39 (rpC Fr.R.zero none 0) (0, 0) _ rfl ((HS1.out.setZ 0 (rpC Fr.R.zero none 0).toList).to (layRp _ _ _ _ _ _) rfl).z Try.underlying39 rfl sizeRp) rfl ⟨none, 0, by rw [E.out]; rfl, by rw [E.out]; exact .inl rfl, (HS1.out.setZ 0 _).b⟩
  obtain ⟨_, hk11, hk12, _⟩ := Nm.readV_le hv
  rw [← Lib.size_eq] at hk12
  rw [hv] at hq0
  simp only [Option.bind_some] at hq0
  obtain ⟨z, hz⟩ : ∃ z, z = s.extract (1 + k1) s.size := ⟨_, rfl⟩
  have hzl : (y.extract k1 y.size).data.toList = z.data.toList := by rw [extL, hy, extL, hz, extL, List.drop_drop]
  have hzs : z.size = s.size - (1 + k1) := by rw [hz, ByteArray.size_extract]; omega
  rw [hzl, rdVx] at hq0
  have Hz := Lib.hid hz
  have HV2 := Lib.hid (fun W => refReadV_any z W (by omega))
  have q1 : (0 : Int) ≤ 1 + (k1 : Int) := by omega
  have q2 : 1 + (k1 : Int) ≤ (s.size : Int) := by omega
  have Hv := Lib.hid hv
  clear hv hzl
  rcases hv : Nm.readV z.data.toList with _ | ⟨b, k2⟩
  · have E : Hid (Fr.rread s.data.toList = none) := Lib.hid (Fr.rread_no hb hk (by rw [hq0, hv]; rfl))
    have Hv2 := Lib.hid hv
    clear hq0 hv hb hk hy hys zy hc2 hz hzs hk11 hk12
    go_enter Try.func21, Try.ntmps21
    go_upto_region 3 with (fail)
    refine forget (fun W => Below w.heap.size w W ∧ W.heap[w.heap.size]? = some (.cells (rpC Fr.R.zero none 0) 39 (0, 0))) ⟨bnew (Below.refl _ _) _, heap_alloc_new w _⟩ ?_
    rintro V9 ⟨hb9, hr9⟩
    have HV9 := Lib.hid (And.intro hb9 (And.intro hr9 (Array.getElem?_eq_some_iff.1 hr9).1))
    clear hb9 hr9
    go_upto_region 4 with (refine wpList_store_sub rfl 39 _ _ rfl V9.heap.size 0 rfl 39 (rpC Fr.R.zero none 0) (rpC ⟨s[0].toNat, 0, 0, 0, Rs.zero⟩ none 0) rfl ?_ (Nat.le_refl 8) (sizeRpC _ _ _) (rpC_one _ _ _) ?_; exact heap_alloc_new V9 _)
    refine forget (fun W => St2 w W w.heap.size V9.heap.size 39 (rpC Fr.R.zero none 0) (rpC ⟨c, 0, 0, 0, Rs.zero⟩ none 0)) (by
      obtain ⟨q1, q2, q3⟩ := HV9.out
      have S9 : St2 w (V9.alloc (.cells (rpC Fr.R.zero none 0) 39)) w.heap.size V9.heap.size 39 (rpC Fr.R.zero none 0) (rpC Fr.R.zero none 0) := ⟨bnew q1 _, Nat.le_refl _, q1.size, Nat.ne_of_lt q3, (Below.heap_alloc _ _ _ q3).trans q2, heap_alloc_new V9 _⟩
      rw [Hc.out]
      exact (S9.setX 0 (rpC ⟨s[0].toNat, 0, 0, 0, Rs.zero⟩ none 0).toList).to rfl (layRp _ _ _ _ _ _)) ?_
    obtain ⟨q, hq⟩ : ∃ q, q = w.heap.size := ⟨_, rfl⟩
    obtain ⟨g, hg⟩ : ∃ g, g = V9.heap.size := ⟨_, rfl⟩
    rw [← hg, ← hq]
    clear hg hq HV9 V9
    intro V0 S0
    have HS0 := Lib.hid S0
    clear S0
    have c0 := (rpAt HS0.out.x).c0
    go_wp2_with fail
    rw [← Hy.out]
    refine (HV1.out _).mono ?_
    rw [Hv.out, rv]
    rintro e w1 ⟨rfl, hb1⟩
    have HS1 := Lib.hid (HS0.out.grow hb1)
    clear hb1 c0 HS0
    go_wp2_with fail
    rw [← Hz.out]
    refine (HV2.out _).mono ?_
    rw [Hv2.out, rv]
    rintro e w2 ⟨rfl, hb2⟩
    have HS2 := Lib.hid (HS1.out.grow hb2)
    clear hb2 HS1
    go_wp2_with ((refine wpList_store_sub rfl 39 _ _ rfl q 0 rfl 39 (rpC Fr.R.zero none 0) (rpC Fr.R.zero none 0) rfl ?_ (Nat.le_refl 8) (sizeRpC _ _ _) (rpC_one _ _ _) ?_; exact HS2.out.z))
    have hres := results_ct (P := Try.prog) (fn := Try.f21) rfl
    refine bodyPost_ret (hres _ _ q 39 (rpC Fr.R.zero none 0) (0, 0) _ rfl ((HS2.out.setZ 0 (rpC Fr.R.zero none 0).toList).to (layRp _ _ _ _ _ _) rfl).z Try.underlying39 rfl sizeRp) rfl ⟨none, 0, by rw [E.out]; rfl, by rw [E.out]; exact .inl rfl, (HS2.out.setZ 0 _).b⟩
  obtain ⟨_, hk21, hk22, _⟩ := Nm.readV_le hv
  rw [← Lib.size_eq] at hk22
  rw [hv] at hq0
  simp only [Option.bind_some] at hq0
  obtain ⟨u, hu⟩ : ∃ u, u = s.extract (1 + k1 + k2) s.size := ⟨_, rfl⟩
  have hul : (z.extract k2 z.size).data.toList = u.data.toList := by rw [extL, hz, extL, hu, extL, List.drop_drop]
  have hus : u.size ≤ 10000000 := by rw [hu, ByteArray.size_extract]; omega
  rw [hul] at hq0
  have hE := Fr.rread_k hb hk hq0
  have HE := Lib.hid hE
  have Hu := Lib.hid hu
  have HUs := Lib.hid hus
  have q3 : (0 : Int) ≤ 1 + (k1 : Int) + (k2 : Int) := by omega
  have q4 : 1 + (k1 : Int) + (k2 : Int) ≤ (s.size : Int) := by omega
  have Hv2 := Lib.hid hv
  have HC2 := Lib.hid hc2
  clear hv hul hu hus hE hq0 hb hk hy hys zy hc2 hz hzs hk11 hk12 hk21 hk22
  go_enter Try.func21, Try.ntmps21
  go_upto_region 3 with (fail)
  refine forget (fun W => Below w.heap.size w W ∧ W.heap[w.heap.size]? = some (.cells (rpC Fr.R.zero none 0) 39 (0, 0))) ⟨bnew (Below.refl _ _) _, heap_alloc_new w _⟩ ?_
  rintro V9 ⟨hb9, hr9⟩
  have HV9 := Lib.hid (And.intro hb9 (And.intro hr9 (Array.getElem?_eq_some_iff.1 hr9).1))
  clear hb9 hr9
  go_upto_region 4 with (refine wpList_store_sub rfl 39 _ _ rfl V9.heap.size 0 rfl 39 (rpC Fr.R.zero none 0) (rpC ⟨s[0].toNat, 0, 0, 0, Rs.zero⟩ none 0) rfl ?_ (Nat.le_refl 8) (sizeRpC _ _ _) (rpC_one _ _ _) ?_; exact heap_alloc_new V9 _)
  refine forget (fun W => St2 w W w.heap.size V9.heap.size 39 (rpC Fr.R.zero none 0) (rpC ⟨c, 0, 0, 0, Rs.zero⟩ none 0)) (by
    obtain ⟨q1, q2, q3⟩ := HV9.out
    have S9 : St2 w (V9.alloc (.cells (rpC Fr.R.zero none 0) 39)) w.heap.size V9.heap.size 39 (rpC Fr.R.zero none 0) (rpC Fr.R.zero none 0) := ⟨bnew q1 _, Nat.le_refl _, q1.size, Nat.ne_of_lt q3, (Below.heap_alloc _ _ _ q3).trans q2, heap_alloc_new V9 _⟩
    rw [Hc.out]
    exact (S9.setX 0 (rpC ⟨s[0].toNat, 0, 0, 0, Rs.zero⟩ none 0).toList).to rfl (layRp _ _ _ _ _ _)) ?_
  obtain ⟨q, hq⟩ : ∃ q, q = w.heap.size := ⟨_, rfl⟩
  obtain ⟨g, hg⟩ : ∃ g, g = V9.heap.size := ⟨_, rfl⟩
  rw [← hg, ← hq]
  clear hg hq HV9 V9
  intro V0 S0
  have HS0 := Lib.hid S0
  clear S0
  have c0 := (rpAt HS0.out.x).c0
  go_wp2_with fail
  rw [← Hy.out]
  refine (HV1.out _).mono ?_
  rw [Hv.out, rv]
  rintro e w1 ⟨rfl, hb1⟩
  have HS1 := Lib.hid (HS0.out.grow hb1)
  clear hb1 c0 HS0
  go_wp2_with fail
  rw [← Hz.out]
  refine (HV2.out _).mono ?_
  rw [Hv2.out, rv]
  rintro e w2 ⟨rfl, hb2⟩
  have HS2 := Lib.hid (HS1.out.grow hb2)
  clear hb2 HS1
  have ca := rpAt HS2.out.x
  have c0 := ca.c0
  have c1 := ca.c1
  have c2 := ca.c2
  have f1 := ca.fz 1
  have f2 := ca.fz 2
  clear ca
  go_upto_region 17 with (fail)
  try rw [← Hu.out]
  refine forget (fun W => St2 w W q g 39 (rpC Fr.R.zero none 0) (rpC ⟨c, a, b, 0, Rs.zero⟩ none 0)) (((HS2.out.cellX 1 (.int .u64 (a : Int))).cellX 2 (.int .u64 (b : Int))).to rfl (rpSet12 c a b)) ?_
  clear HS2 c0 c1 c2 f1 f2 q1 q2 q3 q4 HV1 HV2 Hv Hv2 Hz Hy d1 d1' d1'' d6 d6' d6'' dz d4 p1 Hu
  intro W3 S3
  have HS3 := Lib.hid S3
  clear S3
  have c0 := (rpAt HS3.out.x).c0
  have hE := HE.out
  clear HE
  by_cases k6 : c = 6
  case pos =>
    rw [if_neg (by omega), if_pos k6] at hE
    have e6 : ((c : Int) == 6) = true := kd_t k6
    have HR := Lib.hid (fun W => refReadRes_any u W HUs.out)
    unfold RetRr at HR
    rcases hd : Rs.read u.data.toList with _ | x
    · have E : Hid (Fr.rread s.data.toList = none) := Lib.hid (by rw [hE, hd]; rfl)
      have Hd := Lib.hid hd
      clear hd hE k6
      go_wp2_with fail
      refine (HR.out _).mono ?_
      rw [Hd.out]
      rintro e w3 ⟨A6, cap6, rfl, hl6, hb⟩
      have HS4 := Lib.hid (HS3.out.grow hb)
      have HL6 : Hid (Lies w3 A6 (rc (Rs.zero).rows)) := Lib.hid hl6
      clear hb hl6 c0 HS3
      go_upto_region 19 with (refine wpList_store_sub rfl 37 _ _ rfl w3.heap.size 0 rfl 37 (resC Rs.zero none 0) (resC Rs.zero A6 cap6) rfl ?_ (Nat.le_refl 4) (sizeResC _ _ _) (resC_one _ _ _) ?_; exact heap_alloc_new w3 _)
      have hlay := HS4.out.laid (U := 37) (Y := resC Rs.zero none 0) (layRes0 Rs.zero Rs.zero none A6 0 cap6)
      have hlie := (HL6.out.below (bnew (Below.refl _ _) (.cells (resC Rs.zero none 0) 37))).sets (g := w3.heap.size) (k := 0) (l := (resC Rs.zero A6 cap6).toList) HL6.out.apartNew
      refine forget (fun W => (St2 w W q g 39 (rpC Fr.R.zero none 0) (rpC ⟨c, a, b, 0, Rs.zero⟩ none 0) ∧ W.heap[w3.heap.size]? = some (.cells (resC Rs.zero A6 cap6) 37 (0, 0)) ∧ w3.heap.size ≠ g) ∧ Lies W A6 (rc (Rs.zero).rows)) ⟨hlay, hlie⟩ ?_
      clear HS4 HL6 hlay hlie
      obtain ⟨r, hr⟩ : ∃ r, r = w3.heap.size := ⟨_, rfl⟩
      rw [← hr]
      clear hr
      rintro V3 ⟨⟨S5, R5, N5⟩, L5⟩
      have HS5 := Lib.hid S5
      have HR5 := Lib.hid R5
      have HL5 := Lib.hid L5
      clear S5 R5 L5 N5
      go_wp2_with ((refine wpList_store_sub rfl 39 _ _ rfl q 0 rfl 39 (rpC Fr.R.zero none 0) (rpC Fr.R.zero none 0) rfl ?_ (Nat.le_refl 8) (sizeRpC _ _ _) (rpC_one _ _ _) ?_; exact HS5.out.z))
      have hres := results_ct (P := Try.prog) (fn := Try.f21) rfl
      refine bodyPost_ret (hres _ _ q 39 (rpC Fr.R.zero none 0) (0, 0) _ rfl ((HS5.out.setZ 0 (rpC Fr.R.zero none 0).toList).to (layRp _ _ _ _ _ _) rfl).z Try.underlying39 rfl sizeRp) rfl ⟨none, 0, by rw [E.out]; rfl, by rw [E.out]; exact .inl rfl, (HS5.out.setZ 0 _).b⟩
    have E : Hid (Fr.rread s.data.toList = some ⟨c, a, b, 0, x⟩) := Lib.hid (by rw [hE, hd, k6]; rfl)
    have Hd := Lib.hid hd
    clear hd hE k6
    go_wp2_with fail
    refine (HR.out _).mono ?_
    rw [Hd.out]
    rintro e w3 ⟨A6, cap6, rfl, hl6, hb⟩
    have HS4 := Lib.hid (HS3.out.grow hb)
    have HL6 : Hid (Lies w3 A6 (rc (x).rows)) := Lib.hid hl6
    clear hb hl6 c0 HS3
    go_upto_region 19 with (refine wpList_store_sub rfl 37 _ _ rfl w3.heap.size 0 rfl 37 (resC Rs.zero none 0) (resC x A6 cap6) rfl ?_ (Nat.le_refl 4) (sizeResC _ _ _) (resC_one _ _ _) ?_; exact heap_alloc_new w3 _)
    have hlay := HS4.out.laid (U := 37) (Y := resC Rs.zero none 0) (layRes0 Rs.zero x none A6 0 cap6)
    have hlie := (HL6.out.below (bnew (Below.refl _ _) (.cells (resC Rs.zero none 0) 37))).sets (g := w3.heap.size) (k := 0) (l := (resC x A6 cap6).toList) HL6.out.apartNew
    refine forget (fun W => (St2 w W q g 39 (rpC Fr.R.zero none 0) (rpC ⟨c, a, b, 0, Rs.zero⟩ none 0) ∧ W.heap[w3.heap.size]? = some (.cells (resC x A6 cap6) 37 (0, 0)) ∧ w3.heap.size ≠ g) ∧ Lies W A6 (rc (x).rows)) ⟨hlay, hlie⟩ ?_
    clear HS4 HL6 hlay hlie
    obtain ⟨r, hr⟩ : ∃ r, r = w3.heap.size := ⟨_, rfl⟩
    rw [← hr]
    clear hr
    rintro V3 ⟨⟨S5, R5, N5⟩, L5⟩
    have HS5 := Lib.hid S5
    have HR5 := Lib.hid R5
    have HL5 := Lib.hid L5
    clear S5 R5 L5 N5
    go_upto_region 22 with (first | (refine wpList_load_sub rfl 37 _ rfl r 0 rfl 37 _ (resC x A6 cap6) (0, 0) _ ?_ (subAll _) Try.underlying37 rfl (sizeResC _ _ _) ?_; exact HR5.out) | (refine wpList_store_sub rfl 37 _ _ rfl g 4 rfl 39 (rpC ⟨c, a, b, 0, Rs.zero⟩ none 0) (resC x A6 cap6) rfl ?_ (show 4 + 4 ≤ 8 by omega) (sizeResC _ _ _) (resC_one _ _ _) ?_; exact HS5.out.x))
    refine forget (fun W => St2 w W q g 39 (rpC Fr.R.zero none 0) (rpC ⟨c, a, b, 0, x⟩ A6 cap6) ∧ Lies W A6 (rc x.rows)) ⟨(HS5.out.setX 4 _).to rfl (layRes _ _ _ _ _ _), HL5.out.sets (rp_apart HS5.out.x HL5.out)⟩ ?_
    clear HS5 HL5 HR5
    rintro V4 ⟨S6, L6⟩
    have HS6 := Lib.hid S6
    have HL6 := Lib.hid L6
    clear S6 L6
    go_wp2_with (first | ((refine wpList_load_sub rfl 39 _ rfl g 0 rfl 39 _ (rpC ⟨c, a, b, 0, x⟩ A6 cap6) (0, 0) _ ?_ (subAll _) Try.underlying39 rfl (sizeRpC _ _ _) ?_; exact HS6.out.x)) | ((refine wpList_store_sub rfl 39 _ _ rfl q 0 rfl 39 (rpC Fr.R.zero none 0) (rpC ⟨c, a, b, 0, x⟩ A6 cap6) rfl ?_ (Nat.le_refl 8) (sizeRpC _ _ _) (rpC_one _ _ _) ?_; exact HS6.out.z)))
    have hres := results_ct (P := Try.prog) (fn := Try.f21) rfl
    refine bodyPost_ret (hres _ _ q 39 (rpC ⟨c, a, b, 0, x⟩ A6 cap6) (0, 0) _ rfl ((HS6.out.setZ 0 (rpC ⟨c, a, b, 0, x⟩ A6 cap6).toList).to (layRp _ _ _ _ _ _) rfl).z Try.underlying39 rfl sizeRp) rfl ⟨_, _, by rw [E.out]; rfl, by rw [E.out]; exact HL6.out.sets (rp_apart HS6.out.z HL6.out), (HS6.out.setZ 0 _).b⟩
  have e6 : ((c : Int) == 6) = false := kd_f (m := 6) k6
  by_cases k3 : c = 3
  case pos =>
    rw [if_pos k3] at hE
    have e3 : ((c : Int) == 3) = true := kd_t k3
    by_cases h0 : u.size = 0
    case pos =>
      have E : Hid (Fr.rread s.data.toList = none) := Lib.hid (by rw [hE, rdB0 u h0]; rfl)
      have dz : ((u.size : Int) == 0) = true := nz_t h0
      clear hE h0 k3 k6
      go_wp2_with ((refine wpList_store_sub rfl 39 _ _ rfl q 0 rfl 39 (rpC Fr.R.zero none 0) (rpC Fr.R.zero none 0) rfl ?_ (Nat.le_refl 8) (sizeRpC _ _ _) (rpC_one _ _ _) ?_; exact HS3.out.z))
      have hres := results_ct (P := Try.prog) (fn := Try.f21) rfl
      refine bodyPost_ret (hres _ _ q 39 (rpC Fr.R.zero none 0) (0, 0) _ rfl ((HS3.out.setZ 0 (rpC Fr.R.zero none 0).toList).to (layRp _ _ _ _ _ _) rfl).z Try.underlying39 rfl sizeRp) rfl ⟨none, 0, by rw [E.out]; rfl, by rw [E.out]; exact .inl rfl, (HS3.out.setZ 0 _).b⟩
    have hp : 0 < u.size := by omega
    have dz : ((u.size : Int) == 0) = false := nz_f h0
    have d4 : (0 : Int) < (u.size : Int) := by omega
    have d7 : (1 : Int) ≤ (u.size : Int) := by omega
    rw [rdBx u hp, Option.bind_some] at hE
    simp only [] at hE
    by_cases h5 : 5 < u[0].toNat
    case pos =>
      have E : Hid (Fr.rread s.data.toList = none) := Lib.hid (by rw [hE, if_neg (fun h => by have := h.2; omega)])
      have g5 : decide ((5 : Int) < (u[0].toNat : Int)) = true := by simp; omega
      have g5' : ((5 : Int) < (u[0].toNat : Int)) = True := by simp; omega
      have g5'' : decide (5 < u[0].toNat) = true := by simp; omega
      clear hE h0 k3 k6 h5
      go_wp2_with ((refine wpList_store_sub rfl 39 _ _ rfl q 0 rfl 39 (rpC Fr.R.zero none 0) (rpC Fr.R.zero none 0) rfl ?_ (Nat.le_refl 8) (sizeRpC _ _ _) (rpC_one _ _ _) ?_; exact HS3.out.z))
      have hres := results_ct (P := Try.prog) (fn := Try.f21) rfl
      refine bodyPost_ret (hres _ _ q 39 (rpC Fr.R.zero none 0) (0, 0) _ rfl ((HS3.out.setZ 0 (rpC Fr.R.zero none 0).toList).to (layRp _ _ _ _ _ _) rfl).z Try.underlying39 rfl sizeRp) rfl ⟨none, 0, by rw [E.out]; rfl, by rw [E.out]; exact .inl rfl, (HS3.out.setZ 0 _).b⟩
    have g5 : decide ((5 : Int) < (u[0].toNat : Int)) = false := by simp; omega
    have g5' : ((5 : Int) < (u[0].toNat : Int)) = False := by simp; omega
    have g5'' : decide (5 < u[0].toNat) = false := by simp; omega
    obtain ⟨v, hv⟩ : ∃ v, v = u.extract 1 u.size := ⟨_, rfl⟩
    rw [← hv] at hE
    have Hv := Lib.hid hv
    have hn := nil_iff v
    obtain ⟨d, hd⟩ : ∃ d, d = u[0].toNat := ⟨_, rfl⟩
    have Hd := Lib.hid hd
    rw [← hd] at hE
    have hd5 : d ≤ 5 := by omega
    have HE := Lib.hid (And.intro hE (And.intro hn hd5))
    have K3 := Lib.hid k3
    have ca := rpAt HS3.out.x
    have c3 := ca.c3
    have f3 := ca.fz 3
    clear hv hn hd hE h5 h0 k3 k6 hd5 ca
    go_upto_region 28 with (fail)
    try rw [← Hv.out]
    refine forget (fun W => St2 w W q g 39 (rpC Fr.R.zero none 0) (rpC ⟨c, a, b, d, Rs.zero⟩ none 0)) (by rw [Hd.out]; exact (HS3.out.cellX 3 (.int .u8 (u[0].toNat : Int))).to rfl (rpSet3 c a b u[0].toNat)) ?_
    clear HS3 c3 f3 Hv Hd c0
    intro W4 S4
    have HS4 := Lib.hid S4
    clear S4
    have hE := HE.out
    clear HE
    by_cases h0 : v.size = 0
    case pos =>
      have E : Hid (Fr.rread s.data.toList = some ⟨c, a, b, d, Rs.zero⟩) := Lib.hid (by rw [hE.1, if_pos ⟨hE.2.1.2 h0, hE.2.2⟩, K3.out])
      have g7 : decide ((0 : Int) < (v.size : Int)) = false := by rw [h0]; rfl
      have g7' : ((0 : Int) < (v.size : Int)) = False := by rw [h0]; simp
      have g7'' : decide (0 < v.size) = false := by rw [h0]; rfl
      clear hE h0 K3
      go_wp2_with (first | ((refine wpList_load_sub rfl 39 _ rfl g 0 rfl 39 _ (rpC ⟨c, a, b, d, Rs.zero⟩ none 0) (0, 0) _ ?_ (subAll _) Try.underlying39 rfl (sizeRpC _ _ _) ?_; exact HS4.out.x)) | ((refine wpList_store_sub rfl 39 _ _ rfl q 0 rfl 39 (rpC Fr.R.zero none 0) (rpC ⟨c, a, b, d, Rs.zero⟩ none 0) rfl ?_ (Nat.le_refl 8) (sizeRpC _ _ _) (rpC_one _ _ _) ?_; exact HS4.out.z)))
      have hres := results_ct (P := Try.prog) (fn := Try.f21) rfl
      refine bodyPost_ret (hres _ _ q 39 (rpC ⟨c, a, b, d, Rs.zero⟩ none 0) (0, 0) _ rfl ((HS4.out.setZ 0 (rpC ⟨c, a, b, d, Rs.zero⟩ none 0).toList).to (layRp _ _ _ _ _ _) rfl).z Try.underlying39 rfl sizeRp) rfl ⟨_, _, by rw [E.out]; rfl, by rw [E.out]; exact .inl rfl, (HS4.out.setZ 0 _).b⟩
    have E : Hid (Fr.rread s.data.toList = none) := Lib.hid (by rw [hE.1, if_neg (fun h => h0 (hE.2.1.1 h.1))])
    have g7 : decide ((0 : Int) < (v.size : Int)) = true := by simp; omega
    have g7' : ((0 : Int) < (v.size : Int)) = True := by simp; omega
    have g7'' : decide (0 < v.size) = true := by simp; omega
    clear hE h0 K3
    go_wp2_with ((refine wpList_store_sub rfl 39 _ _ rfl q 0 rfl 39 (rpC Fr.R.zero none 0) (rpC Fr.R.zero none 0) rfl ?_ (Nat.le_refl 8) (sizeRpC _ _ _) (rpC_one _ _ _) ?_; exact HS4.out.z))
    have hres := results_ct (P := Try.prog) (fn := Try.f21) rfl
    refine bodyPost_ret (hres _ _ q 39 (rpC Fr.R.zero none 0) (0, 0) _ rfl ((HS4.out.setZ 0 (rpC Fr.R.zero none 0).toList).to (layRp _ _ _ _ _ _) rfl).z Try.underlying39 rfl sizeRp) rfl ⟨none, 0, by rw [E.out]; rfl, by rw [E.out]; exact .inl rfl, (HS4.out.setZ 0 _).b⟩
  have e3 : ((c : Int) == 3) = false := kd_f (m := 3) k3
  rw [if_neg k3, if_neg k6] at hE
  have hr : Fr.right ⟨c, a, b, 0, Rs.zero⟩ = true := by
    have := HC2.out
    unfold Fr.right
    rw [if_neg (show ¬ c = 1 by omega), if_pos (show c = 2 ∨ c = 4 ∨ c = 5 by omega), (Fr.noRes_iff _).2 rfl]; rfl
  have hn := nil_iff u
  by_cases h0 : u.size = 0
  case pos =>
    have E : Hid (Fr.rread s.data.toList = some ⟨c, a, b, 0, Rs.zero⟩) := Lib.hid (by rw [hE, if_pos ⟨hn.2 h0, hr⟩])
    have g7 : decide ((0 : Int) < (u.size : Int)) = false := by rw [h0]; rfl
    have g7' : ((0 : Int) < (u.size : Int)) = False := by rw [h0]; simp
    have g7'' : decide (0 < u.size) = false := by rw [h0]; rfl
    clear hE h0 k3 k6 hr hn
    go_wp2_with (first | ((refine wpList_load_sub rfl 39 _ rfl g 0 rfl 39 _ (rpC ⟨c, a, b, 0, Rs.zero⟩ none 0) (0, 0) _ ?_ (subAll _) Try.underlying39 rfl (sizeRpC _ _ _) ?_; exact HS3.out.x)) | ((refine wpList_store_sub rfl 39 _ _ rfl q 0 rfl 39 (rpC Fr.R.zero none 0) (rpC ⟨c, a, b, 0, Rs.zero⟩ none 0) rfl ?_ (Nat.le_refl 8) (sizeRpC _ _ _) (rpC_one _ _ _) ?_; exact HS3.out.z)))
    have hres := results_ct (P := Try.prog) (fn := Try.f21) rfl
    refine bodyPost_ret (hres _ _ q 39 (rpC ⟨c, a, b, 0, Rs.zero⟩ none 0) (0, 0) _ rfl ((HS3.out.setZ 0 (rpC ⟨c, a, b, 0, Rs.zero⟩ none 0).toList).to (layRp _ _ _ _ _ _) rfl).z Try.underlying39 rfl sizeRp) rfl ⟨_, _, by rw [E.out]; rfl, by rw [E.out]; exact .inl rfl, (HS3.out.setZ 0 _).b⟩
  have E : Hid (Fr.rread s.data.toList = none) := Lib.hid (by rw [hE, if_neg (fun h => h0 (hn.1 h.1))])
  have g7 : decide ((0 : Int) < (u.size : Int)) = true := by simp; omega
  have g7' : ((0 : Int) < (u.size : Int)) = True := by simp; omega
  have g7'' : decide (0 < u.size) = true := by simp; omega
  clear hE h0 k3 k6 hr hn
  go_wp2_with ((refine wpList_store_sub rfl 39 _ _ rfl q 0 rfl 39 (rpC Fr.R.zero none 0) (rpC Fr.R.zero none 0) rfl ?_ (Nat.le_refl 8) (sizeRpC _ _ _) (rpC_one _ _ _) ?_; exact HS3.out.z))
  have hres := results_ct (P := Try.prog) (fn := Try.f21) rfl
  refine bodyPost_ret (hres _ _ q 39 (rpC Fr.R.zero none 0) (0, 0) _ rfl ((HS3.out.setZ 0 (rpC Fr.R.zero none 0).toList).to (layRp _ _ _ _ _ _) rfl).z Try.underlying39 rfl sizeRp) rfl ⟨none, 0, by rw [E.out]; rfl, by rw [E.out]; exact .inl rfl, (HS3.out.setZ 0 _).b⟩
theorem refRRep_any (s : ByteArray) (w : World) (hs : s.size ≤ 10000000) : Calls Try.prog 21 #[.string s] w (RetRp (Fr.rread s.data.toList) w) := by
  by_cases h0 : s.size = 0
  · exact rfr_0 s w hs h0
  have hp : 0 < s.size := by omega
  by_cases h1 : s[0].toNat = 1
  · exact rfr_1 s w hs hp h1
  by_cases h2 : s[0].toNat < 1 ∨ 6 < s[0].toNat
  · exact rfr_out s w hs hp h2
  · exact rfr_n s w hs hp h1 (by omega) (by omega)
end Go.Proofs.Ytlcgjlganmblpaa
