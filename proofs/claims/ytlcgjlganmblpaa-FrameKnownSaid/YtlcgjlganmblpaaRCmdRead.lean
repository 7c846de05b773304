/-
  wapentakeref03.Read walked.
-/
import Derived.Test.YtlcgjlganmblpaaRTake
import Derived.Test.YtlcgjlganmblpaaRCmdMay
import Derived.Deep.DeepCutAuto
import Derived.Deep.CutBlock
set_option linter.unusedSimpArgs false
set_option linter.unusedVariables false
namespace Go.Proofs.Ytlcgjlganmblpaa
open Go.RowKit
theorem startRd (w w1 : World) (s : ByteArray) (n : Nat) (t : Cm.Tk) (ho : Only (w.heap.size + 1) ((w.alloc (.cells (cmdC Cm.zero none 0) 30)).alloc (.cells #[.string s, .bool true] 116)) w1) (ht : TkAt w1 (w.heap.size + 1) t) :
    RdSt w (w1.alloc (.cells (cmdC ⟨n, 0, 0, Cm.e0, Cm.e0, Cm.e0, Cm.e0, Cm.e0, 0, 0, 0, []⟩ none 0) 30)) w1.heap.size t ⟨n, 0, 0, Cm.e0, Cm.e0, Cm.e0, Cm.e0, Cm.e0, 0, 0, 0, []⟩ none 0 := by
  have hsz := ho.size
  simp only [World.size_alloc] at hsz
  refine ⟨bnew (ho.below (bnew (bnew (Below.refl _ _) _) _) (by omega)) _, ?_, ht.below (bnew (Below.refl _ _) _), heap_alloc_new w1 _, by omega, by simp⟩
  rw [Below.heap_alloc _ _ _ (by omega), ho.block _ (by simp; omega) (by omega), Below.heap_alloc _ _ _ (by simp)]
  exact heap_alloc_new w _
theorem Lies.set {W : World} {g i : Nat} {v : Value} {A : Option Addr} {vs : List Value} (h : Lies W A vs) (hb : ∀ b off, A = some ⟨b, off, none⟩ → b ≠ g) : Lies (W.setCell ⟨g, i, none⟩ v) A vs := by
  rcases h with h | ⟨b, off, rfl, hlt, hc⟩
  · exact .inl h
  · exact .inr ⟨b, off, rfl, by simpa using hlt, fun i u hu => (World.cell?_of_block (Below.heap_setCell _ _ _ _ (by simpa using hb b off rfl))).trans (hc i u hu)⟩
theorem cmdLies {W : World} {g : Nat} {c : Cm.Cmd} {A B : Option Addr} {cap : Nat} {vs : List Value} (h : Lies W B vs) (hb : ∀ b off, B = some ⟨b, off, none⟩ → b ≠ g) : Lies (((((((((((((W.setCell ⟨g, 0, none⟩ (.int .u8 (c.op : Int))).setCell ⟨g, 1, none⟩ (.int .u64 (c.ses : Int))).setCell ⟨g, 2, none⟩ (.int .u64 (c.seq : Int))).setCell ⟨g, 3, none⟩ (.string c.key)).setCell ⟨g, 4, none⟩ (.string c.val)).setCell ⟨g, 5, none⟩ (.string c.exp)).setCell ⟨g, 6, none⟩ (.string c.frm)).setCell ⟨g, 7, none⟩ (.string c.tto)).setCell ⟨g, 8, none⟩ (.int .u8 (c.lim : Int))).setCell ⟨g, 9, none⟩ (.int .u64 (c.lease : Int))).setCell ⟨g, 10, none⟩ (.int .u64 (c.ttl : Int))).setCell ⟨g, 11, none⟩ (.slice A c.parts.length cap))) B vs :=
  ((((((((((((h).set hb).set hb).set hb).set hb).set hb).set hb).set hb).set hb).set hb).set hb).set hb).set hb
theorem news_new (W : World) (l : List Value) (t : TypeId) : ∀ j u, l[j]? = some u → (W.alloc (.cells l.toArray t)).cell? ((⟨W.heap.size, 0, none⟩ : Addr).add j) = some u := fun j u hu => by
  have e : (⟨W.heap.size, 0, none⟩ : Addr).add j = ⟨W.heap.size, 0 + j, none⟩ := by unfold Addr.add; split <;> simp_all
  rw [e, Nat.zero_add, cell_of_row _ W.heap.size j l.toArray t (0, 0) (heap_alloc_new W _)]
  simpa using hu
theorem set_grown (W : World) (g i : Nat) (v : Value) : W.grownBy (W.setCell ⟨g, i, none⟩ v) (some g) :=
  ⟨rfl, rfl, rfl, by simp, fun k _ hne => Below.heap_setCell _ _ _ _ (fun e => hne (by simp at e; rw [e]))⟩
/-- What a reader answers. -/
def RetRd (o : Option Cm.Cmd) (w : World) (e : Ending) (w' : World) : Prop :=
  ∃ A cap, e = .returned (.tuple #[.agg (cmdC (o.getD Cm.zero) A cap), .bool o.isSome]) ∧ Lies w' A (pc (o.getD Cm.zero).parts) ∧ Below w.heap.size w w'
set_option maxRecDepth 100000 in
set_option maxHeartbeats 4000000 in
theorem read_any (s : ByteArray) (w : World) (hs : s.size ≤ 10000000) :
    Calls Try.prog 46 #[.string s] w (RetRd (Cm.read s.data.toList) w) := by
  obtain ⟨t0, ht0⟩ : ∃ t : Cm.Tk, t = ⟨s.data.toList, true⟩ := ⟨_, rfl⟩
  have hl0 : t0.l.length ≤ 10000000 := by rw [ht0, ← Lib.size_eq]; exact hs
  have T0 : TkAt ((w.alloc (.cells (cmdC Cm.zero none 0) 30)).alloc (.cells #[.string s, .bool true] 116)) (w.heap.size + 1) t0 := by
    have := heap_alloc_new (w.alloc (.cells (cmdC Cm.zero none 0) 30)) (.cells #[.string s, .bool true] 116)
    rw [World.size_alloc] at this
    unfold TkAt
    rw [this, ht0]
  have hc := tkB_any _ _ _ T0 (by omega)
  have hlt := Cm.lt_B t0
  have hlen := Cm.len_B t0
  generalize hB : Cm.tB t0 = r1 at hc hlt hlen
  obtain ⟨n, t1⟩ := r1
  simp only at hc hlt hlen
  have hw8 : (n : Int) % 256 = (n : Int) := by omega
  have HB := Lib.hid hB
  have Hc := Lib.hid hc
  have Hw8 := Lib.hid hw8
  have Ht0 := Lib.hid ht0
  clear hc T0 hw8 hB ht0
  go_enter Try.func46, Try.ntmps46
  go_wp2_with fail
  refine Hc.out.mono ?_
  rintro e w1 ⟨rfl, hT1, ho1⟩
  have S0 := startRd w w1 s n t1 ho1 hT1
  have HS0 := Lib.hid S0
  clear S0 hT1 ho1 Hc
  have hw8 := Hw8.out
  go_wp2_with fail
  have S0 := HS0.out
  have hc := tkV_any _ _ _ S0.t (by omega)
  have hlt2 := Cm.lt_V t1
  have hlen2 := Cm.len_V t1
  generalize hV1 : Cm.tV t1 = r2 at hc hlt2 hlen2
  obtain ⟨m1, t2⟩ := r2
  simp only at hc hlt2 hlen2
  refine hc.mono ?_
  rintro e w2 ⟨rfl, hT2, ho2⟩
  have S1 := S0.call ho2 hT2
  generalize w1.heap.size = g at S1 ⊢
  have k1 := S1.cell.c1
  have z1 := S1.cell.fz 1
  have HS1 := Lib.hid (S1.put 1 _ (set_ses _ _ _ m1))
  have HV1 := Lib.hid hV1
  have Hlt2 := Lib.hid hlt2
  clear hc S0 hT2 ho2 S1 HS0 hV1 hlt2 Hw8 hw8
  go_wp2_with fail
  have S2 := HS1.out
  have hc := tkV_any _ _ _ S2.t (by omega)
  have hlt3 := Cm.lt_V t2
  have hlen3 := Cm.len_V t2
  generalize hV2 : Cm.tV t2 = r3 at hc hlt3 hlen3
  obtain ⟨m2, t3⟩ := r3
  simp only at hc hlt3 hlen3
  refine hc.mono ?_
  rintro e w3 ⟨rfl, hT3, ho3⟩
  have S3 := S2.call ho3 hT3
  have k2 := S3.cell.c2
  have z2 := S3.cell.fz 2
  have HS3 := Lib.hid (S3.put 2 _ (set_seq _ _ _ m2))
  have HV2 := Lib.hid hV2
  have Hlt3 := Lib.hid hlt3
  clear hc S2 hT3 ho3 S3 HS1 hV2 hlt3 k1 z1
  simp only at HS3
  go_upto_region 5 with (fail)
  refine forget (fun W => RdSt w W g t3 ⟨n, m1, m2, Cm.e0, Cm.e0, Cm.e0, Cm.e0, Cm.e0, 0, 0, 0, []⟩ none 0) HS3.out ?_
  clear HS3 k2 z2
  intro W3 S3
  have k0 := S3.cell.c0
  have HS3 := Lib.hid S3
  clear S3
  go_upto_block 0 with (fail)
  go_cut [] (fun W => ∃ (t : Cm.Tk) (c : Cm.Cmd) (A : Option Addr) (cap : Nat), RdSt w W g t c A cap ∧ Lies W A (pc c.parts) ∧ (∀ b off, A = some ⟨b, off, none⟩ → b ≠ w.heap.size) ∧ t.l.length ≤ 10000000 ∧ Cm.G t3 (Cm.rdBody n m1 m2 t3.l) c t)
  case first =>
    by_cases h : n = 1
    · have H := Lib.hid h
      have e1 : ((n : Int) == 1) = true := by rw [beq_iff_eq]; omega
      have e2 : ((n : Int) == 2) = false := by rw [beq_eq_false_iff_ne]; omega
      have e3 : ((n : Int) == 3) = false := by rw [beq_eq_false_iff_ne]; omega
      have e4 : ((n : Int) == 4) = false := by rw [beq_eq_false_iff_ne]; omega
      have e5 : ((n : Int) == 5) = false := by rw [beq_eq_false_iff_ne]; omega
      have e6 : ((n : Int) == 6) = false := by rw [beq_eq_false_iff_ne]; omega
      have e7 : ((n : Int) == 7) = false := by rw [beq_eq_false_iff_ne]; omega
      have e8 : ((n : Int) == 8) = false := by rw [beq_eq_false_iff_ne]; omega
      have e9 : ((n : Int) == 9) = false := by rw [beq_eq_false_iff_ne]; omega
      clear h
      go_wp2_with fail
      have S := HS3.out
      have hc := tkV_any _ _ _ S.t (by omega)
      have hl0 := Cm.len_V t3
      generalize hV0 : Cm.tV t3 = r at hc hl0
      obtain ⟨v0, q0⟩ := r
      simp only at hc hl0
      refine hc.mono ?_
      rintro e W4 ⟨rfl, hT, ho⟩
      have S' := S.call ho hT
      have k10 := S'.cell.c10
      have z10 := S'.cell.fz 10
      have HQ0 := Lib.hid (S'.put 10 _ (set_ttl _ _ _ v0))
      simp only at HQ0
      have HV0' := Lib.hid hV0
      clear hc S hT ho S' hV0
      go_wp2_with fail
      go_meet
      exact ⟨q0, ⟨n, m1, m2, Cm.e0, Cm.e0, Cm.e0, Cm.e0, Cm.e0, 0, 0, v0, []⟩, none, 0, HQ0.out, .inl rfl, fun _ _ h => (by cases h), by omega, by rw [Cm.rdBody1 (Or.inl H.out)]; exact (Cm.G.V HV0'.out).bind (Cm.G.pure _ _)⟩
    by_cases h : n = 6
    · have H := Lib.hid h
      have e1 : ((n : Int) == 1) = false := by rw [beq_eq_false_iff_ne]; omega
      have e2 : ((n : Int) == 2) = false := by rw [beq_eq_false_iff_ne]; omega
      have e3 : ((n : Int) == 3) = false := by rw [beq_eq_false_iff_ne]; omega
      have e4 : ((n : Int) == 4) = false := by rw [beq_eq_false_iff_ne]; omega
      have e5 : ((n : Int) == 5) = false := by rw [beq_eq_false_iff_ne]; omega
      have e6 : ((n : Int) == 6) = true := by rw [beq_iff_eq]; omega
      have e7 : ((n : Int) == 7) = false := by rw [beq_eq_false_iff_ne]; omega
      have e8 : ((n : Int) == 8) = false := by rw [beq_eq_false_iff_ne]; omega
      have e9 : ((n : Int) == 9) = false := by rw [beq_eq_false_iff_ne]; omega
      clear h
      go_wp2_with fail
      have S := HS3.out
      have hc := tkV_any _ _ _ S.t (by omega)
      have hl0 := Cm.len_V t3
      generalize hV0 : Cm.tV t3 = r at hc hl0
      obtain ⟨v0, q0⟩ := r
      simp only at hc hl0
      refine hc.mono ?_
      rintro e W4 ⟨rfl, hT, ho⟩
      have S' := S.call ho hT
      have k10 := S'.cell.c10
      have z10 := S'.cell.fz 10
      have HQ0 := Lib.hid (S'.put 10 _ (set_ttl _ _ _ v0))
      simp only at HQ0
      have HV0' := Lib.hid hV0
      clear hc S hT ho S' hV0
      go_wp2_with fail
      go_meet
      exact ⟨q0, ⟨n, m1, m2, Cm.e0, Cm.e0, Cm.e0, Cm.e0, Cm.e0, 0, 0, v0, []⟩, none, 0, HQ0.out, .inl rfl, fun _ _ h => (by cases h), by omega, by rw [Cm.rdBody1 (Or.inr H.out)]; exact (Cm.G.V HV0'.out).bind (Cm.G.pure _ _)⟩
    by_cases h : n = 2
    · have H := Lib.hid h
      have e1 : ((n : Int) == 1) = false := by rw [beq_eq_false_iff_ne]; omega
      have e2 : ((n : Int) == 2) = true := by rw [beq_iff_eq]; omega
      have e3 : ((n : Int) == 3) = false := by rw [beq_eq_false_iff_ne]; omega
      have e4 : ((n : Int) == 4) = false := by rw [beq_eq_false_iff_ne]; omega
      have e5 : ((n : Int) == 5) = false := by rw [beq_eq_false_iff_ne]; omega
      have e6 : ((n : Int) == 6) = false := by rw [beq_eq_false_iff_ne]; omega
      have e7 : ((n : Int) == 7) = false := by rw [beq_eq_false_iff_ne]; omega
      have e8 : ((n : Int) == 8) = false := by rw [beq_eq_false_iff_ne]; omega
      have e9 : ((n : Int) == 9) = false := by rw [beq_eq_false_iff_ne]; omega
      clear h
      go_wp2_with fail
      have S := HS3.out
      have hc := tkS_any _ _ _ S.t (by omega)
      have hl0 := Cm.len_S t3
      generalize hV0 : Cm.tS t3 = r at hc hl0
      obtain ⟨v0, q0⟩ := r
      simp only at hc hl0
      refine hc.mono ?_
      rintro e W4 ⟨rfl, hT, ho⟩
      have S' := S.call ho hT
      have k3 := S'.cell.c3
      have z3 := S'.cell.fz 3
      have HQ0 := Lib.hid (S'.put 3 _ (set_key _ _ _ v0))
      simp only at HQ0
      have HV0' := Lib.hid hV0
      clear hc S hT ho S' hV0
      go_wp2_with fail
      have S := HQ0.out
      have hc := tkS_any _ _ _ S.t (by omega)
      have hl1 := Cm.len_S q0
      generalize hV1 : Cm.tS q0 = r at hc hl1
      obtain ⟨v1, q1⟩ := r
      simp only at hc hl1
      refine hc.mono ?_
      rintro e W5 ⟨rfl, hT, ho⟩
      have S' := S.call ho hT
      have k4 := S'.cell.c4
      have z4 := S'.cell.fz 4
      have HQ1 := Lib.hid (S'.put 4 _ (set_val _ _ _ v1))
      simp only at HQ1
      have HV1' := Lib.hid hV1
      clear hc S hT ho S' hV1
      go_wp2_with fail
      have S := HQ1.out
      have hc := tkV_any _ _ _ S.t (by omega)
      have hl2 := Cm.len_V q1
      generalize hV2 : Cm.tV q1 = r at hc hl2
      obtain ⟨v2, q2⟩ := r
      simp only at hc hl2
      refine hc.mono ?_
      rintro e W6 ⟨rfl, hT, ho⟩
      have S' := S.call ho hT
      have k9 := S'.cell.c9
      have z9 := S'.cell.fz 9
      have HQ2 := Lib.hid (S'.put 9 _ (set_lease _ _ _ v2))
      simp only at HQ2
      have HV2' := Lib.hid hV2
      clear hc S hT ho S' hV2
      go_wp2_with fail
      go_meet
      exact ⟨q2, ⟨n, m1, m2, v0, v1, Cm.e0, Cm.e0, Cm.e0, 0, v2, 0, []⟩, none, 0, HQ2.out, .inl rfl, fun _ _ h => (by cases h), by omega, by rw [Cm.rdBody2 H.out]; exact (Cm.G.S HV0'.out).bind ((Cm.G.S HV1'.out).bind ((Cm.G.V HV2'.out).bind (Cm.G.pure _ _)))⟩
    by_cases h : n = 3
    · have H := Lib.hid h
      have e1 : ((n : Int) == 1) = false := by rw [beq_eq_false_iff_ne]; omega
      have e2 : ((n : Int) == 2) = false := by rw [beq_eq_false_iff_ne]; omega
      have e3 : ((n : Int) == 3) = true := by rw [beq_iff_eq]; omega
      have e4 : ((n : Int) == 4) = false := by rw [beq_eq_false_iff_ne]; omega
      have e5 : ((n : Int) == 5) = false := by rw [beq_eq_false_iff_ne]; omega
      have e6 : ((n : Int) == 6) = false := by rw [beq_eq_false_iff_ne]; omega
      have e7 : ((n : Int) == 7) = false := by rw [beq_eq_false_iff_ne]; omega
      have e8 : ((n : Int) == 8) = false := by rw [beq_eq_false_iff_ne]; omega
      have e9 : ((n : Int) == 9) = false := by rw [beq_eq_false_iff_ne]; omega
      clear h
      go_wp2_with fail
      have S := HS3.out
      have hc := tkS_any _ _ _ S.t (by omega)
      have hl0 := Cm.len_S t3
      generalize hV0 : Cm.tS t3 = r at hc hl0
      obtain ⟨v0, q0⟩ := r
      simp only at hc hl0
      refine hc.mono ?_
      rintro e W4 ⟨rfl, hT, ho⟩
      have S' := S.call ho hT
      have k3 := S'.cell.c3
      have z3 := S'.cell.fz 3
      have HQ0 := Lib.hid (S'.put 3 _ (set_key _ _ _ v0))
      simp only at HQ0
      have HV0' := Lib.hid hV0
      clear hc S hT ho S' hV0
      go_wp2_with fail
      go_meet
      exact ⟨q0, ⟨n, m1, m2, v0, Cm.e0, Cm.e0, Cm.e0, Cm.e0, 0, 0, 0, []⟩, none, 0, HQ0.out, .inl rfl, fun _ _ h => (by cases h), by omega, by rw [Cm.rdBody3 (Or.inl H.out)]; exact (Cm.G.S HV0'.out).bind (Cm.G.pure _ _)⟩
    by_cases h : n = 8
    · have H := Lib.hid h
      have e1 : ((n : Int) == 1) = false := by rw [beq_eq_false_iff_ne]; omega
      have e2 : ((n : Int) == 2) = false := by rw [beq_eq_false_iff_ne]; omega
      have e3 : ((n : Int) == 3) = false := by rw [beq_eq_false_iff_ne]; omega
      have e4 : ((n : Int) == 4) = false := by rw [beq_eq_false_iff_ne]; omega
      have e5 : ((n : Int) == 5) = false := by rw [beq_eq_false_iff_ne]; omega
      have e6 : ((n : Int) == 6) = false := by rw [beq_eq_false_iff_ne]; omega
      have e7 : ((n : Int) == 7) = false := by rw [beq_eq_false_iff_ne]; omega
      have e8 : ((n : Int) == 8) = true := by rw [beq_iff_eq]; omega
      have e9 : ((n : Int) == 9) = false := by rw [beq_eq_false_iff_ne]; omega
      clear h
      go_wp2_with fail
      have S := HS3.out
      have hc := tkS_any _ _ _ S.t (by omega)
      have hl0 := Cm.len_S t3
      generalize hV0 : Cm.tS t3 = r at hc hl0
      obtain ⟨v0, q0⟩ := r
      simp only at hc hl0
      refine hc.mono ?_
      rintro e W4 ⟨rfl, hT, ho⟩
      have S' := S.call ho hT
      have k3 := S'.cell.c3
      have z3 := S'.cell.fz 3
      have HQ0 := Lib.hid (S'.put 3 _ (set_key _ _ _ v0))
      simp only at HQ0
      have HV0' := Lib.hid hV0
      clear hc S hT ho S' hV0
      go_wp2_with fail
      go_meet
      exact ⟨q0, ⟨n, m1, m2, v0, Cm.e0, Cm.e0, Cm.e0, Cm.e0, 0, 0, 0, []⟩, none, 0, HQ0.out, .inl rfl, fun _ _ h => (by cases h), by omega, by rw [Cm.rdBody3 (Or.inr H.out)]; exact (Cm.G.S HV0'.out).bind (Cm.G.pure _ _)⟩
    by_cases h : n = 4
    · have H := Lib.hid h
      have e1 : ((n : Int) == 1) = false := by rw [beq_eq_false_iff_ne]; omega
      have e2 : ((n : Int) == 2) = false := by rw [beq_eq_false_iff_ne]; omega
      have e3 : ((n : Int) == 3) = false := by rw [beq_eq_false_iff_ne]; omega
      have e4 : ((n : Int) == 4) = true := by rw [beq_iff_eq]; omega
      have e5 : ((n : Int) == 5) = false := by rw [beq_eq_false_iff_ne]; omega
      have e6 : ((n : Int) == 6) = false := by rw [beq_eq_false_iff_ne]; omega
      have e7 : ((n : Int) == 7) = false := by rw [beq_eq_false_iff_ne]; omega
      have e8 : ((n : Int) == 8) = false := by rw [beq_eq_false_iff_ne]; omega
      have e9 : ((n : Int) == 9) = false := by rw [beq_eq_false_iff_ne]; omega
      clear h
      go_wp2_with fail
      have S := HS3.out
      have hc := tkS_any _ _ _ S.t (by omega)
      have hl0 := Cm.len_S t3
      generalize hV0 : Cm.tS t3 = r at hc hl0
      obtain ⟨v0, q0⟩ := r
      simp only at hc hl0
      refine hc.mono ?_
      rintro e W4 ⟨rfl, hT, ho⟩
      have S' := S.call ho hT
      have k3 := S'.cell.c3
      have z3 := S'.cell.fz 3
      have HQ0 := Lib.hid (S'.put 3 _ (set_key _ _ _ v0))
      simp only at HQ0
      have HV0' := Lib.hid hV0
      clear hc S hT ho S' hV0
      go_wp2_with fail
      have S := HQ0.out
      have hc := tkS_any _ _ _ S.t (by omega)
      have hl1 := Cm.len_S q0
      generalize hV1 : Cm.tS q0 = r at hc hl1
      obtain ⟨v1, q1⟩ := r
      simp only at hc hl1
      refine hc.mono ?_
      rintro e W5 ⟨rfl, hT, ho⟩
      have S' := S.call ho hT
      have k5 := S'.cell.c5
      have z5 := S'.cell.fz 5
      have HQ1 := Lib.hid (S'.put 5 _ (set_exp _ _ _ v1))
      simp only at HQ1
      have HV1' := Lib.hid hV1
      clear hc S hT ho S' hV1
      go_wp2_with fail
      have S := HQ1.out
      have hc := tkS_any _ _ _ S.t (by omega)
      have hl2 := Cm.len_S q1
      generalize hV2 : Cm.tS q1 = r at hc hl2
      obtain ⟨v2, q2⟩ := r
      simp only at hc hl2
      refine hc.mono ?_
      rintro e W6 ⟨rfl, hT, ho⟩
      have S' := S.call ho hT
      have k4 := S'.cell.c4
      have z4 := S'.cell.fz 4
      have HQ2 := Lib.hid (S'.put 4 _ (set_val _ _ _ v2))
      simp only at HQ2
      have HV2' := Lib.hid hV2
      clear hc S hT ho S' hV2
      go_wp2_with fail
      go_meet
      exact ⟨q2, ⟨n, m1, m2, v0, v2, v1, Cm.e0, Cm.e0, 0, 0, 0, []⟩, none, 0, HQ2.out, .inl rfl, fun _ _ h => (by cases h), by omega, by rw [Cm.rdBody4 H.out]; exact (Cm.G.S HV0'.out).bind ((Cm.G.S HV1'.out).bind ((Cm.G.S HV2'.out).bind (Cm.G.pure _ _)))⟩
    by_cases h : n = 7
    · have H := Lib.hid h
      have e1 : ((n : Int) == 1) = false := by rw [beq_eq_false_iff_ne]; omega
      have e2 : ((n : Int) == 2) = false := by rw [beq_eq_false_iff_ne]; omega
      have e3 : ((n : Int) == 3) = false := by rw [beq_eq_false_iff_ne]; omega
      have e4 : ((n : Int) == 4) = false := by rw [beq_eq_false_iff_ne]; omega
      have e5 : ((n : Int) == 5) = false := by rw [beq_eq_false_iff_ne]; omega
      have e6 : ((n : Int) == 6) = false := by rw [beq_eq_false_iff_ne]; omega
      have e7 : ((n : Int) == 7) = true := by rw [beq_iff_eq]; omega
      have e8 : ((n : Int) == 8) = false := by rw [beq_eq_false_iff_ne]; omega
      have e9 : ((n : Int) == 9) = false := by rw [beq_eq_false_iff_ne]; omega
      clear h
      go_wp2_with fail
      have S := HS3.out
      have hc := tkV_any _ _ _ S.t (by omega)
      have hl0 := Cm.len_V t3
      generalize hV0 : Cm.tV t3 = r at hc hl0
      obtain ⟨v0, q0⟩ := r
      simp only at hc hl0
      refine hc.mono ?_
      rintro e W4 ⟨rfl, hT, ho⟩
      have S' := S.call ho hT
      have k9 := S'.cell.c9
      have z9 := S'.cell.fz 9
      have HQ0 := Lib.hid (S'.put 9 _ (set_lease _ _ _ v0))
      simp only at HQ0
      have HV0' := Lib.hid hV0
      clear hc S hT ho S' hV0
      go_wp2_with fail
      go_meet
      exact ⟨q0, ⟨n, m1, m2, Cm.e0, Cm.e0, Cm.e0, Cm.e0, Cm.e0, 0, v0, 0, []⟩, none, 0, HQ0.out, .inl rfl, fun _ _ h => (by cases h), by omega, by rw [Cm.rdBody7 H.out]; exact (Cm.G.V HV0'.out).bind (Cm.G.pure _ _)⟩
    by_cases h : n = 9
    · have H := Lib.hid h
      have e1 : ((n : Int) == 1) = false := by rw [beq_eq_false_iff_ne]; omega
      have e2 : ((n : Int) == 2) = false := by rw [beq_eq_false_iff_ne]; omega
      have e3 : ((n : Int) == 3) = false := by rw [beq_eq_false_iff_ne]; omega
      have e4 : ((n : Int) == 4) = false := by rw [beq_eq_false_iff_ne]; omega
      have e5 : ((n : Int) == 5) = false := by rw [beq_eq_false_iff_ne]; omega
      have e6 : ((n : Int) == 6) = false := by rw [beq_eq_false_iff_ne]; omega
      have e7 : ((n : Int) == 7) = false := by rw [beq_eq_false_iff_ne]; omega
      have e8 : ((n : Int) == 8) = false := by rw [beq_eq_false_iff_ne]; omega
      have e9 : ((n : Int) == 9) = true := by rw [beq_iff_eq]; omega
      clear h
      go_wp2_with fail
      have S := HS3.out
      have hc := tkS_any _ _ _ S.t (by omega)
      have hl0 := Cm.len_S t3
      generalize hV0 : Cm.tS t3 = r at hc hl0
      obtain ⟨v0, q0⟩ := r
      simp only at hc hl0
      refine hc.mono ?_
      rintro e W4 ⟨rfl, hT, ho⟩
      have S' := S.call ho hT
      have k6 := S'.cell.c6
      have z6 := S'.cell.fz 6
      have HQ0 := Lib.hid (S'.put 6 _ (set_frm _ _ _ v0))
      simp only at HQ0
      have HV0' := Lib.hid hV0
      clear hc S hT ho S' hV0
      go_wp2_with fail
      have S := HQ0.out
      have hc := tkS_any _ _ _ S.t (by omega)
      have hl1 := Cm.len_S q0
      generalize hV1 : Cm.tS q0 = r at hc hl1
      obtain ⟨v1, q1⟩ := r
      simp only at hc hl1
      refine hc.mono ?_
      rintro e W5 ⟨rfl, hT, ho⟩
      have S' := S.call ho hT
      have k7 := S'.cell.c7
      have z7 := S'.cell.fz 7
      have HQ1 := Lib.hid (S'.put 7 _ (set_tto _ _ _ v1))
      simp only at HQ1
      have HV1' := Lib.hid hV1
      clear hc S hT ho S' hV1
      go_wp2_with fail
      have S := HQ1.out
      have hc := tkB_any _ _ _ S.t (by omega)
      have hl2 := Cm.len_B q1
      have hb2 := Cm.lt_B q1
      generalize hV2 : Cm.tB q1 = r at hc hl2 hb2
      obtain ⟨v2, q2⟩ := r
      simp only at hc hl2 hb2
      refine hc.mono ?_
      rintro e W6 ⟨rfl, hT, ho⟩
      have S' := S.call ho hT
      have k8 := S'.cell.c8
      have z8 := S'.cell.fz 8
      have HQ2 := Lib.hid (S'.put 8 _ (set_lim _ _ _ v2))
      simp only at HQ2
      have HV2' := Lib.hid hV2
      have hw9 : (v2 : Int) % 256 = (v2 : Int) := by omega
      clear hc S hT ho S' hV2
      go_wp2_with fail
      go_meet
      exact ⟨q2, ⟨n, m1, m2, Cm.e0, Cm.e0, Cm.e0, v0, v1, v2, 0, 0, []⟩, none, 0, HQ2.out, .inl rfl, fun _ _ h => (by cases h), by omega, by rw [Cm.rdBody9 H.out]; exact (Cm.G.S HV0'.out).bind ((Cm.G.S HV1'.out).bind ((Cm.G.B HV2'.out).bind (Cm.G.pure _ _)))⟩
    by_cases h : n = 5
    · have H := Lib.hid h
      have e1 : ((n : Int) == 1) = false := by rw [beq_eq_false_iff_ne]; omega
      have e2 : ((n : Int) == 2) = false := by rw [beq_eq_false_iff_ne]; omega
      have e3 : ((n : Int) == 3) = false := by rw [beq_eq_false_iff_ne]; omega
      have e4 : ((n : Int) == 4) = false := by rw [beq_eq_false_iff_ne]; omega
      have e5 : ((n : Int) == 5) = true := by rw [beq_iff_eq]; omega
      have e6 : ((n : Int) == 6) = false := by rw [beq_eq_false_iff_ne]; omega
      have e7 : ((n : Int) == 7) = false := by rw [beq_eq_false_iff_ne]; omega
      have e8 : ((n : Int) == 8) = false := by rw [beq_eq_false_iff_ne]; omega
      have e9 : ((n : Int) == 9) = false := by rw [beq_eq_false_iff_ne]; omega
      clear h
      obtain ⟨i0, hi, hz0, hz1, hz2⟩ := info_parts Try.infoPart
      go_wp2_with fail
      have S := HS3.out
      have hc := tkB_any _ _ _ S.t (by omega)
      have hl := Cm.len_B t3
      have hb := Cm.lt_B t3
      generalize hV : Cm.tB t3 = r at hc hl hb
      obtain ⟨N, q⟩ := r
      simp only at hc hl hb
      refine hc.mono ?_
      rintro e W4 ⟨rfl, hT, ho⟩
      have HB4 := Lib.hid (BS.mk (S.call ho hT) (World.ownsRow_nil _ _ _ _))
      have HVN := Lib.hid hV
      clear hc S hT ho hV HS3 k0
      go_wp2_with fail
      go_loopw [7, 8] (fun i _ W => ∃ (k : Nat) (t : Cm.Tk) (ps : List Cm.Part) (A : Option Addr) (cap : Nat), k ≤ N ∧ ps.length = k ∧ i = .int .i64 (k : Int) ∧ BS w W g t ⟨n, m1, m2, Cm.e0, Cm.e0, Cm.e0, Cm.e0, Cm.e0, 0, 0, 0, ps⟩ A cap ∧ Cm.PI q N k ps t ∧ t.l.length ≤ 10000000) (fun i _ _ => N - (intOf i).toNat)
      case atStart => exact ⟨0, q, [], none, 0, Nat.zero_le _, rfl, rfl, HB4.out, Cm.PI.start _ _, by omega⟩
      case round =>
        obtain ⟨k, t, ps, A, cap, hk, hps, rfl, hBS, hPI, htl⟩ := hrel
        have u1 := hBS.st.t.k
        by_cases hlt : k < N
        · cases hok : t.ok
          · rw [hok] at u1
            have HX := Lib.hid hps
            clear hps
            go_wp2_with fail
            go_meet
            exact ⟨t, ⟨n, m1, m2, Cm.e0, Cm.e0, Cm.e0, Cm.e0, Cm.e0, 0, 0, 0, ps⟩, A, cap, hBS.st, (own_lies hBS.own).1, fun b off h => by have := (own_lies hBS.own).2 b off h; have := hBS.st.lo; omega, htl, by rw [Cm.rdBody5 H.out]; exact (Cm.G.B HVN.out).bind ((hPI.fin (.inl hok)).bind (Cm.G.pure _ _))⟩
          · rw [hok] at u1
            have hc := tkB_any _ _ _ hBS.st.t (by omega)
            have hl1 := Cm.len_B t
            have hb1 := Cm.lt_B t
            generalize hV1 : Cm.tB t = r at hc hl1 hb1
            obtain ⟨x, t1⟩ := r
            simp only at hc hl1 hb1
            have Hc := Lib.hid hc
            have HBS := Lib.hid hBS
            have HPI := Lib.hid hPI
            have HV1' := Lib.hid hV1
            have Hps := Lib.hid hps
            have Hok := Lib.hid hok
            clear hc hBS hPI hV1 hps hok
            go_wp2_with fail
            refine Hc.out.mono ?_
            rintro e W5 ⟨rfl, hT5, ho5⟩
            have B5 := HBS.out.call ho5 hT5
            have hc := tkS_any _ _ _ (B5.st.t.below (bnew (Below.refl _ W5) (.cells #[.int .u8 (x : Int), .string ⟨#[]⟩, .string ⟨#[]⟩] 91))) (by omega)
            have hl2 := Cm.len_S t1
            generalize hV2 : Cm.tS t1 = r at hc hl2
            obtain ⟨key, t2⟩ := r
            simp only at hc hl2
            have hw9 : (x : Int) % 256 = (x : Int) := by omega
            have Hc2 := Lib.hid hc
            have HB5 := Lib.hid B5
            have HV2' := Lib.hid hV2
            clear hc B5 hV2 hT5 ho5 Hc HBS u1
            go_wp2_with fail
            refine Hc2.out.mono ?_
            rintro e W6 ⟨rfl, hT6, ho6⟩
            have B5 := HB5.out
            have hlo := B5.st.lo
            have hhi5 := B5.st.hi
            have O6 : Only (w.heap.size + 1) W5 W6 := (Only.of (bnew (Below.refl _ _) _)).trans ho6
            have P6 := (ho6.block W5.heap.size (by simp) (by omega)).trans (heap_alloc_new W5 (.cells #[.int .u8 (x : Int), .string ⟨#[]⟩, .string ⟨#[]⟩] 91))
            have hs6 : W5.heap.size < W6.heap.size := by have := ho6.size; simp at this; omega
            obtain ⟨gp, hgp⟩ : ∃ gp, gp = W5.heap.size := ⟨_, rfl⟩
            have y1 : W6.cell? ⟨W5.heap.size, 1, none⟩ = some (.string ⟨#[]⟩) := cell_of_row W6 W5.heap.size 1 _ _ _ P6
            have z1 := frozen_of_row W6 W5.heap.size 1 _ _ P6
            have P7 := heap_setCell_same W6 W5.heap.size 1 _ _ (.string key) P6
            have O7 := O6.high (Nat.le_refl _) 1 (.string key)
            have T7 : TkAt (W6.setCell ⟨W5.heap.size, 1, none⟩ (.string key)) (w.heap.size + 1) t2 := (Below.heap_setCell _ _ _ _ (by simp; omega)).trans hT6
            have y0 : (W6.setCell ⟨W5.heap.size, 1, none⟩ (.string key)).cell? ⟨W5.heap.size, 0, none⟩ = some (.int .u8 (x : Int)) := cell_of_row _ W5.heap.size 0 _ _ _ P7
            have H7 := Lib.hid (And.intro P7 (And.intro O7 T7))
            clear P6 O6 hT6 ho6 P7 O7 T7 B5 Hc2
            by_cases h2 : x = 2
            · have f2 : ((x : Int) == 2) = true := by rw [beq_iff_eq]; omega
              obtain ⟨P7, O7, T7⟩ := H7.out
              have hc := tkS_any _ _ _ T7 (by omega)
              have hl3 := Cm.len_S t2
              generalize hV3 : Cm.tS t2 = r at hc hl3
              obtain ⟨val, t4⟩ := r
              simp only at hc hl3
              have Hc3 := Lib.hid hc
              have HV3' := Lib.hid hV3
              have H2 := Lib.hid h2
              clear hc hV3 P7 O7 T7 h2
              go_wp2_with fail
              refine Hc3.out.mono ?_
              rintro e W8 ⟨rfl, hT8, ho8⟩
              obtain ⟨P7, O7, T7⟩ := H7.out
              have P8 := (ho8.block W5.heap.size (by simp; omega) (by omega)).trans P7
              have O8 := O7.trans ho8
              have y2 : W8.cell? ⟨W5.heap.size, 2, none⟩ = some (.string ⟨#[]⟩) := cell_of_row W8 W5.heap.size 2 _ _ _ P8
              have z2 := frozen_of_row W8 W5.heap.size 2 _ _ P8
              have P9 := heap_setCell_same W8 W5.heap.size 2 _ _ (.string val) P8
              have O9 := O8.high (Nat.le_refl _) 2 (.string val)
              have T9 : TkAt (W8.setCell ⟨W5.heap.size, 2, none⟩ (.string val)) (w.heap.size + 1) t4 := (Below.heap_setCell _ _ _ _ (by simp; omega)).trans hT8
              have hs9 : gp < (W8.setCell ⟨W5.heap.size, 2, none⟩ (.string val)).heap.size := by have := ho8.size; simp at this ⊢; omega
              rw [← hgp] at P9
              have H9' := Lib.hid (And.intro (HB5.out.call O9 T9) (And.intro P9 hs9))
              clear P7 O7 T7 P8 O8 P9 O9 T9 hs9 H7 Hc3 hT8 ho8 y0 y1 z1 hs6
              go_upto_region 29 with (fail)
              rw [← hgp]
              refine forget (fun W => BS w W g t4 ⟨n, m1, m2, Cm.e0, Cm.e0, Cm.e0, Cm.e0, Cm.e0, 0, 0, 0, ps⟩ A cap ∧ W.heap[gp]? = some (.cells #[.int .u8 (x : Int), .string key, .string val] 91 (0, 0)) ∧ gp < W.heap.size) (by rw [hgp]; have := H9'.out; rw [hgp] at this; exact this) ?_
              clear H9' y2 z2 hgp hw9 f2
              have hpk : ps.length ≤ 255 := by rw [Hps.out]; omega
              rintro W9 ⟨hB9, hP9, hgp9⟩
              have p0 : W9.cell? ⟨gp, 0, none⟩ = some (.int .u8 (x : Int)) := cell_of_row W9 gp 0 _ _ _ hP9
              have p1 : W9.cell? ⟨gp, 1, none⟩ = some (.string key) := cell_of_row W9 gp 1 _ _ _ hP9
              have p2 : W9.cell? ⟨gp, 2, none⟩ = some (.string val) := cell_of_row W9 gp 2 _ _ _ hP9
              have c11 := hB9.st.cell.c11
              have hown := hB9.own
              have hhi := hB9.st.hi
              simp only at c11 hown
              have H9 := Lib.hid hB9
              clear hP9 hB9
              go_wp2_with (at_builtin; refine wpList_append_own _ rfl (.tmp 87) (.tmp 89) 28 rfl (g + 1) 91 i0 (.agg #[.int .u8 0, .string ⟨#[]⟩, .string ⟨#[]⟩]) 3 40 Try.underlying28 hi hz0 hz1 hz2 rfl (by decide) (.slice A ps.length cap) _ _ rfl (World.ownsRow.alloc hown _) ⟨W9.heap.size, 0, none⟩ 1 1 [.int .u8 (x : Int), .string key, .string val] rfl rfl (news_new W9 _ _) (fun u hu => by simp at hu; rcases hu with rfl | rfl | rfl <;> rfl) (by simp only [maxLen]; omega) (by omega) (by simp; omega) ?_; intro v' w' ho' hg' _; have hex : ∃ gq capq, v' = .slice (some ⟨gq, 0, none⟩) (ps.length + 1) capq ∧ g + 1 ≤ gq := (by rcases ho'.2 with ⟨_, hn⟩ | ⟨gq, capq, cur, hv, hb, _⟩; (exfalso; omega); exact ⟨gq, capq, hv, hb⟩); obtain ⟨gq, capq, hv, hgq⟩ := hex; subst hv; have S' := (H9.out.st.grow (bnew (Below.refl _ _) _)).grown hg' (fun k e => (hown.lt k e).1); have d11 := S'.cell.c11; have z11 := S'.cell.fz 11; have HS' := Lib.hid S'; have Ho' := Lib.hid ho'; clear S' ho' hg')
              go_roundw
              case rel =>
                refine ⟨k + 1, t4, ps ++ [⟨x, key, val⟩], some ⟨gq, 0, none⟩, capq, by omega, by simp [Hps.out], by go_num, ⟨HS'.out.put 11 _ (set_parts _ _ _ _ _ _ (ps ++ [⟨x, key, val⟩]) (by simp)), ?_⟩, HPI.out.step hlt Hok.out (Cm.G.part2 HV1'.out HV2'.out HV3'.out H2.out), by omega⟩
                have := Ho'.out.kept (set_grown w' g 11 (.slice (some ⟨gq, 0, none⟩) (ps.length + 1) capq)) (.inr (fun e => by have e2 : gq = g := Option.some.inj e; omega))
                simpa [pc, pc1] using this
              case measure => simp [intOf]; omega
            · have f2 : ((x : Int) == 2) = false := by rw [beq_eq_false_iff_ne]; omega
              obtain ⟨P7, O7, T7⟩ := H7.out
              have H2 := Lib.hid h2
              have hs9 : gp < (W6.setCell ⟨W5.heap.size, 1, none⟩ (.string key)).heap.size := by simp; omega
              have H9' := Lib.hid (And.intro (HB5.out.call O7 T7) (And.intro P7 hs9))
              clear P7 O7 T7 hs9 H7 h2
              go_upto_region 29 with (fail)
              rw [← hgp]
              refine forget (fun W => BS w W g t2 ⟨n, m1, m2, Cm.e0, Cm.e0, Cm.e0, Cm.e0, Cm.e0, 0, 0, 0, ps⟩ A cap ∧ W.heap[gp]? = some (.cells #[.int .u8 (x : Int), .string key, .string Cm.e0] 91 (0, 0)) ∧ gp < W.heap.size) (by rw [hgp]; have := H9'.out; rw [hgp] at this; exact this) ?_
              clear H9' y0 y1 z1 hgp hw9 f2 hs6
              have hpk : ps.length ≤ 255 := by rw [Hps.out]; omega
              rintro W9 ⟨hB9, hP9, hgp9⟩
              have p0 : W9.cell? ⟨gp, 0, none⟩ = some (.int .u8 (x : Int)) := cell_of_row W9 gp 0 _ _ _ hP9
              have p1 : W9.cell? ⟨gp, 1, none⟩ = some (.string key) := cell_of_row W9 gp 1 _ _ _ hP9
              have p2 : W9.cell? ⟨gp, 2, none⟩ = some (.string Cm.e0) := cell_of_row W9 gp 2 _ _ _ hP9
              have c11 := hB9.st.cell.c11
              have hown := hB9.own
              have hhi := hB9.st.hi
              simp only at c11 hown
              have H9 := Lib.hid hB9
              clear hP9 hB9
              go_wp2_with (at_builtin; refine wpList_append_own _ rfl (.tmp 87) (.tmp 89) 28 rfl (g + 1) 91 i0 (.agg #[.int .u8 0, .string ⟨#[]⟩, .string ⟨#[]⟩]) 3 40 Try.underlying28 hi hz0 hz1 hz2 rfl (by decide) (.slice A ps.length cap) _ _ rfl (World.ownsRow.alloc hown _) ⟨W9.heap.size, 0, none⟩ 1 1 [.int .u8 (x : Int), .string key, .string Cm.e0] rfl rfl (news_new W9 _ _) (fun u hu => by simp at hu; rcases hu with rfl | rfl | rfl <;> rfl) (by simp only [maxLen]; omega) (by omega) (by simp; omega) ?_; intro v' w' ho' hg' _; have hex : ∃ gq capq, v' = .slice (some ⟨gq, 0, none⟩) (ps.length + 1) capq ∧ g + 1 ≤ gq := (by rcases ho'.2 with ⟨_, hn⟩ | ⟨gq, capq, cur, hv, hb, _⟩; (exfalso; omega); exact ⟨gq, capq, hv, hb⟩); obtain ⟨gq, capq, hv, hgq⟩ := hex; subst hv; have S' := (H9.out.st.grow (bnew (Below.refl _ _) _)).grown hg' (fun k e => (hown.lt k e).1); have d11 := S'.cell.c11; have z11 := S'.cell.fz 11; have HS' := Lib.hid S'; have Ho' := Lib.hid ho'; clear S' ho' hg')
              go_roundw
              case rel =>
                refine ⟨k + 1, t2, ps ++ [⟨x, key, Cm.e0⟩], some ⟨gq, 0, none⟩, capq, by omega, by simp [Hps.out], by go_num, ⟨HS'.out.put 11 _ (set_parts _ _ _ _ _ _ (ps ++ [⟨x, key, Cm.e0⟩]) (by simp)), ?_⟩, HPI.out.step hlt Hok.out (Cm.G.part HV1'.out HV2'.out H2.out), by omega⟩
                have := Ho'.out.kept (set_grown w' g 11 (.slice (some ⟨gq, 0, none⟩) (ps.length + 1) capq)) (.inr (fun e => by have e2 : gq = g := Option.some.inj e; omega))
                simpa [pc, pc1] using this
              case measure => simp [intOf]; omega
        · obtain rfl : k = N := by omega
          have HX := Lib.hid hps
          clear hps
          go_wp2_with fail
          go_meet
          exact ⟨t, ⟨n, m1, m2, Cm.e0, Cm.e0, Cm.e0, Cm.e0, Cm.e0, 0, 0, 0, ps⟩, A, cap, hBS.st, (own_lies hBS.own).1, fun b off h => by have := (own_lies hBS.own).2 b off h; have := hBS.st.lo; omega, htl, by rw [Cm.rdBody5 H.out]; exact (Cm.G.B HVN.out).bind ((hPI.fin (.inr rfl)).bind (Cm.G.pure _ _))⟩
    · have H : Hid (n = 0 ∨ 9 < n) := Lib.hid (by omega)
      have e1 : ((n : Int) == 1) = false := by rw [beq_eq_false_iff_ne]; omega
      have e2 : ((n : Int) == 2) = false := by rw [beq_eq_false_iff_ne]; omega
      have e3 : ((n : Int) == 3) = false := by rw [beq_eq_false_iff_ne]; omega
      have e4 : ((n : Int) == 4) = false := by rw [beq_eq_false_iff_ne]; omega
      have e5 : ((n : Int) == 5) = false := by rw [beq_eq_false_iff_ne]; omega
      have e6 : ((n : Int) == 6) = false := by rw [beq_eq_false_iff_ne]; omega
      have e7 : ((n : Int) == 7) = false := by rw [beq_eq_false_iff_ne]; omega
      have e8 : ((n : Int) == 8) = false := by rw [beq_eq_false_iff_ne]; omega
      have e9 : ((n : Int) == 9) = false := by rw [beq_eq_false_iff_ne]; omega
      go_wp2_with fail
      go_meet
      exact ⟨t3, ⟨n, m1, m2, Cm.e0, Cm.e0, Cm.e0, Cm.e0, Cm.e0, 0, 0, 0, []⟩, none, 0, HS3.out, .inl rfl, fun _ _ h => (by cases h), by omega, by rw [Cm.rdBody0 H.out]; exact Cm.G.pure _ _⟩
  case rest =>
    obtain ⟨t, c, A, cap, S, hL, hAb, hlt4, hG⟩ := hcut
    have hG2 : Cm.G ⟨s.data.toList, true⟩ (Cm.parse s.data.toList) c t := by
      have := Cm.G.parse HB.out HV1.out HV2.out hG
      rw [Ht0.out] at this
      exact this
    have hrd := hG2.read
    have hsh := hG2.shape
    clear hG hG2
    have u0 := S.t.s
    have u1 := S.t.k
    obtain ⟨z0, z1, z2, z3, z4, z5, z6, z7, z8, z9, z10, z11, zz⟩ := cmdAt S.z
    obtain ⟨tl, tok⟩ := t
    simp only at u0 u1 hrd hsh hlt4
    cases tok
    · have hno : Cm.read s.data.toList = none := by rw [hrd]; simp
      have Hno := Lib.hid hno
      have HS := Lib.hid S
      clear hrd hsh hno S
      go_wp2
      have hres := results_ct (P := Try.prog) (fn := Try.f46) rfl
      refine bodyPost_ret (hres _ _ w.heap.size 30 (cmdC Cm.zero none 0) (0, 0) _ rfl (cmdPut (c := Cm.zero) (A := none) (cap := 0) HS.out.z) Try.underlying30 rfl sizeCmd) rfl ⟨none, 0, ?_, ?_, cmdBelow (c := Cm.zero) (A := none) (cap := 0) HS.out.b (Nat.le_refl _)⟩
      · rw [Hno.out]; rfl
      · rw [Hno.out]; exact .inl rfl
    · rcases tl with _ | ⟨x, r⟩
      · have hyes : Cm.read s.data.toList = if Cm.may c = true then some c else none := by rw [hrd]; simp
        obtain ⟨hshape, hbytes⟩ := hsh rfl rfl
        have hm := may_any c hshape.fits A cap wc hL (by have := hshape.len; omega) (by rw [← hbytes, ← Lib.size_eq]; have := hs; omega)
        have y0 : decide ((0 : Int) < ((⟨#[]⟩ : ByteArray).size : Int)) = false := by rfl
        obtain ⟨q0, q1, q2, q3, q4, q5, q6, q7, q8, q9, q10, q11, _⟩ := cmdAt S.c
        have HS := Lib.hid S
        have HL := Lib.hid hL
        clear hrd hsh S hL hshape hbytes hs
        cases hmay : Cm.may c
        · have Hno : Hid (Cm.read s.data.toList = none) := Lib.hid (by rw [hyes, hmay]; rfl)
          rw [hmay] at hm
          have Hm := Lib.hid hm
          clear hyes hm hmay
          go_wp2_with (go_at_call 38; refine Hm.out.mono ?_; rintro e w5 ⟨rfl, hb5⟩; have S5 := HS.out.grow hb5; obtain ⟨z0, z1, z2, z3, z4, z5, z6, z7, z8, z9, z10, z11, zz⟩ := cmdAt S5.z; have HS5 := Lib.hid S5; clear S5)
          have hres := results_ct (P := Try.prog) (fn := Try.f46) rfl
          refine bodyPost_ret (hres _ _ w.heap.size 30 (cmdC Cm.zero none 0) (0, 0) _ rfl (cmdPut (c := Cm.zero) (A := none) (cap := 0) HS5.out.z) Try.underlying30 rfl sizeCmd) rfl ⟨none, 0, ?_, ?_, cmdBelow (c := Cm.zero) (A := none) (cap := 0) HS5.out.b (Nat.le_refl _)⟩
          · rw [Hno.out]; rfl
          · rw [Hno.out]; exact .inl rfl
        · have Hyes : Hid (Cm.read s.data.toList = some c) := Lib.hid (by rw [hyes, hmay]; rfl)
          rw [hmay] at hm
          have Hm := Lib.hid hm
          clear hyes hm hmay
          go_wp2_with (go_at_call 38; refine Hm.out.mono ?_; rintro e w5 ⟨rfl, hb5⟩; have S5 := HS.out.grow hb5; obtain ⟨z0, z1, z2, z3, z4, z5, z6, z7, z8, z9, z10, z11, zz⟩ := cmdAt S5.z; obtain ⟨q0, q1, q2, q3, q4, q5, q6, q7, q8, q9, q10, q11, _⟩ := cmdAt S5.c; have L5 := HL.out.below hb5; have HS5 := Lib.hid S5; have HL5 := Lib.hid L5; clear S5 L5)
          have hres := results_ct (P := Try.prog) (fn := Try.f46) rfl
          refine bodyPost_ret (hres _ _ w.heap.size 30 (cmdC c A cap) (0, 0) _ rfl (cmdPut (c := c) (A := A) (cap := cap) HS5.out.z) Try.underlying30 rfl sizeCmd) rfl ⟨A, cap, ?_, ?_, cmdBelow (c := c) (A := A) (cap := cap) HS5.out.b (Nat.le_refl _)⟩
          · rw [Hyes.out]; rfl
          · rw [Hyes.out]
            exact cmdLies (c := c) (A := A) (cap := cap) HL5.out hAb
      · have hno : Cm.read s.data.toList = none := by rw [hrd]; simp
        have Hno := Lib.hid hno
        have HS := Lib.hid S
        obtain ⟨y, hy⟩ : ∃ y : ByteArray, y = ⟨(x :: r).toArray⟩ := ⟨_, rfl⟩
        rw [← hy] at u0
        have d0 : decide ((0 : Int) < (y.size : Int)) = true := by
          have : y.size = (x :: r).length := by rw [hy, Lib.size_eq]
          simp [this]
        have d1 : decide (0 < y.size) = true := by
          have : y.size = (x :: r).length := by rw [hy, Lib.size_eq]
          simp [this]
        have d2 : 0 < y.size := by simpa using d1
        clear hrd hsh hno S hy
        go_wp2
        have hres := results_ct (P := Try.prog) (fn := Try.f46) rfl
        refine bodyPost_ret (hres _ _ w.heap.size 30 (cmdC Cm.zero none 0) (0, 0) _ rfl (cmdPut (c := Cm.zero) (A := none) (cap := 0) HS.out.z) Try.underlying30 rfl sizeCmd) rfl ⟨none, 0, ?_, ?_, cmdBelow (c := Cm.zero) (A := none) (cap := 0) HS.out.b (Nat.le_refl _)⟩
        · rw [Hno.out]; rfl
        · rw [Hno.out]; exact .inl rfl
end Go.Proofs.Ytlcgjlganmblpaa
