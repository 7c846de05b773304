/-
  wapentakeref05.Read walked. WRITTEN BY wip/tools/gen_mgrefread.py.
-/
import Derived.Test.YtpdahbfjbgcmgaaRMgRefM
import Derived.Test.YtpdahbfjbgcmgaaRMgRef
import Derived.Maps.AppendAt
set_option linter.unusedSimpArgs false
set_option linter.unusedVariables false
namespace Go.Proofs.Ytpdahbfjbgcmgaa
open Go.RowKit
set_option linter.unusedVariables false
theorem Try.infoU64 : (Try.prog.info? 25).map (fun i => (i.zero, i.size, i.bytes)) = some (some (.int .u64 0), 1, 8) := by kernel_rfl
theorem own_bel {W W' : World} {base size n : Nat} {e : TypeId} {v : Value} {xs : List Value} (h : W.ownsRow base e size v n xs) (hb : Below W.heap.size W W') : W'.ownsRow base e size v n xs :=
  h.kept (row := none) ⟨hb.os, hb.tape, hb.output, hb.size, fun k hk _ => hb.block k hk⟩ (by cases v.ownBlock with | none => exact .inl rfl | some k => exact .inr (by simp))
theorem Lies.put {W : World} {g i : Nat} {v : Value} {b : Nat} {vs : List Value} (h : Lies W (some ⟨b, 0, none⟩) vs) (hb : b ≠ g) : Lies (W.setCell ⟨g, i, none⟩ v) (some ⟨b, 0, none⟩) vs := by
  rcases h with h | ⟨b', off, e, hlt, hc⟩
  · exact .inl h
  · cases e
    exact .inr ⟨b, 0, rfl, by simpa using hlt, fun i u hu => (World.cell?_of_block (Below.heap_setCell _ _ _ _ (by simpa using hb))).trans (hc i u hu)⟩
theorem mset_grown (W : World) (g i : Nat) (v : Value) : W.grownBy (W.setCell ⟨g, i, none⟩ v) (some g) :=
  ⟨rfl, rfl, rfl, by simp, fun k _ hne => Below.heap_setCell _ _ _ _ (fun e => hne (by simp at e; rw [e]))⟩
theorem news_at (W : World) (l : List Value) (t : TypeId) : ∀ j u, l[j]? = some u → (W.alloc (.cells l.toArray t)).cell? ((⟨W.heap.size, 0, none⟩ : Addr).add j) = some u := fun j u hu => by
  have e : (⟨W.heap.size, 0, none⟩ : Addr).add j = ⟨W.heap.size, 0 + j, none⟩ := by unfold Addr.add; split <;> simp_all
  rw [e, Nat.zero_add, cell_of_row _ W.heap.size j l.toArray t (0, 0) (heap_alloc_new W _)]
  simpa using hu
theorem wrap64_small (n : Nat) (h : n < 256) : wrap64 (n : Int) = (n : Int) := by unfold wrap64; omega
theorem Lies.putA {W : World} {g i : Nat} {v : Value} {A : Option Addr} {vs : List Value} (h : Lies W A vs) (hb : ∀ b off, A = some ⟨b, off, none⟩ → b ≠ g) : Lies (W.setCell ⟨g, i, none⟩ v) A vs := by
  rcases h with h | ⟨b, off, rfl, hlt, hc⟩
  · exact .inl h
  · exact .inr ⟨b, off, rfl, by simpa using hlt, fun i u hu => (World.cell?_of_block (Below.heap_setCell _ _ _ _ (by simpa using hb b off rfl))).trans (hc i u hu)⟩
theorem ents_put {w W : World} {q gq capq : Nat} {k f t a b c d r m sc : Nat} {o : Bool} {es : List En.E} {e : En.E} {A : Option Addr} {cap : Nat} {y : ByteArray} (h : RdM w W q ((msgC ⟨k, f, t, a, b, c, d, r, o, m, sc, es, y⟩ A cap).setIfInBounds 11 (.slice (some ⟨gq, 0, none⟩) (es.length + 1) capq))) : RdM w W q (msgC ⟨k, f, t, a, b, c, d, r, o, m, sc, es ++ [e], y⟩ (some ⟨gq, 0, none⟩) capq) := by
  rw [show es.length + 1 = (es ++ [e]).length by simp] at h
  exact h
theorem lies_num {W : World} {b : Nat} {ns : List Nat} (h : Lies W (some ⟨b, 0, none⟩) (uc ns)) (i : Nat) (hi : i < ns.length) : W.cell? ⟨b, i, none⟩ = some (.int .u64 (ns[i] : Int)) := by
  rcases h with h | ⟨b', off, e, hlt, hc⟩
  · have := congrArg List.length h
    simp [uc] at this
    subst this
    simp at hi
  · cases e
    have := hc i (.int .u64 (ns[i] : Int)) (by unfold uc; rw [List.getElem?_map, List.getElem?_eq_getElem hi]; rfl)
    rw [Nat.zero_add] at this
    exact this
set_option maxRecDepth 100000 in
set_option maxHeartbeats 8000000 in
theorem mRefRead_any (s : ByteArray) (w : World) (hs : s.size ≤ 100000000) : Calls Try.prog 47 #[.string s] w (RetMs (Mg.read s.data.toList) w) := by
  have hread : Mg.read s.data.toList = Mg.fin (Mg.parse s.data.toList) := rfl
  have HLS := Lib.hid (Lib.size_eq s)
  by_cases h3 : s.size < 3
  · have EE := Lib.hid (Mg.read_few s h3)
    have d1 : decide ((s.size : Int) < 3) = true := by simp; omega
    clear hread h3
    go_enter Try.func47, Try.ntmps47
    go_wp2_with fail
    have hres := results_ct (P := Try.prog) (fn := Try.f47) rfl
    refine bodyPost_ret (hres _ _ w.heap.size 63 (msgC Mg.zero none 0) (0, 0) _ rfl (heap_alloc_new w _) Try.underlying63 rfl sizeMsg) rfl ?_
    rw [EE.out]
    exact ⟨rfl, bnew (Below.refl _ _) _⟩
  have p0 : 0 < s.size := by omega
  have p1 : 1 < s.size := by omega
  have p2 : 2 < s.size := by omega
  have hpar := Mg.parse4 s.data.toList
  rw [Mg.rd3_at s (by omega)] at hpar
  simp only [Option.bind_some] at hpar
  rw [hpar] at hread
  clear hpar
  obtain ⟨x0, hx0⟩ : ∃ x, x = (s[0]'p0).toNat := ⟨_, rfl⟩
  obtain ⟨x1, hx1⟩ : ∃ x, x = (s[1]'p1).toNat := ⟨_, rfl⟩
  obtain ⟨x2, hx2⟩ : ∃ x, x = (s[2]'p2).toNat := ⟨_, rfl⟩
  rw [← hx0, ← hx1, ← hx2] at hread
  have HX := Lib.hid (And.intro hx0 (And.intro hx1 hx2))
  have HRead := Lib.hid hread
  have d1 : decide ((s.size : Int) < 3) = false := by simp; omega
  have i0 : (0 : Int) < (s.size : Int) := by omega
  have i1 : (1 : Int) < (s.size : Int) := by omega
  have i2 : (2 : Int) < (s.size : Int) := by omega
  clear hread hx0 hx1 hx2
  go_enter Try.func47, Try.ntmps47
  go_upto_region 3 with (fail)
  go_region
  go_upto_region 6 with (fail)
  refine forget (fun W => RdM w W (w.heap.size + 1) (msgC ⟨x0, x1, x2, 0, 0, 0, 0, 0, false, 0, 0, [], Cm.e0⟩ none 0)) ?_ ?_
  · rw [HX.out.1, HX.out.2.1, HX.out.2.2]
    exact RdM.drew ⟨bnew (bnew (Below.refl _ _) _) _, by omega, (Below.heap_alloc _ _ _ (by simp)).trans (heap_alloc_new w _), by have := heap_alloc_new (w.alloc (.cells (msgC Mg.zero none 0) 63)) (.cells (msgC ⟨(s[0]'p0).toNat, (s[1]'p1).toNat, (s[2]'p2).toNat, 0, 0, 0, 0, 0, false, 0, 0, [], Cm.e0⟩ none 0) 63); rw [World.size_alloc] at this; exact this⟩
  intro W0 S0
  obtain ⟨q, hq⟩ : ∃ q, q = w.heap.size + 1 := ⟨_, rfl⟩
  rw [← hq] at S0 ⊢
  have HS0 := Lib.hid S0
  obtain ⟨i0, hi, hz0, hz1, hz2⟩ := info_parts Try.infoU64
  clear S0 hq
  go_wp2_with fail
  go_loopw [5, 6, 7] (fun a v i wr => ∃ (k at_ : Nat) (ns : List Nat), at_ ≤ s.size ∧ a = .int .i64 (at_ : Int) ∧ i = .int .i64 (k : Int) ∧ RdM w wr q (msgC ⟨x0, x1, x2, 0, 0, 0, 0, 0, false, 0, 0, [], Cm.e0⟩ none 0) ∧ wr.ownsRow (q + 1) 25 1 v k (uc ns) ∧ Mg.VI (s.data.toList.drop 3) k ns (s.data.toList.drop at_)) (fun _ _ i _ => 5 - (intOf i).toNat)
  case atStart => exact ⟨0, 3, [], by omega, rfl, rfl, HS0.out, World.ownsRow_nil _ _ _ _, Mg.VI.start _⟩
  case round =>
    obtain ⟨k, a, ns, ha, rfl, rfl, S, hown, hV⟩ := hrel
    have HS := Lib.hid S
    have Hown := Lib.hid hown
    have HV := Lib.hid hV
    have hk5 := hV.le
    clear S hown hV HS0
    by_cases hlt : k < 5
    · have hr := fun W => refReadV_any (s.extract a s.size) W (by rw [ByteArray.size_extract]; omega)
      have l1 : (s.extract a s.size).data.toList = s.data.toList.drop a := by rw [ext_drop]
      rw [l1] at hr
      have Hr := Lib.hid hr
      have pa0 : (0 : Int) ≤ (a : Int) := by omega
      have pa1 : (a : Int) ≤ (s.size : Int) := by omega
      clear hr l1
      rcases hv : Nm.readV (s.data.toList.drop a) with _ | ⟨n, j⟩
      · have EE : Hid (Mg.read s.data.toList = none) := Lib.hid (by rw [HRead.out, HV.out.no hlt (by rw [rdV_eq, hv])]; rfl)
        have Hv := Lib.hid hv
        clear hv
        go_wp2_with fail
        refine (Hr.out _).mono ?_
        rw [Hv.out, rv]
        rintro r w1 ⟨rfl, hb1⟩
        have HS1 := Lib.hid (HS.out.grow hb1)
        clear hb1
        go_upto_region 11 with (fail)
        refine forget (fun W => Below w.heap.size w W ∧ W.heap[w.heap.size]? = some (.cells (msgC Mg.zero none 0) 63 (0, 0))) ⟨HS1.out.b, HS1.out.z⟩ ?_
        rintro W7 ⟨hb7, hz7⟩
        have H7 := Lib.hid (And.intro hb7 hz7)
        obtain ⟨g, hg⟩ : ∃ g, g = w.heap.size := ⟨_, rfl⟩
        rw [← hg] at H7 hz7 ⊢
        have HG := Lib.hid hg
        obtain ⟨n0, n1, n2, n3, n4, n5, n6, n7, n8, n9, n10, n11, n12, _⟩ := msgAt hz7
        have v0 := frozen_of_row W7 g 0 _ _ hz7
        have v1 := frozen_of_row W7 g 1 _ _ hz7
        have v2 := frozen_of_row W7 g 2 _ _ hz7
        have v3 := frozen_of_row W7 g 3 _ _ hz7
        have v4 := frozen_of_row W7 g 4 _ _ hz7
        have v5 := frozen_of_row W7 g 5 _ _ hz7
        have v6 := frozen_of_row W7 g 6 _ _ hz7
        have v7 := frozen_of_row W7 g 7 _ _ hz7
        have v8 := frozen_of_row W7 g 8 _ _ hz7
        have v9 := frozen_of_row W7 g 9 _ _ hz7
        have v10 := frozen_of_row W7 g 10 _ _ hz7
        have v11 := frozen_of_row W7 g 11 _ _ hz7
        have v12 := frozen_of_row W7 g 12 _ _ hz7
        clear hb7 hz7 hg
        go_wp2_with fail
        have hres := results_ct (P := Try.prog) (fn := Try.f47) rfl
        refine bodyPost_ret (hres _ _ g 63 (msgC Mg.zero none 0) (0, 0) _ rfl (msgPut (m := Mg.zero) (A := none) (cap := 0) H7.out.2) Try.underlying63 rfl sizeMsg) rfl ?_
        rw [EE.out]
        exact ⟨rfl, by rw [← HG.out]; exact msgBelow (m := Mg.zero) (A := none) (cap := 0) H7.out.1 (Nat.le_refl _)⟩
      · obtain ⟨_, hj1, hj2, _⟩ := Nm.readV_le hv
        rw [List.length_drop, ← HLS.out] at hj2
        have hrd : Cm.rdV (s.data.toList.drop a) = some (n, s.data.toList.drop (a + j)) := by rw [rdV_eq, hv]; simp [List.drop_drop]
        obtain ⟨a2, ha2⟩ : ∃ a2, a2 = a + j := ⟨_, rfl⟩
        have ha2I : (a : Int) + (j : Int) = (a2 : Int) := by omega
        have ha2l : a2 ≤ s.size := by omega
        rw [← ha2] at hrd
        have HV2 := Lib.hid (HV.out.step hlt hrd)
        have Hv := Lib.hid hv
        have Ha2 := Lib.hid ha2I
        clear hv hrd ha2 ha2I hj1 hj2
        go_wp2_with fail
        refine (Hr.out _).mono ?_
        rw [Hv.out, rv]
        rintro r w1 ⟨rfl, hb1⟩
        have HS1 := Lib.hid (HS.out.grow hb1)
        have Hown1 := Lib.hid (own_bel Hown.out hb1)
        have hsz1 : q + 1 ≤ w1.heap.size := HS1.out.lt
        clear hb1 Hown HS Hr
        go_wp2_with (at_builtin; refine wpList_append_own _ rfl (.tmp 47) (.tmp 49) 104 rfl (q + 1) 25 i0 (.int .u64 0) 1 8 Try.underlying104 hi hz0 hz1 hz2 rfl (by decide) _ _ _ rfl (World.ownsRow.alloc Hown1.out _) ⟨w1.heap.size, 0, none⟩ 1 1 [_] rfl rfl (cell_one_new _ _ _) (fun u hu => by simp at hu; subst hu; rfl) (by simp only [maxLen]; omega) (by omega) (by simp; omega) ?_; intro v' w' ho' hg' _; have HS' := Lib.hid ((HS1.out.grow (bnew (Below.refl _ _) _)).grown hg' (fun k e => (Hown1.out.lt k e).1)); have Ho' := Lib.hid ho'; clear ho' hg')
        rw [Ha2.out]
        go_roundw
        case rel => exact ⟨k + 1, a2, ns ++ [n], ha2l, rfl, by go_num, HS'.out, by have := Ho'.out; simpa [uc] using this, HV2.out⟩
        case measure => simp [intOf]; omega
    · obtain rfl : k = 5 := by omega
      obtain ⟨e3, e4, e5, e6, e7, rfl, hrd5⟩ := HV.out.fin
      have hread := HRead.out
      rw [hrd5] at hread
      simp only [Option.bind_some] at hread
      have HRead2 := Lib.hid hread
      obtain ⟨gn, cn, rfl, hgn, hcells⟩ := own_liesN (ns := [e3, e4, e5, e6, e7]) Hown.out (by simp)
      have HN : Hid (Lies wr (some ⟨gn, 0, none⟩) (uc [e3, e4, e5, e6, e7])) := Lib.hid (.inr ⟨gn, 0, rfl, (Hown.out.lt gn rfl).2, fun i u hu => by
        have hi5 : i < 5 := by
          have := (List.getElem?_eq_some_iff.1 hu).1
          simpa [uc] using this
        rw [Nat.zero_add, hcells i hi5]
        rw [← hu]
        unfold uc
        rw [List.getElem?_map, List.getElem?_eq_getElem hi5]; rfl⟩)
      have hgq : gn ≠ q := by omega
      clear hrd5 hread hcells Hown hlt hk5 HV HRead hi hz0 hz1 hz2
      have hrow := HS.out.r
      have k0 := (msgAt hrow).c3
      have z0 := (msgAt hrow).fz 3
      have hcell : wr.cell? ⟨gn, 0, none⟩ = some (.int .u64 (e3 : Int)) := lies_num HN.out 0 (by simp)
      clear hrow
      go_upto_region 15 with (fail)
      refine forget (fun W => RdM w W q (msgC ⟨x0, x1, x2, e3, 0, 0, 0, 0, false, 0, 0, [], Cm.e0⟩ none 0) ∧ Lies W (some ⟨gn, 0, none⟩) (uc [e3, e4, e5, e6, e7])) ⟨HS.out.put 3 (.int .u64 (e3 : Int)), HN.out.put hgq⟩ ?_
      clear k0 z0 hcell HS HN
      clear wr
      rintro wr ⟨S, L⟩
      have HS := Lib.hid S
      have HN := Lib.hid L
      clear S L
      have hrow := HS.out.r
      have k1 := (msgAt hrow).c4
      have z1 := (msgAt hrow).fz 4
      have hcell : wr.cell? ⟨gn, 1, none⟩ = some (.int .u64 (e4 : Int)) := lies_num HN.out 1 (by simp)
      clear hrow
      go_upto_region 16 with (fail)
      refine forget (fun W => RdM w W q (msgC ⟨x0, x1, x2, e3, e4, 0, 0, 0, false, 0, 0, [], Cm.e0⟩ none 0) ∧ Lies W (some ⟨gn, 0, none⟩) (uc [e3, e4, e5, e6, e7])) ⟨HS.out.put 4 (.int .u64 (e4 : Int)), HN.out.put hgq⟩ ?_
      clear k1 z1 hcell HS HN
      clear wr
      rintro wr ⟨S, L⟩
      have HS := Lib.hid S
      have HN := Lib.hid L
      clear S L
      have hrow := HS.out.r
      have k2 := (msgAt hrow).c5
      have z2 := (msgAt hrow).fz 5
      have hcell : wr.cell? ⟨gn, 2, none⟩ = some (.int .u64 (e5 : Int)) := lies_num HN.out 2 (by simp)
      clear hrow
      go_upto_region 17 with (fail)
      refine forget (fun W => RdM w W q (msgC ⟨x0, x1, x2, e3, e4, e5, 0, 0, false, 0, 0, [], Cm.e0⟩ none 0) ∧ Lies W (some ⟨gn, 0, none⟩) (uc [e3, e4, e5, e6, e7])) ⟨HS.out.put 5 (.int .u64 (e5 : Int)), HN.out.put hgq⟩ ?_
      clear k2 z2 hcell HS HN
      clear wr
      rintro wr ⟨S, L⟩
      have HS := Lib.hid S
      have HN := Lib.hid L
      clear S L
      have hrow := HS.out.r
      have k3 := (msgAt hrow).c6
      have z3 := (msgAt hrow).fz 6
      have hcell : wr.cell? ⟨gn, 3, none⟩ = some (.int .u64 (e6 : Int)) := lies_num HN.out 3 (by simp)
      clear hrow
      go_upto_region 18 with (fail)
      refine forget (fun W => RdM w W q (msgC ⟨x0, x1, x2, e3, e4, e5, e6, 0, false, 0, 0, [], Cm.e0⟩ none 0) ∧ Lies W (some ⟨gn, 0, none⟩) (uc [e3, e4, e5, e6, e7])) ⟨HS.out.put 6 (.int .u64 (e6 : Int)), HN.out.put hgq⟩ ?_
      clear k3 z3 hcell HS HN
      clear wr
      rintro wr ⟨S, L⟩
      have HS := Lib.hid S
      have HN := Lib.hid L
      clear S L
      have hrow := HS.out.r
      have k4 := (msgAt hrow).c7
      have z4 := (msgAt hrow).fz 7
      have hcell : wr.cell? ⟨gn, 4, none⟩ = some (.int .u64 (e7 : Int)) := lies_num HN.out 4 (by simp)
      clear hrow
      go_upto_region 19 with (fail)
      refine forget (fun W => RdM w W q (msgC ⟨x0, x1, x2, e3, e4, e5, e6, e7, false, 0, 0, [], Cm.e0⟩ none 0) ∧ Lies W (some ⟨gn, 0, none⟩) (uc [e3, e4, e5, e6, e7])) ⟨HS.out.put 7 (.int .u64 (e7 : Int)), HN.out.put hgq⟩ ?_
      clear k4 z4 hcell HS HN
      clear wr
      rintro wr ⟨S, L⟩
      have HS := Lib.hid S
      have HN := Lib.hid L
      clear S L
      clear HN hgq hgn
      by_cases h4 : s.size < a + 4
      · have EE : Hid (Mg.read s.data.toList = none) := Lib.hid (by rw [HRead2.out, Mg.rd4_few _ (by rw [List.length_drop, ← HLS.out]; omega)]; rfl)
        have d4 : decide ((s.size : Int) < (a : Int) + 4) = true := by simp; omega
        have d4' : ((s.size : Int) < (a : Int) + 4) = True := by simp; omega
        clear h4 HRead2
        go_upto_region 20 with (fail)
        refine forget (fun W => Below w.heap.size w W ∧ W.heap[w.heap.size]? = some (.cells (msgC Mg.zero none 0) 63 (0, 0))) ⟨HS.out.b, HS.out.z⟩ ?_
        rintro W7 ⟨hb7, hz7⟩
        have H7 := Lib.hid (And.intro hb7 hz7)
        obtain ⟨g, hg⟩ : ∃ g, g = w.heap.size := ⟨_, rfl⟩
        rw [← hg] at H7 hz7 ⊢
        have HG := Lib.hid hg
        obtain ⟨n0, n1, n2, n3, n4, n5, n6, n7, n8, n9, n10, n11, n12, _⟩ := msgAt hz7
        have v0 := frozen_of_row W7 g 0 _ _ hz7
        have v1 := frozen_of_row W7 g 1 _ _ hz7
        have v2 := frozen_of_row W7 g 2 _ _ hz7
        have v3 := frozen_of_row W7 g 3 _ _ hz7
        have v4 := frozen_of_row W7 g 4 _ _ hz7
        have v5 := frozen_of_row W7 g 5 _ _ hz7
        have v6 := frozen_of_row W7 g 6 _ _ hz7
        have v7 := frozen_of_row W7 g 7 _ _ hz7
        have v8 := frozen_of_row W7 g 8 _ _ hz7
        have v9 := frozen_of_row W7 g 9 _ _ hz7
        have v10 := frozen_of_row W7 g 10 _ _ hz7
        have v11 := frozen_of_row W7 g 11 _ _ hz7
        have v12 := frozen_of_row W7 g 12 _ _ hz7
        clear hb7 hz7 hg
        go_wp2_with fail
        have hres := results_ct (P := Try.prog) (fn := Try.f47) rfl
        refine bodyPost_ret (hres _ _ g 63 (msgC Mg.zero none 0) (0, 0) _ rfl (msgPut (m := Mg.zero) (A := none) (cap := 0) H7.out.2) Try.underlying63 rfl sizeMsg) rfl ?_
        rw [EE.out]
        exact ⟨rfl, by rw [← HG.out]; exact msgBelow (m := Mg.zero) (A := none) (cap := 0) H7.out.1 (Nat.le_refl _)⟩
      have b0 : a < s.size := by omega
      have b1 : a + 1 < s.size := by omega
      have b2 : a + 2 < s.size := by omega
      have b3 : a + 3 < s.size := by omega
      have hread := HRead2.out
      rw [Mg.rd4_at s a (by omega)] at hread
      obtain ⟨y8, hy8⟩ : ∃ y, y = (s[a]'b0).toNat := ⟨_, rfl⟩
      obtain ⟨y9, hy9⟩ : ∃ y, y = (s[a + 1]'b1).toNat := ⟨_, rfl⟩
      obtain ⟨y10, hy10⟩ : ∃ y, y = (s[a + 2]'b2).toNat := ⟨_, rfl⟩
      obtain ⟨many, hy11⟩ : ∃ y, y = (s[a + 3]'b3).toNat := ⟨_, rfl⟩
      have hm256 : many < 256 := by rw [hy11]; exact (s[a + 3]'b3).toNat_lt
      rw [← hy8, ← hy9, ← hy10, ← hy11] at hread
      have HY := Lib.hid (And.intro hy8 (And.intro hy9 (And.intro hy10 hy11)))
      have d4 : decide ((s.size : Int) < (a : Int) + 4) = false := by simp; omega
      have d4' : ((s.size : Int) < (a : Int) + 4) = False := by simp; omega
      have pa0 : (0 : Int) ≤ (a : Int) := by omega
      have pa1 : (a : Int) < (s.size : Int) := by omega
      clear hy8 hy9 hy10 hy11 h4 HRead2
      by_cases h8 : y8 ≤ 1
      · skip
        rw [if_pos h8] at hread
        simp only [Option.bind_some] at hread
        have HRead3 := Lib.hid hread
        have f1 : decide (1 < (s[a]'b0).toNat) = false := by rw [← HY.out.1]; simp; omega
        have f2 : ((1 : Int) < ((s[a]'b0).toNat : Int)) = False := by rw [← HY.out.1]; simp; omega
        have f3 : decide ((1 : Int) < ((s[a]'b0).toNat : Int)) = false := by rw [← HY.out.1]; simp; omega
        clear hread
        obtain ⟨o8, ho8⟩ : ∃ o : Bool, o = (y8 == 1) := ⟨_, rfl⟩
        have hb8 : (((s[a]'b0).toNat : Int) == 1) = o8 := by rw [ho8, ← HY.out.1, Bool.eq_iff_iff, beq_iff_eq, beq_iff_eq]; omega
        have Ho8 := Lib.hid ho8
        have q0 : (0 : Int) ≤ (a : Int) + 1 := by omega
        have q1 : (a : Int) + 1 < (s.size : Int) := by omega
        have q2 : (0 : Int) ≤ (a : Int) + 2 := by omega
        have q3 : (a : Int) + 2 < (s.size : Int) := by omega
        have q4 : (0 : Int) ≤ (a : Int) + 3 := by omega
        have q5 : (a : Int) + 3 < (s.size : Int) := by omega
        clear ho8
        have hrow := HS.out.r
        have k8 := (msgAt hrow).c8
        have z8 := (msgAt hrow).fz 8
        have k9 := (msgAt hrow).c9
        have z9 := (msgAt hrow).fz 9
        have k10 := (msgAt hrow).c10
        have z10 := (msgAt hrow).fz 10
        clear hrow
        go_upto_region 26 with (fail)
        have hw11 : wrap64 (((s[a + 3]'b3).toNat : Nat) : Int) = (many : Int) := by rw [HY.out.2.2.2]; exact wrap64_small _ (by rw [← HY.out.2.2.2]; omega)
        rw [hw11]
        obtain ⟨a4, ha4⟩ : ∃ a4, a4 = a + 4 := ⟨_, rfl⟩
        have ha4I : (a : Int) + 4 = (a4 : Int) := by omega
        rw [ha4I]
        rw [← ha4] at HRead3
        have ha4l : a4 ≤ s.size := by omega
        refine forget (fun W => RdM w W q (msgC ⟨x0, x1, x2, e3, e4, e5, e6, e7, o8, y9, y10, [], Cm.e0⟩ none 0)) ?_ ?_
        · have := ((HS.out.put 8 (.bool o8)).put 9 (.int .u8 (y9 : Int))).put 10 (.int .u8 (y10 : Int))
          rw [← HY.out.2.1, ← HY.out.2.2.1]
          exact this
        rw [← Ho8.out] at HRead3
        clear k8 z8 k9 z9 k10 z10 HS ha4I hw11 ha4 f1 f2 f3 hb8 d4 d4' h8 HY Ho8
        clear wr
        intro wr S
        have HS := Lib.hid S
        obtain ⟨i1, hi, hz0, hz1, hz2⟩ := info_parts Try.infoEnt
        clear S
        go_wp2_with fail
        go_loopw [5, 12] (fun v i wr => ∃ (k at_ : Nat) (es : List En.E) (A : Option Addr) (cap : Nat), at_ ≤ s.size ∧ v = .int .i64 (at_ : Int) ∧ i = .int .i64 (k : Int) ∧ k ≤ many ∧ RdM w wr q (msgC ⟨x0, x1, x2, e3, e4, e5, e6, e7, o8, y9, y10, es, Cm.e0⟩ A cap) ∧ wr.ownsRow (q + 1) 65 13 (.slice A es.length cap) es.length (ec es) ∧ Mg.EI many (s.data.toList.drop a4) k es (s.data.toList.drop at_)) (fun _ i _ => many - (intOf i).toNat)
        case atStart => exact ⟨0, a4, [], none, 0, ha4l, rfl, rfl, Nat.zero_le _, HS.out, World.ownsRow_nil _ _ _ _, Mg.EI.start _ _⟩
        case round =>
          obtain ⟨k, at_, es, A, cap, hat, rfl, rfl, hkm, S, hown, hE⟩ := hrel
          clear HS
          have HS := Lib.hid S
          have Hown := Lib.hid hown
          have HE := Lib.hid hE
          clear S hown hE
          have hr := fun W => refReadS_any (s.extract at_ s.size) W (by rw [ByteArray.size_extract]; omega)
          have l1 : (s.extract at_ s.size).data.toList = s.data.toList.drop at_ := by rw [ext_drop]
          rw [l1] at hr
          have Hr := Lib.hid hr
          have pb0 : (0 : Int) ≤ (at_ : Int) := by omega
          have pb1 : (at_ : Int) ≤ (s.size : Int) := by omega
          clear hr l1
          by_cases hlt : k < many
          · rcases hv : Nm.readS (s.data.toList.drop at_) with _ | ⟨y, n⟩
            · have EE : Hid (Mg.read s.data.toList = none) := Lib.hid (by rw [HRead3.out, HE.out.no hlt (Mg.rd1E_no1 (by rw [rdS_eq2, hv]))]; rfl)
              have Hv := Lib.hid hv
              clear hv
              go_wp2_with fail
              refine (Hr.out _).mono ?_
              rw [Hv.out, rs]
              rintro r w1 ⟨rfl, hb1⟩
              have HS1 := Lib.hid (HS.out.grow hb1)
              clear hb1
              go_upto_region 31 with (fail)
              refine forget (fun W => Below w.heap.size w W ∧ W.heap[w.heap.size]? = some (.cells (msgC Mg.zero none 0) 63 (0, 0))) ⟨HS1.out.b, HS1.out.z⟩ ?_
              rintro W7 ⟨hb7, hz7⟩
              have H7 := Lib.hid (And.intro hb7 hz7)
              obtain ⟨g, hg⟩ : ∃ g, g = w.heap.size := ⟨_, rfl⟩
              rw [← hg] at H7 hz7 ⊢
              have HG := Lib.hid hg
              obtain ⟨n0, n1, n2, n3, n4, n5, n6, n7, n8, n9, n10, n11, n12, _⟩ := msgAt hz7
              have v0 := frozen_of_row W7 g 0 _ _ hz7
              have v1 := frozen_of_row W7 g 1 _ _ hz7
              have v2 := frozen_of_row W7 g 2 _ _ hz7
              have v3 := frozen_of_row W7 g 3 _ _ hz7
              have v4 := frozen_of_row W7 g 4 _ _ hz7
              have v5 := frozen_of_row W7 g 5 _ _ hz7
              have v6 := frozen_of_row W7 g 6 _ _ hz7
              have v7 := frozen_of_row W7 g 7 _ _ hz7
              have v8 := frozen_of_row W7 g 8 _ _ hz7
              have v9 := frozen_of_row W7 g 9 _ _ hz7
              have v10 := frozen_of_row W7 g 10 _ _ hz7
              have v11 := frozen_of_row W7 g 11 _ _ hz7
              have v12 := frozen_of_row W7 g 12 _ _ hz7
              clear hb7 hz7 hg
              go_wp2_with fail
              have hres := results_ct (P := Try.prog) (fn := Try.f47) rfl
              refine bodyPost_ret (hres _ _ g 63 (msgC Mg.zero none 0) (0, 0) _ rfl (msgPut (m := Mg.zero) (A := none) (cap := 0) H7.out.2) Try.underlying63 rfl sizeMsg) rfl ?_
              rw [EE.out]
              exact ⟨rfl, by rw [← HG.out]; exact msgBelow (m := Mg.zero) (A := none) (cap := 0) H7.out.1 (Nat.le_refl _)⟩
            · have hn := readS_le hv
              rw [List.length_drop, ← HLS.out] at hn
              obtain ⟨yb, hyb⟩ : ∃ yb : ByteArray, yb = ⟨y.toArray⟩ := ⟨_, rfl⟩
              obtain ⟨at2, hat2⟩ : ∃ a2, a2 = at_ + n := ⟨_, rfl⟩
              have hat2I : (at_ : Int) + (n : Int) = (at2 : Int) := by omega
              have hat2l : at2 ≤ s.size := by omega
              have hrd : Cm.rdS (s.data.toList.drop at_) = some (yb, s.data.toList.drop at2) := by rw [rdS_eq2, hv, hyb, hat2]; simp [List.drop_drop]
              have hyz : yb.size ≤ 100000000 := by
                obtain ⟨_, h2⟩ := (Cm.rdS_iff _ _ _).1 hrd
                have := congrArg List.length h2
                rw [List.length_drop, ← HLS.out, List.length_append] at this
                unfold Cm.txt row at this
                rw [List.length_append, ← Lib.size_eq] at this
                omega
              have hq := fun W => refRead_any yb W hyz
              have Hv := Lib.hid hv
              have Hyb := Lib.hid hyb
              have Hat2 := Lib.hid hat2I
              have hn2 : n ≤ 100000000 := by omega
              clear hv hyb hat2 hat2I hyz hn
              rcases hre : En.read yb.data.toList with _ | e
              · have EE : Hid (Mg.read s.data.toList = none) := Lib.hid (by rw [HRead3.out, HE.out.no hlt (Mg.rd1E_no2 hrd hre)]; rfl)
                rw [hre] at hq
                have Hq := Lib.hid hq
                have hps := storeEnt (entC En.zero) rfl (entF _).one
                clear hq hre hrd
                go_wp2_with fail
                refine (Hr.out _).mono ?_
                rw [Hv.out, rs, ← Hyb.out]
                rintro r w1 ⟨rfl, hb1⟩
                have HS1 := Lib.hid (HS.out.grow hb1)
                clear hb1 HS
                go_wp2_with fail
                refine (Hq.out _).mono ?_
                rintro r w2 ⟨rfl, hb2⟩
                obtain ⟨C, hC⟩ : ∃ C, C = entC En.zero := ⟨_, rfl⟩
                have hzz : (reV none : Value) = .tuple #[.agg C, .bool false] := by rw [hC]; rfl
                have FC := entF En.zero
                rw [← hC] at hps FC
                rw [hzz]
                have hsz := FC.size
                have HS2 := Lib.hid ((HS1.out.grow hb2).grow (bnew (Below.refl _ _) (.cells C 65)))
                clear hC hb2 hzz FC HS1
                go_upto_region 34 with (fail)
                refine forget (fun W => Below w.heap.size w W ∧ W.heap[w.heap.size]? = some (.cells (msgC Mg.zero none 0) 63 (0, 0))) ⟨HS2.out.b, HS2.out.z⟩ ?_
                rintro W7 ⟨hb7, hz7⟩
                have H7 := Lib.hid (And.intro hb7 hz7)
                obtain ⟨g, hg⟩ : ∃ g, g = w.heap.size := ⟨_, rfl⟩
                rw [← hg] at H7 hz7 ⊢
                have HG := Lib.hid hg
                obtain ⟨n0, n1, n2, n3, n4, n5, n6, n7, n8, n9, n10, n11, n12, _⟩ := msgAt hz7
                have v0 := frozen_of_row W7 g 0 _ _ hz7
                have v1 := frozen_of_row W7 g 1 _ _ hz7
                have v2 := frozen_of_row W7 g 2 _ _ hz7
                have v3 := frozen_of_row W7 g 3 _ _ hz7
                have v4 := frozen_of_row W7 g 4 _ _ hz7
                have v5 := frozen_of_row W7 g 5 _ _ hz7
                have v6 := frozen_of_row W7 g 6 _ _ hz7
                have v7 := frozen_of_row W7 g 7 _ _ hz7
                have v8 := frozen_of_row W7 g 8 _ _ hz7
                have v9 := frozen_of_row W7 g 9 _ _ hz7
                have v10 := frozen_of_row W7 g 10 _ _ hz7
                have v11 := frozen_of_row W7 g 11 _ _ hz7
                have v12 := frozen_of_row W7 g 12 _ _ hz7
                clear hb7 hz7 hg
                go_wp2_with fail
                have hres := results_ct (P := Try.prog) (fn := Try.f47) rfl
                refine bodyPost_ret (hres _ _ g 63 (msgC Mg.zero none 0) (0, 0) _ rfl (msgPut (m := Mg.zero) (A := none) (cap := 0) H7.out.2) Try.underlying63 rfl sizeMsg) rfl ?_
                rw [EE.out]
                exact ⟨rfl, by rw [← HG.out]; exact msgBelow (m := Mg.zero) (A := none) (cap := 0) H7.out.1 (Nat.le_refl _)⟩
              · have HE2 := Lib.hid (HE.out.step hlt (Mg.rd1E_some hrd hre))
                rw [hre] at hq
                have Hq := Lib.hid hq
                have hps := storeEnt (entC e) rfl (entF _).one
                clear hq hre hrd
                go_wp2_with fail
                refine (Hr.out _).mono ?_
                rw [Hv.out, rs, ← Hyb.out]
                rintro r w1 ⟨rfl, hb1⟩
                have HS1 := Lib.hid (HS.out.grow hb1)
                have Ho1 := Lib.hid (own_bel Hown.out hb1)
                clear hb1 HS Hown
                go_wp2_with fail
                refine (Hq.out _).mono ?_
                rintro r w2 ⟨rfl, hb2⟩
                obtain ⟨C, hC⟩ : ∃ C, C = entC e := ⟨_, rfl⟩
                have hzz : (reV (some e) : Value) = .tuple #[.agg C, .bool true] := by rw [hC]; rfl
                have FC := entF e
                rw [← hC] at hps FC
                rw [hzz]
                have hsz := FC.size
                have HC := Lib.hid hC
                have HS2 := Lib.hid ((HS1.out.grow hb2).grow (bnew (Below.refl _ _) (.cells C 65)))
                have Ho2 := Lib.hid (World.ownsRow.alloc (own_bel Ho1.out hb2) (.cells C 65))
                clear hC hb2 hzz FC HS1 Ho1
                go_upto_region 35 with (fail)
                refine forget (fun W => RdM w W q (msgC ⟨x0, x1, x2, e3, e4, e5, e6, e7, o8, y9, y10, es, Cm.e0⟩ A cap) ∧ W.ownsRow (q + 1) 65 13 (.slice A es.length cap) es.length (ec es) ∧ W.heap[w2.heap.size]? = some (.cells (entC e) 65 (0, 0))) ⟨HS2.out, Ho2.out, by rw [← HC.out]; exact heap_alloc_new w2 _⟩ ?_
                clear HS2 Ho2 hps hsz HC
                obtain ⟨ge, hge⟩ : ∃ g, g = w2.heap.size := ⟨_, rfl⟩
                rw [← hge]
                clear hge w2
                rintro w2 ⟨S, hown, hent⟩
                have HS2 := Lib.hid S
                have Ho2 := Lib.hid hown
                have c11 := (msgAt S.r).c11
                have hql := S.lt
                obtain ⟨p0, p1, p2, p3, p4, p5, p6, p7, p8, p9, p10, p11, p12, _⟩ := entAt hent
                have hpk : es.length ≤ 255 := by rw [HE.out.len]; omega
                clear S hown hent
                go_wp2_with (at_builtin; refine wpList_append_own _ rfl (.tmp 133) (.tmp 135) 61 rfl (q + 1) 65 i1 (.agg (entC En.zero)) 13 48 Try.underlying61 hi hz0 hz1 hz2 rfl (by decide) (.slice A es.length cap) _ _ rfl (World.ownsRow.alloc Ho2.out _) ⟨w2.heap.size, 0, none⟩ 1 1 (ec1 e) rfl rfl (news_at w2 (ec1 e) _) (ec1_one e) (by simp only [maxLen]; omega) (by omega) (by simp; omega) ?_; intro v' w' ho' hg' _; have hex : ∃ gq capq, v' = .slice (some ⟨gq, 0, none⟩) (es.length + 1) capq ∧ q + 1 ≤ gq := (by rcases ho'.2 with ⟨_, hn⟩ | ⟨gq, capq, cur, hv, hb, _⟩; (exfalso; omega); exact ⟨gq, capq, hv, hb⟩); obtain ⟨gq, capq, hv, hgq⟩ := hex; subst hv; have S' := (HS2.out.grow (bnew (Below.refl _ _) _)).grown hg' (fun k e => (Ho2.out.lt k e).1); have d11 := (msgAt S'.r).c11; have z11 := (msgAt S'.r).fz 11; have HS' := Lib.hid S'; have Ho' := Lib.hid ho'; clear S' ho' hg')
                rw [Hat2.out]
                refine ⟨⟨u3, _, _, ⟨k + 1, at2, hat2l, rfl, rfl, by omega, es ++ [e], some ⟨gq, 0, none⟩, capq, ?_, ?_, HE2.out⟩, rfl, rfl, by go_num⟩, ?_⟩
                · have := HS'.out.put 11 (.slice (some ⟨gq, 0, none⟩) (es.length + 1) capq)
                  exact ents_put this
                · have := Ho'.out.kept (mset_grown w' q 11 (.slice (some ⟨gq, 0, none⟩) (es.length + 1) capq)) (.inr (fun e => by have e2 : gq = q := Option.some.inj e; omega))
                  rw [ec_append]
                  simpa [ec, List.length_append] using this
                · simp [intOf]; omega
          · obtain rfl : k = many := by omega
            have hrd4 := HE.out.fin
            have hread := HRead3.out
            rw [hrd4] at hread
            simp only [Option.bind_some] at hread
            have HRead4 := Lib.hid hread
            have hL := own_liesE Hown.out
            have HL := Lib.hid hL
            clear hread hrd4 hL Hown hlt hkm HE HRead3
            rcases hv : Nm.readS (s.data.toList.drop at_) with _ | ⟨y, n⟩
            · have EE : Hid (Mg.read s.data.toList = none) := Lib.hid (by rw [HRead4.out, rdS_eq2, hv]; rfl)
              have Hv := Lib.hid hv
              clear hv HRead4
              go_wp2_with fail
              refine (Hr.out _).mono ?_
              rw [Hv.out, rs]
              rintro r w1 ⟨rfl, hb1⟩
              have HS1 := Lib.hid (HS.out.grow hb1)
              clear hb1
              go_upto_region 39 with (fail)
              refine forget (fun W => Below w.heap.size w W ∧ W.heap[w.heap.size]? = some (.cells (msgC Mg.zero none 0) 63 (0, 0))) ⟨HS1.out.b, HS1.out.z⟩ ?_
              rintro W7 ⟨hb7, hz7⟩
              have H7 := Lib.hid (And.intro hb7 hz7)
              obtain ⟨g, hg⟩ : ∃ g, g = w.heap.size := ⟨_, rfl⟩
              rw [← hg] at H7 hz7 ⊢
              have HG := Lib.hid hg
              obtain ⟨n0, n1, n2, n3, n4, n5, n6, n7, n8, n9, n10, n11, n12, _⟩ := msgAt hz7
              have v0 := frozen_of_row W7 g 0 _ _ hz7
              have v1 := frozen_of_row W7 g 1 _ _ hz7
              have v2 := frozen_of_row W7 g 2 _ _ hz7
              have v3 := frozen_of_row W7 g 3 _ _ hz7
              have v4 := frozen_of_row W7 g 4 _ _ hz7
              have v5 := frozen_of_row W7 g 5 _ _ hz7
              have v6 := frozen_of_row W7 g 6 _ _ hz7
              have v7 := frozen_of_row W7 g 7 _ _ hz7
              have v8 := frozen_of_row W7 g 8 _ _ hz7
              have v9 := frozen_of_row W7 g 9 _ _ hz7
              have v10 := frozen_of_row W7 g 10 _ _ hz7
              have v11 := frozen_of_row W7 g 11 _ _ hz7
              have v12 := frozen_of_row W7 g 12 _ _ hz7
              clear hb7 hz7 hg
              go_wp2_with fail
              have hres := results_ct (P := Try.prog) (fn := Try.f47) rfl
              refine bodyPost_ret (hres _ _ g 63 (msgC Mg.zero none 0) (0, 0) _ rfl (msgPut (m := Mg.zero) (A := none) (cap := 0) H7.out.2) Try.underlying63 rfl sizeMsg) rfl ?_
              rw [EE.out]
              exact ⟨rfl, by rw [← HG.out]; exact msgBelow (m := Mg.zero) (A := none) (cap := 0) H7.out.1 (Nat.le_refl _)⟩
            have hn := readS_le hv
            rw [List.length_drop, ← HLS.out] at hn
            obtain ⟨yb, hyb⟩ : ∃ yb : ByteArray, yb = ⟨y.toArray⟩ := ⟨_, rfl⟩
            have hrd : Cm.rdS (s.data.toList.drop at_) = some (yb, s.data.toList.drop (at_ + n)) := by rw [rdS_eq2, hv, hyb]; simp [List.drop_drop]
            have hread := HRead4.out
            rw [hrd] at hread
            simp only [Option.bind_some] at hread
            obtain ⟨m, hm⟩ : ∃ m : Mg.M, m = ⟨x0, x1, x2, e3, e4, e5, e6, e7, o8, y9, y10, es, yb⟩ := ⟨_, rfl⟩
            have hme : m.ents = es := by rw [hm]
            rw [← hm] at hread
            have HR := Lib.hid (fun W (hL : Lies W A (ec es)) => mRefRight_any m A cap W (by rw [hme]; exact hL))
            unfold RetTr msgC at HR
            have hput : ∀ W, RdM w W q (msgC ⟨x0, x1, x2, e3, e4, e5, e6, e7, o8, y9, y10, es, Cm.e0⟩ A cap) → RdM w (W.setCell ⟨q, 12, none⟩ (.string yb)) q (msgC m A cap) := fun W h => by
              have := h.put 12 (.string yb)
              rw [hm]; exact this
            have Hput := Lib.hid hput
            have Hme := Lib.hid hme
            have Hv := Lib.hid hv
            have Hyb := Lib.hid hyb
            clear hv hyb hrd HRead4 hm hme hput
            by_cases hr0 : at_ + n = s.size
            · skip
              have em : (((at_ : Int) + (n : Int)) != (s.size : Int)) = false := by simp; omega
              rw [hr0] at hread
              have hnil : s.data.toList.drop s.size = [] := List.drop_of_length_le (by rw [← HLS.out]; omega)
              rw [hnil] at hread
              have hfin : Mg.read s.data.toList = if Mg.may m = true then some m else none := by rw [hread]; unfold Mg.fin; simp
              have HF := Lib.hid hfin
              clear hread hnil hfin hr0
              go_wp2_with fail
              refine (Hr.out _).mono ?_
              rw [Hv.out, rs, ← Hyb.out]
              rintro r w1 ⟨rfl, hb1⟩
              have HS1 := Lib.hid (HS.out.grow hb1)
              have HB1 := Lib.hid hb1
              have c12 := (msgAt HS1.out.r).c12
              have z12 := (msgAt HS1.out.r).fz 12
              clear hb1 HS Hr
              go_upto_region 41 with (fail)
              refine forget (fun W => RdM w W q (msgC m A cap) ∧ Lies W A (ec es)) ⟨Hput.out _ HS1.out, (HL.out.1.below HB1.out).putA (fun b off h => by have := HL.out.2 b off h; omega)⟩ ?_
              clear HS1 HB1 c12 z12
              rintro W6 ⟨S6, hb6⟩
              have H6 := Lib.hid (And.intro S6 hb6)
              obtain ⟨m0, m1, m2, m3, m4, m5, m6, m7, m8, m9, m10, m11, m12, _⟩ := msgAt S6.r
              clear S6 hb6
              rcases hmay : Mg.may m with _ | _
              · have EE : Hid (Mg.read s.data.toList = none) := Lib.hid (by rw [HF.out, hmay]; rfl)
                have HM := Lib.hid hmay
                clear hmay HF
                go_wp2_with fail
                refine (HR.out _ H6.out.2).mono ?_
                rw [HM.out]
                rintro rr w6 ⟨rfl, hb7⟩
                have HS7 := Lib.hid (H6.out.1.grow hb7)
                clear hb7
                go_upto_region 42 with (fail)
                refine forget (fun W => Below w.heap.size w W ∧ W.heap[w.heap.size]? = some (.cells (msgC Mg.zero none 0) 63 (0, 0))) ⟨HS7.out.b, HS7.out.z⟩ ?_
                rintro W7 ⟨hb7, hz7⟩
                have H7 := Lib.hid (And.intro hb7 hz7)
                obtain ⟨g, hg⟩ : ∃ g, g = w.heap.size := ⟨_, rfl⟩
                rw [← hg] at H7 hz7 ⊢
                have HG := Lib.hid hg
                obtain ⟨n0, n1, n2, n3, n4, n5, n6, n7, n8, n9, n10, n11, n12, _⟩ := msgAt hz7
                have v0 := frozen_of_row W7 g 0 _ _ hz7
                have v1 := frozen_of_row W7 g 1 _ _ hz7
                have v2 := frozen_of_row W7 g 2 _ _ hz7
                have v3 := frozen_of_row W7 g 3 _ _ hz7
                have v4 := frozen_of_row W7 g 4 _ _ hz7
                have v5 := frozen_of_row W7 g 5 _ _ hz7
                have v6 := frozen_of_row W7 g 6 _ _ hz7
                have v7 := frozen_of_row W7 g 7 _ _ hz7
                have v8 := frozen_of_row W7 g 8 _ _ hz7
                have v9 := frozen_of_row W7 g 9 _ _ hz7
                have v10 := frozen_of_row W7 g 10 _ _ hz7
                have v11 := frozen_of_row W7 g 11 _ _ hz7
                have v12 := frozen_of_row W7 g 12 _ _ hz7
                clear hb7 hz7 hg
                go_wp2_with fail
                have hres := results_ct (P := Try.prog) (fn := Try.f47) rfl
                refine bodyPost_ret (hres _ _ g 63 (msgC Mg.zero none 0) (0, 0) _ rfl (msgPut (m := Mg.zero) (A := none) (cap := 0) H7.out.2) Try.underlying63 rfl sizeMsg) rfl ?_
                rw [EE.out]
                exact ⟨rfl, by rw [← HG.out]; exact msgBelow (m := Mg.zero) (A := none) (cap := 0) H7.out.1 (Nat.le_refl _)⟩
              · have EE : Hid (Mg.read s.data.toList = some m) := Lib.hid (by rw [HF.out, hmay]; rfl)
                have HM := Lib.hid hmay
                clear hmay HF
                go_wp2_with fail
                refine (HR.out _ H6.out.2).mono ?_
                rw [HM.out]
                rintro rr w6 ⟨rfl, hb7⟩
                have HS7 := Lib.hid (And.intro (H6.out.1.grow hb7) (H6.out.2.below hb7))
                clear hb7 m0 m1 m2 m3 m4 m5 m6 m7 m8 m9 m10 m11 m12
                go_upto_region 43 with (fail)
                refine forget (fun W => RdM w W q (msgC m A cap) ∧ Lies W A (ec es)) HS7.out ?_
                rintro W8 ⟨S8, hb8⟩
                have H8 := Lib.hid (And.intro S8 hb8)
                obtain ⟨m0, m1, m2, m3, m4, m5, m6, m7, m8, m9, m10, m11, m12, _⟩ := msgAt S8.r
                obtain ⟨g, hg⟩ : ∃ g, g = w.heap.size := ⟨_, rfl⟩
                have hz8 := S8.z
                rw [← hg] at hz8 ⊢
                have HG := Lib.hid hg
                obtain ⟨n0, n1, n2, n3, n4, n5, n6, n7, n8, n9, n10, n11, n12, _⟩ := msgAt hz8
                have v0 := frozen_of_row W8 g 0 _ _ hz8
                have v1 := frozen_of_row W8 g 1 _ _ hz8
                have v2 := frozen_of_row W8 g 2 _ _ hz8
                have v3 := frozen_of_row W8 g 3 _ _ hz8
                have v4 := frozen_of_row W8 g 4 _ _ hz8
                have v5 := frozen_of_row W8 g 5 _ _ hz8
                have v6 := frozen_of_row W8 g 6 _ _ hz8
                have v7 := frozen_of_row W8 g 7 _ _ hz8
                have v8 := frozen_of_row W8 g 8 _ _ hz8
                have v9 := frozen_of_row W8 g 9 _ _ hz8
                have v10 := frozen_of_row W8 g 10 _ _ hz8
                have v11 := frozen_of_row W8 g 11 _ _ hz8
                have v12 := frozen_of_row W8 g 12 _ _ hz8
                have Hz8 := Lib.hid hz8
                have HL8 := Lib.hid (And.intro hb8 HL.out.2)
                clear S8 hb8 hg hz8
                go_wp2_with fail
                have hres := results_ct (P := Try.prog) (fn := Try.f47) rfl
                refine bodyPost_ret (hres _ _ g 63 (msgC m A cap) (0, 0) _ rfl (msgPut (m := m) (A := A) (cap := cap) Hz8.out) Try.underlying63 rfl sizeMsg) rfl ?_
                rw [EE.out]
                refine ⟨A, cap, rfl, ?_, by rw [← HG.out]; exact msgBelow (m := m) (A := A) (cap := cap) (by rw [HG.out]; exact H8.out.1.b) (Nat.le_refl _)⟩
                have hLe : Lies W8 A (ec m.ents) := by rw [Hme.out]; exact HL8.out.1
                have hA := HL8.out.2
                have hlo := H8.out.1.lo
                exact msgLies (m := m) (A := A) (cap := cap) hLe (fun b off h => by have := hA b off h; have := HG.out; omega)
            · have em : (((at_ : Int) + (n : Int)) != (s.size : Int)) = true := by simp; omega
              have hne : s.data.toList.drop (at_ + n) ≠ [] := fun h => by
                have := congrArg List.length h
                rw [List.length_drop, ← HLS.out] at this
                simp at this; omega
              have EE : Hid (Mg.read s.data.toList = none) := Lib.hid (by rw [hread]; unfold Mg.fin; simp [hne])
              clear hread hne hr0
              go_wp2_with fail
              refine (Hr.out _).mono ?_
              rw [Hv.out, rs, ← Hyb.out]
              rintro r w1 ⟨rfl, hb1⟩
              have HS1 := Lib.hid (HS.out.grow hb1)
              clear hb1 HS
              go_upto_region 39 with (fail)
              refine forget (fun W => Below w.heap.size w W ∧ W.heap[w.heap.size]? = some (.cells (msgC Mg.zero none 0) 63 (0, 0))) ⟨HS1.out.b, HS1.out.z⟩ ?_
              rintro W7 ⟨hb7, hz7⟩
              have H7 := Lib.hid (And.intro hb7 hz7)
              obtain ⟨g, hg⟩ : ∃ g, g = w.heap.size := ⟨_, rfl⟩
              rw [← hg] at H7 hz7 ⊢
              have HG := Lib.hid hg
              obtain ⟨n0, n1, n2, n3, n4, n5, n6, n7, n8, n9, n10, n11, n12, _⟩ := msgAt hz7
              have v0 := frozen_of_row W7 g 0 _ _ hz7
              have v1 := frozen_of_row W7 g 1 _ _ hz7
              have v2 := frozen_of_row W7 g 2 _ _ hz7
              have v3 := frozen_of_row W7 g 3 _ _ hz7
              have v4 := frozen_of_row W7 g 4 _ _ hz7
              have v5 := frozen_of_row W7 g 5 _ _ hz7
              have v6 := frozen_of_row W7 g 6 _ _ hz7
              have v7 := frozen_of_row W7 g 7 _ _ hz7
              have v8 := frozen_of_row W7 g 8 _ _ hz7
              have v9 := frozen_of_row W7 g 9 _ _ hz7
              have v10 := frozen_of_row W7 g 10 _ _ hz7
              have v11 := frozen_of_row W7 g 11 _ _ hz7
              have v12 := frozen_of_row W7 g 12 _ _ hz7
              clear hb7 hz7 hg
              go_wp2_with fail
              have hres := results_ct (P := Try.prog) (fn := Try.f47) rfl
              refine bodyPost_ret (hres _ _ g 63 (msgC Mg.zero none 0) (0, 0) _ rfl (msgPut (m := Mg.zero) (A := none) (cap := 0) H7.out.2) Try.underlying63 rfl sizeMsg) rfl ?_
              rw [EE.out]
              exact ⟨rfl, by rw [← HG.out]; exact msgBelow (m := Mg.zero) (A := none) (cap := 0) H7.out.1 (Nat.le_refl _)⟩
      · rw [if_neg h8] at hread
        have EE : Hid (Mg.read s.data.toList = none) := Lib.hid (by rw [hread]; rfl)
        have f1 : decide (1 < (s[a]'b0).toNat) = true := by rw [← HY.out.1]; simp; omega
        have f2 : ((1 : Int) < ((s[a]'b0).toNat : Int)) = True := by rw [← HY.out.1]; simp; omega
        have f3 : decide ((1 : Int) < ((s[a]'b0).toNat : Int)) = true := by rw [← HY.out.1]; simp; omega
        clear hread
        go_upto_region 20 with (fail)
        refine forget (fun W => Below w.heap.size w W ∧ W.heap[w.heap.size]? = some (.cells (msgC Mg.zero none 0) 63 (0, 0))) ⟨HS.out.b, HS.out.z⟩ ?_
        rintro W7 ⟨hb7, hz7⟩
        have H7 := Lib.hid (And.intro hb7 hz7)
        obtain ⟨g, hg⟩ : ∃ g, g = w.heap.size := ⟨_, rfl⟩
        rw [← hg] at H7 hz7 ⊢
        have HG := Lib.hid hg
        obtain ⟨n0, n1, n2, n3, n4, n5, n6, n7, n8, n9, n10, n11, n12, _⟩ := msgAt hz7
        have v0 := frozen_of_row W7 g 0 _ _ hz7
        have v1 := frozen_of_row W7 g 1 _ _ hz7
        have v2 := frozen_of_row W7 g 2 _ _ hz7
        have v3 := frozen_of_row W7 g 3 _ _ hz7
        have v4 := frozen_of_row W7 g 4 _ _ hz7
        have v5 := frozen_of_row W7 g 5 _ _ hz7
        have v6 := frozen_of_row W7 g 6 _ _ hz7
        have v7 := frozen_of_row W7 g 7 _ _ hz7
        have v8 := frozen_of_row W7 g 8 _ _ hz7
        have v9 := frozen_of_row W7 g 9 _ _ hz7
        have v10 := frozen_of_row W7 g 10 _ _ hz7
        have v11 := frozen_of_row W7 g 11 _ _ hz7
        have v12 := frozen_of_row W7 g 12 _ _ hz7
        clear hb7 hz7 hg
        go_wp2_with fail
        have hres := results_ct (P := Try.prog) (fn := Try.f47) rfl
        refine bodyPost_ret (hres _ _ g 63 (msgC Mg.zero none 0) (0, 0) _ rfl (msgPut (m := Mg.zero) (A := none) (cap := 0) H7.out.2) Try.underlying63 rfl sizeMsg) rfl ?_
        rw [EE.out]
        exact ⟨rfl, by rw [← HG.out]; exact msgBelow (m := Mg.zero) (A := none) (cap := 0) H7.out.1 (Nat.le_refl _)⟩
end Go.Proofs.Ytpdahbfjbgcmgaa
