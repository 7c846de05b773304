/-
  Rename walked.
  Append walked.
-/
import Derived.Test.YtjhbpcecdhdnoaaGreatDoorRStLaidZ
set_option linter.unusedSimpArgs false
set_option linter.unusedVariables false
namespace Go.Proofs.YtjhbpcecdhdnoaaGreatDoor
open Go.RowKit
theorem now_put2 {W W' : World} {p mb : Nat} {hs : List Hm} {d d' : Dk.D} {S S0 : Nat → Prop} {g' : Hm} (h : DkS W p mb hs d) (h0 : ∀ k, Bks p mb hs k → S0 k) (h' : DkS W' p mb (hput hs g') d') (hk : Ko S W W') (hS : ∀ k, k < W.heap.size → S k → S0 k) (hb : ∀ k, g'.Blk k → S0 k ∨ W.heap.size ≤ k) : Now DmAt W W' p S0 d' := by
  refine ⟨⟨_, DmAt.mk h', fun k hk => ?_⟩, hk.mono hS⟩
  rcases hk with rfl | rfl | ⟨x, hx, hxk⟩
  · exact .inl (h0 _ (.inl rfl))
  · exact .inl (h0 _ (.inr (.inl rfl)))
  · rcases mem_hput h.rises hx with rfl | ⟨hx, _⟩
    · exact hb k hxk
    · exact .inl (h0 _ (.inr (.inr ⟨x, hx, hxk⟩)))
theorem Now.trans1 {W w1 w2 : World} {p : Nat} {S0 T : Nat → Prop} {d' : Dk.D} (hk : Ko T W w1) (hT : ∀ k, T k → S0 k) (h : Now DmAt w1 w2 p S0 d') : Now DmAt W w2 p S0 d' :=
  Now.trans (hk.mono fun k _ hk => hT k hk) (fun _ hk => .inl hk) h
set_option maxRecDepth 100000 in
set_option maxHeartbeats 1000000 in
theorem dRename_any (W : World) (p : Nat) (S : Nat → Prop) (d : Dk.D) (n m : ByteArray) (h : DmAt W p S d) (hn : n.size ≤ 100000000) (hm : Dk.load d + m.size ≤ 100000000) :
    Calls Tryz.prog 107 #[.pointer (some ⟨p, 0, none⟩), .string n, .string m] W fun e w' => e = .returned (.int .i64 (eno (Dk.rename d n m).1)) ∧ Now DmAt W w' p S (Dk.rename d n m).2 := by
  have hA := h
  obtain ⟨mb, hs, hS, h0⟩ := h
  obtain ⟨R, hR⟩ : ∃ R, R = Dk.rename d n m := ⟨_, rfl⟩
  rw [← hR]
  have HP := Lib.hid (power_any W p mb _ _ hS.head)
  have HI := Lib.hid (fun W => isName_any W m (by omega))
  cases ho : d.off
  case true =>
    have HR : Hid (R.1 = .down ∧ Now DmAt W W p S R.2) := Lib.hid (by
      have : R = (.down, d) := by rw [hR, Dk.rename, if_pos ho]
      rw [this]; exact ⟨rfl, hA.same (Below.refl _ _)⟩)
    rw [ho, if_pos rfl] at HP
    clear hA hS h0 hR ho hn hm HI
    go_enter Tryz.func107, Tryz.ntmps107
    go_wp2_with fail
    refine (HP.out).mono ?_
    rintro e w1 ⟨rfl, rfl⟩
    go_wp2_with fail
    go_ret
    exact ⟨by rw [HR.out.1]; rfl, HR.out.2⟩
  have hof : ¬ d.off = true := by rw [ho]; decide
  rw [ho, if_neg (by decide)] at HP
  by_cases hok : Dk.okName m
  case neg =>
    have HR : Hid (R.1 = .arg ∧ Now DmAt W W p S R.2) := Lib.hid (by
      have : R = (.arg, d) := by rw [hR, Dk.rename, if_neg hof, if_pos hok]
      rw [this]; exact ⟨rfl, hA.same (Below.refl _ _)⟩)
    rw [decide_eq_false hok] at HI
    clear hA hS h0 hR ho hn hm hok hof
    go_enter Tryz.func107, Tryz.ntmps107
    go_wp2_with fail
    refine (HP.out).mono ?_
    rintro e w1 ⟨rfl, rfl⟩
    go_wp2_with fail
    refine (HI.out _).mono ?_
    rintro e w1 ⟨rfl, rfl⟩
    go_wp2_with fail
    go_ret
    exact ⟨by rw [HR.out.1]; rfl, HR.out.2⟩
  rw [decide_eq_true hok] at HI
  have hnk : ¬ ¬ Dk.okName m := fun h => h hok
  rcases hfnd : hfind hs n with _ | g
  · have HR : Hid (R.1 = .none ∧ Now DmAt W W p S R.2) := Lib.hid (by
      have : R = (.none, d) := by rw [hR, Dk.rename, if_neg hof, if_neg hnk, find_d hS, hfnd]; rfl
      rw [this]; exact ⟨rfl, hA.same (Below.refl _ _)⟩)
    have H := Lib.hid (dbegin_none W p mb hs d hS ho n hn hfnd)
    clear hA hS h0 hR ho hn hof hfnd hm hok hnk
    go_enter Tryz.func107, Tryz.ntmps107
    go_wp2_with fail
    refine (HP.out).mono ?_
    rintro e w1 ⟨rfl, rfl⟩
    go_wp2_with fail
    refine (HI.out _).mono ?_
    rintro e w1 ⟨rfl, rfl⟩
    go_wp2_with fail
    refine (H.out).mono ?_
    rintro e w1 ⟨rfl, rfl⟩
    go_wp2_with fail
    go_ret
    exact ⟨by rw [HR.out.1]; rfl, HR.out.2⟩
  obtain ⟨hg, hgn⟩ := hfind_some hfnd
  have hfd : Dk.find d.files n = some g.f := by rw [find_d hS, hfnd]; rfl
  have H := Lib.hid (dbegin_some W p mb hs d hS ho n hn g hfnd)
  by_cases h1 : d.left = 1
  · have HR : Hid (R.1 = .down ∧ ∀ w1, HAt w1 p mb (d.left - 1) (decide (d.left = 1)) → Ko (atB p) W w1 → Now DmAt W w1 p S R.2) := Lib.hid (by
      have : R = (.down, ⟨d.files, true, 0⟩) := by rw [hR, Dk.rename, if_neg hof, if_neg hnk, hfd, goes_one h1]; rfl
      rw [this]
      refine ⟨rfl, fun w1 hw hk => ?_⟩
      rw [h1, decide_eq_true rfl] at hw
      exact hA.heads hS.head hk hw (by omega))
    have hv : goesV d.left = 7 := by unfold goesV; rw [if_pos h1]
    rw [hv] at H
    clear hA hS h0 hR ho hn hof hfnd hv hg hgn hfd hm hok hnk
    go_enter Tryz.func107, Tryz.ntmps107
    go_wp2_with fail
    refine (HP.out).mono ?_
    rintro e w1 ⟨rfl, rfl⟩
    go_wp2_with fail
    refine (HI.out _).mono ?_
    rintro e w1 ⟨rfl, rfl⟩
    go_wp2_with fail
    refine (H.out).mono ?_
    rintro e w1 ⟨rfl, hw, hk⟩
    have HN := Lib.hid (HR.out.2 w1 hw hk)
    clear hw hk
    go_wp2_with fail
    go_ret
    exact ⟨by rw [HR.out.1]; rfl, HN.out⟩
  · have hinv := Dk.inv_rename hS.inv n m
    have hld := Dk.load_rename hS.inv n m
    have hSl := hS.load
    have hinv1 : Dk.Inv ⟨Dk.drop d.files n, false, d.left - 1⟩ := ⟨Dk.rises_drop hS.inv.rises n, fun f hf => hS.inv.ok f (Dk.mem_drop hf)⟩
    have hld1 : Dk.load ⟨Dk.drop d.files n, false, d.left - 1⟩ ≤ Dk.load d := by
      have := Dk.fsLoad_drop d.files n
      show Dk.fsLoad (Dk.drop d.files n) ≤ Dk.fsLoad d.files
      omega
    have HR : Hid (R.1 = .ok ∧ ∀ w1, HAt w1 p mb (d.left - 1) (decide (d.left = 1)) → Ko (atB p) W w1 → w1.cell? ⟨p, 0, none⟩ = some (.map (some mb)) ∧ ∃ w2, (Builtin.delete_ #[118, 9] 0 #[.map (some mb), .string n]).run Tryz.prog w1 = .ok (.tuple #[]) w2 ∧
        HAt w2 p mb (d.left - 1) false ∧ SMap Tryz.prog 9 w2 mb ((hdrop hs n).map pair) ∧ ((hdrop hs n).map pair).length < maxLen ∧ ∀ w3, SMap Tryz.prog 9 w3 mb (Sm.put ((hdrop hs n).map pair) m (.pointer (some ⟨g.b, 0, none⟩))) → Ko (atB mb) w2 w3 → Now DmAt W w3 p S R.2) := Lib.hid (by
      have e : R = (.ok, ⟨Dk.put (Dk.drop d.files n) { g.f with name := m }, false, d.left - 1⟩) := by rw [hR, Dk.rename, if_neg hof, if_neg hnk, hfd, goes_ne h1]; show (Dk.E.ok, (⟨Dk.put (Dk.drop d.files n) { g.f with name := m }, d.off, d.left - 1⟩ : Dk.D)) = _; rw [ho]
      rw [← hR, e] at hinv hld
      rw [e]
      refine ⟨rfl, fun w1 hw hk => ⟨hw.c0, ?_⟩⟩
      rw [decide_eq_false h1] at hw
      have hlf := hS.left
      have hS1 := hS.heads hk hw (by omega)
      obtain ⟨w2, e1, e2, e3, e4⟩ := SMap.drop (ty := 0) (e := 140) us Tryz.underlying118 hS1.map n (by simp only [maxLen]; omega)
      have hk2 : Ko (atB mb) w1 w2 := ⟨e3.os, e3.tape, e3.output, e3.size, fun k hk hne => e3.block k hk fun he => hne (by injection he)⟩
      rw [← hdrop_p] at e2
      have hw2 : HAt w2 p mb (d.left - 1) false := (hk2.block p hw.lt hS1.pm).trans hw
      have hS2 := hS1.dropped (d' := ⟨Dk.drop d.files n, false, d.left - 1⟩) n hk2 (fun k hk => .inr hk) hw2 e2 rfl hinv1 (by omega) (by show d.left - 1 ≤ _; omega)
      have hf2 : FAt w2 g := (hS1.ok g hg).ko hk2 fun k hk hm2 => hS1.mapb hg (by rw [← show k = mb from hm2]; exact hk)
      refine ⟨w2, e1, hw2, e2, ?_, fun w3 hm3 hk3 => ?_⟩
      · have h9 : (hdrop hs n).length ≤ hs.length := List.length_filter_le _ _
        have h8 : hs.length ≤ Dk.load d := by
          have := Dk.fsLoad_len d.files
          rw [← hS.fs, List.length_map] at this
          rw [show Dk.load d = Dk.fsLoad (hs.map (·.f)) by rw [hS.fs]; rfl]; exact this
        rw [List.length_map]
        simp only [maxLen]; omega
      · have hf3' : FAt w3 g := hf2.ko hk3 fun k hk hm2 => by
          obtain ⟨cur, T, hc, _⟩ := hf2.obj hk
          obtain ⟨es, c, hc2⟩ := SMap.obj e2
          rw [show k = mb from hm2, hc2] at hc
          cases hc
        have hf3 : FAt w3 { g with f := { g.f with name := m } } := ⟨hf3'.row, hf3'.cont, hf3'.unsy⟩
        have hS3 := hS2.put (g' := { g with f := { g.f with name := m } }) (d' := ⟨Dk.put (Dk.drop d.files n) { g.f with name := m }, false, d.left - 1⟩) hk3 (fun k hk => .inr (.inl hk)) ((hk3.block p hw2.lt hS2.pm).trans hw2) (by rw [hput_p]; exact hm3) hf3 (fun k hk x hx hne hxk => by
          obtain ⟨hx1, hx2⟩ := mem_hdrop hx
          exact hx2 ((hS.sep x hx1 g hg k hxk hk).trans hgn)) rfl hinv (Nat.le_trans hld hm) (by show d.left - 1 ≤ _; omega)
        refine now_burn h0 hk (Now.trans1 hk2 (fun k hk => (h0 k).2 (.inr (.inl hk))) (now_put2 hS2 (fun k hk => (h0 k).2 ?_) hS3 hk3 (fun k _ hk => (h0 k).2 (.inr (.inl hk))) fun k hk => .inl ((h0 k).2 (.inr (.inr ⟨g, hg, hk⟩)))))
        rcases hk with hk | hk | ⟨x, hx, hk⟩
        · exact .inl hk
        · exact .inr (.inl hk)
        · exact .inr (.inr ⟨x, (mem_hdrop hx).1, hk⟩))
    have hv : goesV d.left = 0 := by unfold goesV; rw [if_neg h1]
    rw [hv] at H
    have Hm := Lib.hid (show m.size ≤ 100000000 by omega)
    clear hA hS h0 hR ho hn hof hfnd hv hg hgn hfd hinv hld hSl h1 hinv1 hld1 hm hok hnk
    go_enter Tryz.func107, Tryz.ntmps107
    go_wp2_with fail
    refine (HP.out).mono ?_
    rintro e w1 ⟨rfl, rfl⟩
    go_wp2_with fail
    refine (HI.out _).mono ?_
    rintro e w1 ⟨rfl, rfl⟩
    go_wp2_with fail
    refine (H.out).mono ?_
    rintro e w1 ⟨rfl, hw, hk⟩
    obtain ⟨k0, w2, hrun, hw2, hm2, hl2, hN⟩ := HR.out.2 w1 hw hk
    have HU := Lib.hid (dput_any w2 p mb _ _ _ hw2 hm2 hl2 m Hm.out g.b)
    have HN := Lib.hid hN
    clear hw hk hN hw2 hm2 hl2
    go_wp2_with fail
    refine (HU.out).mono ?_
    rintro e w3 ⟨rfl, hm3, hk3⟩
    have HN2 := Lib.hid (HN.out w3 hm3 hk3)
    clear hm3 hk3
    go_wp2_with fail
    go_ret
    exact ⟨by rw [HR.out.1]; rfl, HN2.out⟩
end Go.Proofs.YtjhbpcecdhdnoaaGreatDoor
namespace Go.Proofs.YtjhbpcecdhdnoaaGreatDoor
open Go.RowKit
def fl0 (n : ByteArray) : Dk.Fl := ⟨n, [], 0, false, Dk.e0⟩
def hm0 (n : ByteArray) (b : Nat) : Hm := ⟨fl0 n, b, none, 0, none, 0⟩
theorem fat_new (W : World) (n : ByteArray) : FAt (W.alloc (.cells #[.slice none 0 0, .int .i64 0, .slice none 0 0, .bool false] 143)) (hm0 n W.heap.size) :=
  ⟨heap_alloc_new W _, ⟨rfl, .inl ⟨rfl, rfl⟩⟩, ⟨rfl, .inl ⟨rfl, rfl⟩⟩⟩
set_option maxRecDepth 100000 in
set_option maxHeartbeats 1000000 in
theorem dAppend_any (W : World) (p : Nat) (S : Nat → Prop) (d : Dk.D) (n r : ByteArray) (h : DmAt W p S d) (hl : Dk.load d + 2 + n.size + r.size ≤ 100000000) :
    Calls Tryz.prog 28 #[.pointer (some ⟨p, 0, none⟩), .string n, .string r] W fun e w' => e = .returned (.int .i64 (eno (Dk.append d n r).1)) ∧ Now DmAt W w' p S (Dk.append d n r).2 := by
  have hA := h
  obtain ⟨mb, hs, hS, h0⟩ := h
  obtain ⟨R, hR⟩ : ∃ R, R = Dk.append d n r := ⟨_, rfl⟩
  rw [← hR]
  have HP := Lib.hid (power_any W p mb _ _ hS.head)
  have HI := Lib.hid (fun W => isName_any W n (by omega))
  cases ho : d.off
  case true =>
    have HR : Hid (R.1 = .down ∧ Now DmAt W W p S R.2) := Lib.hid (by
      have : R = (.down, d) := by rw [hR, Dk.append, if_pos ho]
      rw [this]; exact ⟨rfl, hA.same (Below.refl _ _)⟩)
    rw [ho, if_pos rfl] at HP
    clear hA hS h0 hR ho hl HI
    go_enter Tryz.func28, Tryz.ntmps28
    go_wp2_with fail
    refine (HP.out).mono ?_
    rintro e w1 ⟨rfl, rfl⟩
    go_wp2_with fail
    go_ret
    exact ⟨by rw [HR.out.1]; rfl, HR.out.2⟩
  have hof : ¬ d.off = true := by rw [ho]; decide
  rw [ho, if_neg (by decide)] at HP
  by_cases hok : Dk.okName n
  case neg =>
    have HR : Hid (R.1 = .arg ∧ Now DmAt W W p S R.2) := Lib.hid (by
      have : R = (.arg, d) := by rw [hR, Dk.append, if_neg hof, if_pos (.inl hok)]
      rw [this]; exact ⟨rfl, hA.same (Below.refl _ _)⟩)
    rw [decide_eq_false hok] at HI
    clear hA hS h0 hR ho hl hok hof
    go_enter Tryz.func28, Tryz.ntmps28
    go_wp2_with fail
    refine (HP.out).mono ?_
    rintro e w1 ⟨rfl, rfl⟩
    go_wp2_with fail
    refine (HI.out _).mono ?_
    rintro e w1 ⟨rfl, rfl⟩
    go_wp2_with fail
    go_ret
    exact ⟨by rw [HR.out.1]; rfl, HR.out.2⟩
  rw [decide_eq_true hok] at HI
  by_cases hr0 : r.size = 0
  · have HR : Hid (R.1 = .arg ∧ Now DmAt W W p S R.2) := Lib.hid (by
      have : R = (.arg, d) := by rw [hR, Dk.append, if_neg hof, if_pos (.inr hr0)]
      rw [this]; exact ⟨rfl, hA.same (Below.refl _ _)⟩)
    have hre : r = ⟨#[]⟩ := ByteArray.ext (Array.eq_empty_of_size_eq_zero hr0)
    clear hA hS h0 hR ho hl hok hof hr0
    subst hre
    go_enter Tryz.func28, Tryz.ntmps28
    go_wp2_with fail
    refine (HP.out).mono ?_
    rintro e w1 ⟨rfl, rfl⟩
    go_wp2_with fail
    refine (HI.out _).mono ?_
    rintro e w1 ⟨rfl, rfl⟩
    go_wp2_with fail
    go_ret
    exact ⟨by rw [HR.out.1]; rfl, HR.out.2⟩
  have hna : ¬ (¬ Dk.okName n ∨ r.size = 0) := fun h => h.elim (fun h => h hok) hr0
  have hre : r.toList.isEmpty = false := by
    have : r.data.toList ≠ [] := fun h => hr0 (by rw [Lib.size_eq, h]; rfl)
    rw [ByteArray.toList_eq]
    cases hq : r.data.toList with
    | nil => exact absurd hq this
    | cons => rfl
  have HC0 := Lib.hid hS.head.c0
  have hlf := hS.left
  have hSl := hS.load
  have hinv := Dk.inv_append hS.inv n r
  have hld := Dk.load_append hS.inv n r
  rcases hfnd : hfind hs n with _ | g
  · have hfd : Dk.find d.files n = none := by rw [find_d hS, hfnd]; rfl
    have hlk := look_none hS.map n (by omega) hfnd
    have hh := hS.head
    rw [ho] at hh
    have HB := Lib.hid (burn_any W p mb d.left hh hlf)
    by_cases h1 : d.left = 1
    · have HR : Hid (R.1 = .down ∧ ∀ w1, HAt w1 p mb (d.left - 1) (decide (d.left = 1)) → Ko (atB p) W w1 → Now DmAt W w1 p S R.2) := Lib.hid (by
        have : R = (.down, ⟨d.files, true, 0⟩) := by rw [hR, Dk.append, if_neg hof, if_neg hna, hfd, goes_one h1]; rfl
        rw [this]
        refine ⟨rfl, fun w1 hw hk => ?_⟩
        rw [h1, decide_eq_true rfl] at hw
        exact hA.heads hS.head hk hw (by omega))
      have hv : goesV d.left = 7 := by unfold goesV; rw [if_pos h1]
      rw [hv] at HB
      have c0 := HC0.out
      clear hA hS h0 hR ho hof hfnd hv hfd hl hok hna hr0 hlf hSl hinv hld hh h1
      go_enter Tryz.func28, Tryz.ntmps28
      go_wp2_with fail
      refine (HP.out).mono ?_
      rintro e w1 ⟨rfl, rfl⟩
      go_wp2_with fail
      refine (HI.out _).mono ?_
      rintro e w1 ⟨rfl, rfl⟩
      go_wp2_with fail
      refine (HB.out).mono ?_
      rintro e w1 ⟨rfl, hw, hk⟩
      have HN := Lib.hid (HR.out.2 w1 hw hk)
      clear hw hk
      go_wp2_with fail
      go_ret
      exact ⟨by rw [HR.out.1]; rfl, HN.out⟩
    · have e : R = (.ok, ⟨Dk.put d.files (addF (fl0 n) r), false, d.left - 1⟩) := by
        rw [hR, Dk.append, if_neg hof, if_neg hna, hfd, goes_ne h1]
        show (Dk.E.ok, (⟨Dk.put d.files ⟨n, [r], 0, false, Dk.e0⟩, d.off, d.left - 1⟩ : Dk.D)) = _
        rw [ho]; rfl
      have HR1 : Hid (R.1 = .ok) := Lib.hid (by rw [e])
      have HR : Hid (∀ w1, HAt w1 p mb (d.left - 1) (decide (d.left = 1)) → Ko (atB p) W w1 →
          HAt (w1.alloc (.cells #[.slice none 0 0, .int .i64 0, .slice none 0 0, .bool false] 143)) p mb (d.left - 1) false ∧ SMap Tryz.prog 9 (w1.alloc (.cells #[.slice none 0 0, .int .i64 0, .slice none 0 0, .bool false] 143)) mb (hs.map pair) ∧ (hs.map pair).length < maxLen ∧
          ∀ w3, SMap Tryz.prog 9 w3 mb (Sm.put (hs.map pair) n (.pointer (some ⟨w1.heap.size, 0, none⟩))) → Ko (atB mb) (w1.alloc (.cells #[.slice none 0 0, .int .i64 0, .slice none 0 0, .bool false] 143)) w3 → FAt w3 (hm0 n w1.heap.size) ∧
          ∀ w4 h', FAt w4 h' → h'.b = w1.heap.size → h'.f = addF (fl0 n) r → Ko (hm0 n w1.heap.size).Blk w3 w4 → (∀ k, h'.Blk k → (hm0 n w1.heap.size).Blk k ∨ w3.heap.size ≤ k) → Now DmAt W w4 p S R.2) := Lib.hid (by
        rw [← hR, e] at hinv hld
        rw [e]
        intro w1 hw hk
        rw [decide_eq_false h1] at hw
        have hS1 := hS.heads hk hw (by omega)
        obtain ⟨w2, hw2⟩ : ∃ w2, w2 = w1.alloc (.cells #[.slice none 0 0, .int .i64 0, .slice none 0 0, .bool false] 143) := ⟨_, rfl⟩
        have hf2 := fat_new w1 n
        rw [← hw2] at hf2 ⊢
        have hb2 : Below w1.heap.size w1 w2 := by rw [hw2]; exact bnew (Below.refl _ _) _
        have hS2 := hS1.stays fun k hk => hb2.block k (hS1.lt hk)
        refine ⟨hS2.head, hS2.map, ?_, fun w3 hm3 hk3 => ?_⟩
        · have h8 : hs.length ≤ Dk.load d := by
            have := Dk.fsLoad_len d.files
            rw [← hS.fs, List.length_map] at this
            rw [show Dk.load d = Dk.fsLoad (hs.map (·.f)) by rw [hS.fs]; rfl]; exact this
          rw [List.length_map]
          simp only [maxLen]; omega
        · have hfk : ∀ k, (hm0 n w1.heap.size).Blk k → k = w1.heap.size := fun k hk => by
            rcases hk with hk | hk | hk
            · exact hk
            · cases hk
            · cases hk
          have hmlt := hS1.map.lt
          have hf3 : FAt w3 (hm0 n w1.heap.size) := hf2.ko hk3 fun k hk hm2 => by
            have h7 := hfk k hk
            have h6 : k = mb := hm2
            omega
          refine ⟨hf3, fun w4 h' hf4 hb4 hff hk4 hbl4 => ?_⟩
          have hnew : ∀ k, h'.Blk k → w1.heap.size ≤ k := fun k hk => by
            rcases hbl4 k hk with h5 | h5
            · have := hfk k h5; omega
            · have := hb2.size; have := hk3.size; omega
          have hw3 : HAt w3 p mb (d.left - 1) false := (hk3.block p hS2.head.lt hS2.pm).trans hS2.head
          have hk24 : Ko (fun k => k = mb ∨ k = w1.heap.size) w2 w4 := (hk3.mono (T := fun k => k = mb ∨ k = w1.heap.size) fun k _ hk => .inl hk).trans (hk4.mono (T := fun k => k = mb ∨ k = w1.heap.size) fun k _ hk => .inr (hfk k hk)) fun _ hk => .inl hk
          have hn' : h'.f.name = n := by rw [hff]; rfl
          have hplt := hS1.head.lt
          have hm4 : SMap Tryz.prog 9 w4 mb (Sm.put (hs.map pair) n (.pointer (some ⟨w1.heap.size, 0, none⟩))) := hm3.kept (hk4.block mb hm3.lt fun hh => by have := hfk _ hh; omega)
          have hh4 : HAt w4 p mb (d.left - 1) false := (hk4.block p hw3.lt fun hh => by have := hfk _ hh; omega).trans hw3
          have hS4 := hS2.put (g' := h') (d' := ⟨Dk.put d.files (addF (fl0 n) r), false, d.left - 1⟩) hk24 (fun k hk => by
            rcases hk with hk | hk
            · exact .inr (.inl hk)
            · refine .inr (.inr fun x hx _ hxk => ?_)
              have := (hS1.ok x hx).lt hxk
              omega) hh4 (by rw [hput_p, hn', hb4]; exact hm4) hf4 (fun k hk x hx _ hxk => by
            have := hnew k hk
            have := (hS1.ok x hx).lt hxk
            omega) (by rw [hff]) hinv (Nat.le_trans hld hl) (by show d.left - 1 ≤ _; omega)
          refine now_burn h0 hk ⟨⟨_, DmAt.mk hS4, fun k hk => ?_⟩, (Ko.bel (S := S) hb2).trans hk24 fun k hk => ?_⟩
          · rcases hk with hk | hk | ⟨x, hx, hxk⟩
            · exact .inl ((h0 k).2 (.inl hk))
            · exact .inl ((h0 k).2 (.inr (.inl hk)))
            · rcases mem_hput hS2.rises hx with rfl | ⟨hx, _⟩
              · exact .inr (hnew k hxk)
              · exact .inl ((h0 k).2 (.inr (.inr ⟨x, hx, hxk⟩)))
          · rcases hk with hk | hk
            · exact .inl ((h0 k).2 (.inr (.inl hk)))
            · exact .inr (Nat.le_of_eq hk.symm))
      have HL : Hid (∀ b : Nat, (hm0 n b).f.torn = Dk.e0 ∧ (hm0 n b).f.syn ≤ (hm0 n b).f.recs.length ∧ Dk.flLoad (hm0 n b).f + r.size ≤ 100000000 ∧ n.size ≤ 100000000) := Lib.hid fun b => ⟨rfl, Nat.le_refl _, by show 1 + n.size + 0 + 0 + 0 + r.size ≤ _; omega, by omega⟩
      have hv : goesV d.left = 0 := by unfold goesV; rw [if_neg h1]
      rw [hv] at HB
      have c0 := HC0.out
      clear hA hS h0 hR ho hof hfnd hv hfd hl hok hna hr0 hlf hSl hinv hld hh h1 e
      go_enter Tryz.func28, Tryz.ntmps28
      go_wp2_with fail
      refine (HP.out).mono ?_
      rintro e w1 ⟨rfl, rfl⟩
      go_wp2_with fail
      refine (HI.out _).mono ?_
      rintro e w1 ⟨rfl, rfl⟩
      go_wp2_with fail
      refine (HB.out).mono ?_
      rintro e w1 ⟨rfl, hw, hk⟩
      obtain ⟨hw2, hm2, hl2, hN⟩ := HR.out w1 hw hk
      have HU := Lib.hid (dput_any _ p mb _ _ _ hw2 hm2 hl2 n (HL.out 0).2.2.2 w1.heap.size)
      have HN := Lib.hid hN
      clear hw hk hN hw2 hm2 hl2 c0 hlk
      go_wp2_with fail
      refine (HU.out).mono ?_
      rintro e w3 ⟨rfl, hm3, hk3⟩
      obtain ⟨hf3, hN3⟩ := HN.out w3 hm3 hk3
      have HD := Lib.hid (fadd_any w3 (hm0 n w1.heap.size) hf3 (HL.out _).1 (HL.out _).2.1 r (HL.out _).2.2.1)
      have HN3 := Lib.hid hN3
      clear hm3 hk3 hf3 hN3
      go_wp2_with fail
      refine (HD.out).mono ?_
      rintro e w4 ⟨rfl, h', g1, g2, g3, g4, g5⟩
      have HN4 := Lib.hid (HN3.out w4 h' g1 g2 g3 g4 g5)
      clear g1 g2 g3 g4 g5
      go_wp2_with fail
      go_ret
      exact ⟨by rw [HR1.out]; rfl, HN4.out⟩
  · obtain ⟨hg, hgn⟩ := hfind_some hfnd
    have hfd : Dk.find d.files n = some g.f := by rw [find_d hS, hfnd]; rfl
    have hlk := look_some hS.map n (by omega) hfnd
    have hh := hS.head
    rw [ho] at hh
    have HB := Lib.hid (burn_any W p mb d.left hh hlf)
    have c3 := (hS.ok g hg).c.2.2.2
    have c0 := HC0.out
    have hok2 := okf_of hS hg
    have hfl := fl_load hS hg
    cases hcut : g.f.cut
    case true =>
      have HR : Hid (R.1 = .state ∧ Now DmAt W W p S R.2) := Lib.hid (by
        have : R = (.state, d) := by rw [hR, Dk.append, if_neg hof, if_neg hna, hfd, if_pos (by exact hcut)]
        rw [this]; exact ⟨rfl, hA.same (Below.refl _ _)⟩)
      rw [hcut] at c3
      clear hA hS h0 hR ho hof hfnd hfd hl hok hna hr0 hlf hSl hinv hld hh hcut hok2 hfl hg hgn
      go_enter Tryz.func28, Tryz.ntmps28
      go_wp2_with fail
      refine (HP.out).mono ?_
      rintro e w1 ⟨rfl, rfl⟩
      go_wp2_with fail
      refine (HI.out _).mono ?_
      rintro e w1 ⟨rfl, rfl⟩
      go_wp2_with fail
      go_ret
      exact ⟨by rw [HR.out.1]; rfl, HR.out.2⟩
    have hnc : ¬ ((Option.map (fun x => x.cut) (some g.f)).getD false = true) := by
      show ¬ g.f.cut = true
      rw [hcut]; decide
    rw [hcut] at c3
    by_cases h1 : d.left = 1
    · have HR : Hid (R.1 = .down ∧ ∀ w1, HAt w1 p mb (d.left - 1) (decide (d.left = 1)) → Ko (atB p) W w1 → Now DmAt W w1 p S R.2) := Lib.hid (by
        have : R = (.down, ⟨d.files, true, 0⟩) := by rw [hR, Dk.append, if_neg hof, if_neg hna, hfd, if_neg hnc, goes_one h1]; rfl
        rw [this]
        refine ⟨rfl, fun w1 hw hk => ?_⟩
        rw [h1, decide_eq_true rfl] at hw
        exact hA.heads hS.head hk hw (by omega))
      have hv : goesV d.left = 7 := by unfold goesV; rw [if_pos h1]
      rw [hv] at HB
      clear hA hS h0 hR ho hof hfnd hv hfd hl hok hna hr0 hlf hSl hinv hld hh h1 hcut hok2 hfl hg hgn hnc
      go_enter Tryz.func28, Tryz.ntmps28
      go_wp2_with fail
      refine (HP.out).mono ?_
      rintro e w1 ⟨rfl, rfl⟩
      go_wp2_with fail
      refine (HI.out _).mono ?_
      rintro e w1 ⟨rfl, rfl⟩
      go_wp2_with fail
      refine (HB.out).mono ?_
      rintro e w1 ⟨rfl, hw, hk⟩
      have HN := Lib.hid (HR.out.2 w1 hw hk)
      clear hw hk
      go_wp2_with fail
      go_ret
      exact ⟨by rw [HR.out.1]; rfl, HN.out⟩
    · have e : R = (.ok, ⟨Dk.put d.files (addF g.f r), false, d.left - 1⟩) := by
        rw [hR, Dk.append, if_neg hof, if_neg hna, hfd, if_neg hnc, goes_ne h1]
        show (Dk.E.ok, (⟨Dk.put d.files (addF g.f r), d.off, d.left - 1⟩ : Dk.D)) = _
        rw [ho]
      have HR1 : Hid (R.1 = .ok) := Lib.hid (by rw [e])
      have HR : Hid (∀ w1, HAt w1 p mb (d.left - 1) (decide (d.left = 1)) → Ko (atB p) W w1 → FAt w1 g ∧
          ∀ w4 h', FAt w4 h' → h'.b = g.b → h'.f = addF g.f r → Ko g.Blk w1 w4 → (∀ k, h'.Blk k → g.Blk k ∨ w1.heap.size ≤ k) → Now DmAt W w4 p S R.2) := Lib.hid (by
        rw [← hR, e] at hinv hld
        rw [e]
        intro w1 hw hk
        rw [decide_eq_false h1] at hw
        have hS1 := hS.heads hk hw (by omega)
        refine ⟨hS1.ok g hg, fun w4 h' hf4 hb4 hff hk4 hbl4 => now_burn h0 hk (now_file (g' := h') hS1 h0 hg (by rw [hff]; rfl) hb4 hk4 hf4 hbl4 rfl rfl (by rw [hff]) hinv (Nat.le_trans hld hl))⟩)
      have HL : Hid (g.f.torn = Dk.e0 ∧ g.f.syn ≤ g.f.recs.length ∧ Dk.flLoad g.f + r.size ≤ 100000000) := Lib.hid ⟨hok2.torn hcut, hok2.syn, by omega⟩
      have hv : goesV d.left = 0 := by unfold goesV; rw [if_neg h1]
      rw [hv] at HB
      clear hA hS h0 hR ho hof hfnd hv hfd hl hok hna hr0 hlf hSl hinv hld hh h1 e hcut hok2 hfl hg hgn hnc
      go_enter Tryz.func28, Tryz.ntmps28
      go_wp2_with fail
      refine (HP.out).mono ?_
      rintro e w1 ⟨rfl, rfl⟩
      go_wp2_with fail
      refine (HI.out _).mono ?_
      rintro e w1 ⟨rfl, rfl⟩
      go_wp2_with fail
      refine (HB.out).mono ?_
      rintro e w1 ⟨rfl, hw, hk⟩
      obtain ⟨hf3, hN3⟩ := HR.out w1 hw hk
      have HD := Lib.hid (fadd_any w1 g hf3 HL.out.1 HL.out.2.1 r HL.out.2.2)
      have HN3 := Lib.hid hN3
      clear hw hk hf3 hN3 c0 c3 hlk
      go_wp2_with fail
      refine (HD.out).mono ?_
      rintro e w4 ⟨rfl, h', g1, g2, g3, g4, g5⟩
      have HN4 := Lib.hid (HN3.out w4 h' g1 g2 g3 g4 g5)
      clear g1 g2 g3 g4 g5
      go_wp2_with fail
      go_ret
      exact ⟨by rw [HR1.out]; rfl, HN4.out⟩
end Go.Proofs.YtjhbpcecdhdnoaaGreatDoor
