/-
  Rename walked.
-/
import Derived.Test.YtjmnoogaffjdiaaRDmU
set_option linter.unusedSimpArgs false
set_option linter.unusedVariables false
namespace Go.Proofs.Ytjmnoogaffjdiaa
open Go.RowKit
theorem now_put2 {W W' : World} {p mb : Nat} {hs : List Hm} {d d' : Dk.D} {S S0 : Nat → Prop} {g' : Hm} (h : DkS W p mb hs d) (h0 : ∀ k, Bks p mb hs k → S0 k) (h' : DkS W' p mb (hput hs g') d') (hk : Ko S W W') (hS : ∀ k, k < W.heap.size → S k → S0 k) (hb : ∀ k, g'.Blk k → S0 k ∨ W.heap.size ≤ k) : Now DmAt W W' p S0 d' := by
  refine ⟨⟨_, DmAt.mk h', fun k hk => ?_⟩, hk.mono hS⟩
  rcases hk with rfl | rfl | ⟨x, hx, hxk⟩
  · exact .inl (h0 _ (.inl rfl))
  · exact .inl (h0 _ (.inr (.inl rfl)))
  · rcases mem_hput h.rises hx with rfl | ⟨hx, _⟩
    · exact hb k hxk
    · exact .inl (h0 _ (.inr (.inr ⟨x, hx, hxk⟩)))
theorem Now.trans1 {W w1 w2 : World} {p : Nat} {S0 T : Nat → Prop} {d' : Dk.D} (hk : Ko T W w1) (hT : ∀ k, T k → S0 k) (h : Now DmAt w1 w2 p S0 d') : Now DmAt W w2 p S0 d' :=
  Now.trans (hk.mono fun k _ hk => hT k hk) (fun _ hk => .inl hk) h
set_option maxRecDepth 100000 in
set_option maxHeartbeats 1000000 in
theorem dRename_any (W : World) (p : Nat) (S : Nat → Prop) (d : Dk.D) (n m : ByteArray) (h : DmAt W p S d) (hn : n.size ≤ 100000000) (hm : Dk.load d + m.size ≤ 100000000) :
    Calls Try.prog 23 #[.pointer (some ⟨p, 0, none⟩), .string n, .string m] W fun e w' => e = .returned (.int .i64 (eno (Dk.rename d n m).1)) ∧ Now DmAt W w' p S (Dk.rename d n m).2 := by
  have hA := h
  obtain ⟨mb, hs, hS, h0⟩ := h
  obtain ⟨R, hR⟩ : ∃ R, R = Dk.rename d n m := ⟨_, rfl⟩
  rw [← hR]
  have HP := Lib.hid (power_any W p mb _ _ hS.head)
  have HI := Lib.hid (fun W => isName_any W m (by omega))
  cases ho : d.off
  case true =>
    have HR : Hid (R.1 = .down ∧ Now DmAt W W p S R.2) := Lib.hid (by
      have : R = (.down, d) := by rw [hR, Dk.rename, if_pos ho]
      rw [this]; exact ⟨rfl, hA.same (Below.refl _ _)⟩)
    rw [ho, if_pos rfl] at HP
    clear hA hS h0 hR ho hn hm HI
    go_enter Try.func23, Try.ntmps23
    go_wp2_with fail
    refine (HP.out).mono ?_
    rintro e w1 ⟨rfl, rfl⟩
    go_wp2_with fail
    go_ret
    exact ⟨by rw [HR.out.1]; rfl, HR.out.2⟩
  have hof : ¬ d.off = true := by rw [ho]; decide
  rw [ho, if_neg (by decide)] at HP
  by_cases hok : Dk.okName m
  case neg =>
    have HR : Hid (R.1 = .arg ∧ Now DmAt W W p S R.2) := Lib.hid (by
      have : R = (.arg, d) := by rw [hR, Dk.rename, if_neg hof, if_pos hok]
      rw [this]; exact ⟨rfl, hA.same (Below.refl _ _)⟩)
    rw [decide_eq_false hok] at HI
    clear hA hS h0 hR ho hn hm hok hof
    go_enter Try.func23, Try.ntmps23
    go_wp2_with fail
    refine (HP.out).mono ?_
    rintro e w1 ⟨rfl, rfl⟩
    go_wp2_with fail
    refine (HI.out _).mono ?_
    rintro e w1 ⟨rfl, rfl⟩
    go_wp2_with fail
    go_ret
    exact ⟨by rw [HR.out.1]; rfl, HR.out.2⟩
  rw [decide_eq_true hok] at HI
  have hnk : ¬ ¬ Dk.okName m := fun h => h hok
  rcases hfnd : hfind hs n with _ | g
  · have HR : Hid (R.1 = .none ∧ Now DmAt W W p S R.2) := Lib.hid (by
      have : R = (.none, d) := by rw [hR, Dk.rename, if_neg hof, if_neg hnk, find_d hS, hfnd]; rfl
      rw [this]; exact ⟨rfl, hA.same (Below.refl _ _)⟩)
    have H := Lib.hid (dbegin_none W p mb hs d hS ho n hn hfnd)
    clear hA hS h0 hR ho hn hof hfnd hm hok hnk
    go_enter Try.func23, Try.ntmps23
    go_wp2_with fail
    refine (HP.out).mono ?_
    rintro e w1 ⟨rfl, rfl⟩
    go_wp2_with fail
    refine (HI.out _).mono ?_
    rintro e w1 ⟨rfl, rfl⟩
    go_wp2_with fail
    refine (H.out).mono ?_
    rintro e w1 ⟨rfl, rfl⟩
    go_wp2_with fail
    go_ret
    exact ⟨by rw [HR.out.1]; rfl, HR.out.2⟩
  obtain ⟨hg, hgn⟩ := hfind_some hfnd
  have hfd : Dk.find d.files n = some g.f := by rw [find_d hS, hfnd]; rfl
  have H := Lib.hid (dbegin_some W p mb hs d hS ho n hn g hfnd)
  by_cases h1 : d.left = 1
  · have HR : Hid (R.1 = .down ∧ ∀ w1, HAt w1 p mb (d.left - 1) (decide (d.left = 1)) → Ko (atB p) W w1 → Now DmAt W w1 p S R.2) := Lib.hid (by
      have : R = (.down, ⟨d.files, true, 0⟩) := by rw [hR, Dk.rename, if_neg hof, if_neg hnk, hfd, goes_one h1]; rfl
      rw [this]
      refine ⟨rfl, fun w1 hw hk => ?_⟩
      rw [h1, decide_eq_true rfl] at hw
      exact hA.heads hS.head hk hw (by omega))
    have hv : goesV d.left = 7 := by unfold goesV; rw [if_pos h1]
    rw [hv] at H
    clear hA hS h0 hR ho hn hof hfnd hv hg hgn hfd hm hok hnk
    go_enter Try.func23, Try.ntmps23
    go_wp2_with fail
    refine (HP.out).mono ?_
    rintro e w1 ⟨rfl, rfl⟩
    go_wp2_with fail
    refine (HI.out _).mono ?_
    rintro e w1 ⟨rfl, rfl⟩
    go_wp2_with fail
    refine (H.out).mono ?_
    rintro e w1 ⟨rfl, hw, hk⟩
    have HN := Lib.hid (HR.out.2 w1 hw hk)
    clear hw hk
    go_wp2_with fail
    go_ret
    exact ⟨by rw [HR.out.1]; rfl, HN.out⟩
  · have hinv := Dk.inv_rename hS.inv n m
    have hld := Dk.load_rename hS.inv n m
    have hSl := hS.load
    have hinv1 : Dk.Inv ⟨Dk.drop d.files n, false, d.left - 1⟩ := ⟨Dk.rises_drop hS.inv.rises n, fun f hf => hS.inv.ok f (Dk.mem_drop hf)⟩
    have hld1 : Dk.load ⟨Dk.drop d.files n, false, d.left - 1⟩ ≤ Dk.load d := by
      have := Dk.fsLoad_drop d.files n
      show Dk.fsLoad (Dk.drop d.files n) ≤ Dk.fsLoad d.files
      omega
    have HR : Hid (R.1 = .ok ∧ ∀ w1, HAt w1 p mb (d.left - 1) (decide (d.left = 1)) → Ko (atB p) W w1 → w1.cell? ⟨p, 0, none⟩ = some (.map (some mb)) ∧ ∃ w2, (Builtin.delete_ #[41, 9] 0 #[.map (some mb), .string n]).run Try.prog w1 = .ok (.tuple #[]) w2 ∧
        HAt w2 p mb (d.left - 1) false ∧ SMap Try.prog 9 w2 mb ((hdrop hs n).map pair) ∧ ((hdrop hs n).map pair).length < maxLen ∧ ∀ w3, SMap Try.prog 9 w3 mb (Sm.put ((hdrop hs n).map pair) m (.pointer (some ⟨g.b, 0, none⟩))) → Ko (atB mb) w2 w3 → Now DmAt W w3 p S R.2) := Lib.hid (by
      have e : R = (.ok, ⟨Dk.put (Dk.drop d.files n) { g.f with name := m }, false, d.left - 1⟩) := by rw [hR, Dk.rename, if_neg hof, if_neg hnk, hfd, goes_ne h1]; show (Dk.E.ok, (⟨Dk.put (Dk.drop d.files n) { g.f with name := m }, d.off, d.left - 1⟩ : Dk.D)) = _; rw [ho]
      rw [← hR, e] at hinv hld
      rw [e]
      refine ⟨rfl, fun w1 hw hk => ⟨hw.c0, ?_⟩⟩
      rw [decide_eq_false h1] at hw
      have hlf := hS.left
      have hS1 := hS.heads hk hw (by omega)
      obtain ⟨w2, e1, e2, e3, e4⟩ := SMap.drop (ty := 0) (e := 67) us Try.underlying41 hS1.map n (by simp only [maxLen]; omega)
      have hk2 : Ko (atB mb) w1 w2 := ⟨e3.os, e3.tape, e3.output, e3.size, fun k hk hne => e3.block k hk fun he => hne (by injection he)⟩
      rw [← hdrop_p] at e2
      have hw2 : HAt w2 p mb (d.left - 1) false := (hk2.block p hw.lt hS1.pm).trans hw
      have hS2 := hS1.dropped (d' := ⟨Dk.drop d.files n, false, d.left - 1⟩) n hk2 (fun k hk => .inr hk) hw2 e2 rfl hinv1 (by omega) (by show d.left - 1 ≤ _; omega)
      have hf2 : FAt w2 g := (hS1.ok g hg).ko hk2 fun k hk hm2 => hS1.mapb hg (by rw [← show k = mb from hm2]; exact hk)
      refine ⟨w2, e1, hw2, e2, ?_, fun w3 hm3 hk3 => ?_⟩
      · have h9 : (hdrop hs n).length ≤ hs.length := List.length_filter_le _ _
        have h8 : hs.length ≤ Dk.load d := by
          have := Dk.fsLoad_len d.files
          rw [← hS.fs, List.length_map] at this
          rw [show Dk.load d = Dk.fsLoad (hs.map (·.f)) by rw [hS.fs]; rfl]; exact this
        rw [List.length_map]
        simp only [maxLen]; omega
      · have hf3' : FAt w3 g := hf2.ko hk3 fun k hk hm2 => by
          obtain ⟨cur, T, hc, _⟩ := hf2.obj hk
          obtain ⟨es, c, hc2⟩ := SMap.obj e2
          rw [show k = mb from hm2, hc2] at hc
          cases hc
        have hf3 : FAt w3 { g with f := { g.f with name := m } } := ⟨hf3'.row, hf3'.cont, hf3'.unsy⟩
        have hS3 := hS2.put (g' := { g with f := { g.f with name := m } }) (d' := ⟨Dk.put (Dk.drop d.files n) { g.f with name := m }, false, d.left - 1⟩) hk3 (fun k hk => .inr (.inl hk)) ((hk3.block p hw2.lt hS2.pm).trans hw2) (by rw [hput_p]; exact hm3) hf3 (fun k hk x hx hne hxk => by
          obtain ⟨hx1, hx2⟩ := mem_hdrop hx
          exact hx2 ((hS.sep x hx1 g hg k hxk hk).trans hgn)) rfl hinv (Nat.le_trans hld hm) (by show d.left - 1 ≤ _; omega)
        refine now_burn h0 hk (Now.trans1 hk2 (fun k hk => (h0 k).2 (.inr (.inl hk))) (now_put2 hS2 (fun k hk => (h0 k).2 ?_) hS3 hk3 (fun k _ hk => (h0 k).2 (.inr (.inl hk))) fun k hk => .inl ((h0 k).2 (.inr (.inr ⟨g, hg, hk⟩)))))
        rcases hk with hk | hk | ⟨x, hx, hk⟩
        · exact .inl hk
        · exact .inr (.inl hk)
        · exact .inr (.inr ⟨x, (mem_hdrop hx).1, hk⟩))
    have hv : goesV d.left = 0 := by unfold goesV; rw [if_neg h1]
    rw [hv] at H
    have Hm := Lib.hid (show m.size ≤ 100000000 by omega)
    clear hA hS h0 hR ho hn hof hfnd hv hg hgn hfd hinv hld hSl h1 hinv1 hld1 hm hok hnk
    go_enter Try.func23, Try.ntmps23
    go_wp2_with fail
    refine (HP.out).mono ?_
    rintro e w1 ⟨rfl, rfl⟩
    go_wp2_with fail
    refine (HI.out _).mono ?_
    rintro e w1 ⟨rfl, rfl⟩
    go_wp2_with fail
    refine (H.out).mono ?_
    rintro e w1 ⟨rfl, hw, hk⟩
    obtain ⟨k0, w2, hrun, hw2, hm2, hl2, hN⟩ := HR.out.2 w1 hw hk
    have HU := Lib.hid (dput_any w2 p mb _ _ _ hw2 hm2 hl2 m Hm.out g.b)
    have HN := Lib.hid hN
    clear hw hk hN hw2 hm2 hl2
    go_wp2_with fail
    refine (HU.out).mono ?_
    rintro e w3 ⟨rfl, hm3, hk3⟩
    have HN2 := Lib.hid (HN.out w3 hm3 hk3)
    clear hm3 hk3
    go_wp2_with fail
    go_ret
    exact ⟨by rw [HR.out.1]; rfl, HN2.out⟩
end Go.Proofs.Ytjmnoogaffjdiaa
