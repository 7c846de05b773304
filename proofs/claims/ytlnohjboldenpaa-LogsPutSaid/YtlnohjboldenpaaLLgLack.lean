/-
  Logs: lacking, From, Reset walked.
-/
import Derived.Test.YtlnohjboldenpaaLLgBgn
set_option linter.unusedSimpArgs false
set_option linter.unusedVariables false
namespace Go.Proofs.Ytlnohjboldenpaa
open Go.RowKit Go.Sort
/-- Where a part of a slice lies. -/
theorem lies_part {W : World} {b off c : Nat} {es : List En.E} (h : Lies W (some ⟨b, off, none⟩) (ec es)) (k : Nat) (hk : k ≤ es.length) (hc : es.length ≤ c) :
    Lies W (if c = k then some ⟨b, off, none⟩ else some ⟨b, off + k * 13, none⟩) (ec (es.drop k)) := by
  rcases h with h | ⟨b', off', he, hlt, hcell⟩
  · left
    have h0 : es.length = 0 := by have := ecL_len es; rw [h] at this; simp at this; omega
    have e : es = [] := List.eq_nil_of_length_eq_zero h0
    rw [e]; simp [ec]
  · obtain ⟨rfl, rfl⟩ : b = b' ∧ off = off' := by injection he with he; injection he with h1 h2; exact ⟨h1, h2⟩
    by_cases hck : c = k
    · left
      rw [List.drop_eq_nil_of_le (by omega)]; rfl
    · rw [if_neg hck]
      refine .inr ⟨b, off + k * 13, rfl, hlt, fun j u hu => ?_⟩
      rw [← ecL_drop es k hk, List.getElem?_drop] at hu
      rw [Nat.add_assoc]
      exact hcell _ _ hu
theorem blk_part (b off c k : Nat) : blk (if c = k then some ⟨b, off, none⟩ else some ⟨b, off + k * 13, none⟩) = some b := by split <;> rfl
/-- A part of the entries that came in. -/
def RetSub (A0 : Option Addr) (es : List En.E) (w : World) (e : Ending) (w' : World) : Prop := ∃ A c, e = .returned (.slice A es.length c) ∧ Lies w' A (ec es) ∧ (A = none → es.length = 0) ∧ (∀ b, blk A = some b → blk A0 = some b) ∧ Below w.heap.size w w'
theorem lg_lack_step (l : Lg.L) (x : List En.E) (i : Nat) (h : i < x.length) : Lg.lacking l (x.drop i) = if Lg.lacks l x[i] = true then x.drop i else Lg.lacking l (x.drop (i + 1)) := by
  rw [List.drop_eq_getElem_cons h, Lg.lacking]
set_option maxRecDepth 100000 in
set_option maxHeartbeats 1000000 in
theorem lacking_any {p : Nat} {S : Nat → Prop} {l : Lg.L} (w : World) (h : LgAt w p S l) (hf : ∀ e ∈ l.es, e.idx < Nm.top) (b off cp : Nat) (es : List En.E) (hA : Lies w (some ⟨b, off, none⟩) (ec es)) (hn : es.length ≤ maxLen) (hcp : es.length ≤ cp) (hx : ∀ e ∈ es, e.idx < Nm.top ∧ e.trm < Nm.top) :
    Calls Try.prog 74 #[.pointer (some ⟨p, 0, none⟩), .slice (some ⟨b, off, none⟩) es.length cp] w (RetSub (some ⟨b, off, none⟩) (Lg.lacking l es) w) := by
  have H := Lib.hid h
  have HA := Lib.hid hA
  have HS := Lib.hid (fun i h => lg_lack_step l es i h)
  have HF := Lib.hid (fun i (hi : i < es.length) => hx _ (List.getElem_mem hi))
  have HH : Hid (∀ (W' : World) (i t : Nat), Below w.heap.size w W' → i < Nm.top → Calls Try.prog 89 #[.pointer (some ⟨p, 0, none⟩), .int .u64 (i : Int), .int .u64 (t : Int)] W' (RetL (.bool (Lg.has l i t)) W')) := Lib.hid fun W' i t hb hi => has_any W' (h.bel hb) i t hi hf
  obtain ⟨n, hnn⟩ : ∃ n, n = es.length := ⟨_, rfl⟩
  have Hn := Lib.hid hnn
  rw [← hnn] at hn hcp ⊢
  simp only [maxLen] at hn
  clear h hA hf hx hnn
  go_enter Try.func74, Try.ntmps74
  go_wp2_with fail
  go_loopw [9] (fun iv wr => ∃ (i : Nat), i ≤ n ∧ iv = .int .i64 (i : Int) ∧ Lg.lacking l es = Lg.lacking l (es.drop i) ∧ Bl w wr) (fun iv _ => n - (intOf iv).toNat)
  case atStart => exact ⟨0, Nat.zero_le _, rfl, rfl, Bl.refl w⟩
  case round =>
    obtain ⟨i, hin, rfl, hT, hW⟩ := hrel
    have HT := Lib.hid hT
    have HW := Lib.hid hW
    by_cases hlt : i < n
    · have hie : i < es.length := by rw [← Hn.out]; exact hlt
      obtain ⟨b', off', he, hE⟩ := (HA.out.below hW).ent i hie
      obtain ⟨rfl, rfl⟩ : b' = b ∧ off' = off := by injection he with he; injection he with h1 h2; exact ⟨h1.symm, h2.symm⟩
      have HSi := Lib.hid (HS.out i hie)
      obtain ⟨hx1, hx2⟩ := HF.out i hie
      obtain ⟨x, hx⟩ : ∃ x, x = es[i] := ⟨_, rfl⟩
      rw [← hx] at hE HSi hx1 hx2
      unfold Nm.top at hx1 hx2
      have HR := Lib.hid hE.rng
      have HZ := sizeEntL x
      have HO := (entF x).one
      obtain ⟨X, hX⟩ : ∃ X, X = entC x := ⟨_, rfl⟩
      have HX := Lib.hid hX
      rw [← hX] at HZ HO HR
      have hXs : X.size = 13 := by rw [hX]; rfl
      clear hx hE hX hT he
      go_upto_region 4 with (first
        | (refine wpList_load_rgL rfl 49 _ rfl b' (off' + i * 13) rfl X _ HR.out Try.underlying49 rfl HZ ?_)
        | (refine wpList_store_sub rfl 49 _ _ rfl wr.heap.size 0 rfl 49 (entC En.zero) X rfl (Rw.new wr (entC En.zero) 49) (by rw [hXs]; decide) HZ HO ?_))
      refine forget (fun W2 => Rw W2 wr.heap.size X 49 ∧ Bl w W2) ⟨(Rw.new wr (entC En.zero) 49).over (by rw [hXs]; rfl), (hW.alloc _).puts hW.le _ _⟩ ?_
      intro W2 H2
      generalize wr.heap.size = gb at H2 ⊢
      have HK := Lib.hid H2
      have d0 : W2.cell? ⟨gb, 0, none⟩ = some (.int .u64 (x.idx : Int)) := H2.1.cell 0 (by rw [HX.out]; rfl)
      have d1 : W2.cell? ⟨gb, 1, none⟩ = some (.int .u64 (x.trm : Int)) := H2.1.cell 1 (by rw [HX.out]; rfl)
      obtain ⟨A, c, h1, _⟩ := (H.out.bel H2.2).own
      obtain ⟨c0, c1, c2, c3, c4⟩ := lg_cells h1
      have hb1 := H.out.fit.idx
      unfold Nm.top at hb1
      clear H2 HR HZ HO hXs hW HX h1 c0 c2 c3 c4
      have HLk : Hid (Lg.lacks l x = (decide (l.idx < x.idx) && !Lg.has l x.idx x.trm)) := Lib.hid rfl
      by_cases hgt : l.idx < x.idx
      · have q1 : decide (l.idx < x.idx) = true := decide_eq_true hgt
        have q2 : ((l.idx : Int) < (x.idx : Int)) = True := by simp; omega
        have k0 := fun d os => cell_regrown d0 d os
        have k1 := fun d os => cell_regrown d1 d os
        have k2 := fun d os => cell_regrown c1 d os
        have HC : Hid (∀ W', Below W2.heap.size W2 W' → Calls Try.prog 89 #[.pointer (some ⟨p, 0, none⟩), .int .u64 (x.idx : Int), .int .u64 (x.trm : Int)] W' (RetL (.bool (Lg.has l x.idx x.trm)) W')) := Lib.hid fun W' hb => HH.out W' x.idx x.trm (HK.out.2.next hb).bel hx1
        obtain ⟨hh, hhe⟩ : ∃ hh, hh = Lg.has l x.idx x.trm := ⟨_, rfl⟩
        rw [← hhe] at HC HLk
        clear hhe d0 d1 c1
        go_wp2_with fail
        (conv => arg 4; simp [Act.put])
        refine wp_region_quiet_below (by kernel_rfl) (by kernel_rfl) ?_
        repeat (go_big_quiet_step (first | (go_at_call 89; exact Calls.regrown_of (HC.out _ (below_regrown _ _ _)))))
        refine wpQuiet_nil ?_
        intro _ hw'
        obtain ⟨pq, hw''⟩ := hw'
        subst hw''
        have HB4 := Lib.hid (HK.out.2.next (below_regrown W2 pq.d pq.os))
        generalize grow (redrawn W2 pq.d) pq.os = W4 at *
        cases hh with
        | false =>
          have E : Hid (Lg.lacking l es = es.drop i) := Lib.hid (by rw [HT.out, HSi.out, if_pos (by rw [HLk.out, q1]; rfl)])
          clear HT HSi HLk k0 k1 k2 HC HH
          go_wp2_with fail
          go_ret
          rw [E.out]
          have hL := lies_part (c := cp) (HA.out.below HB4.out.bel) i (by rw [← Hn.out]; exact hin) (by rw [← Hn.out]; exact hcp)
          rw [if_neg (show ¬ cp = i by omega)] at hL
          refine ⟨some ⟨b', off' + i * 13, none⟩, cp - i, ?_, hL, (fun h => by cases h), (fun b hb => hb), HB4.out.bel⟩
          rw [List.length_drop, ← Hn.out]
          rfl
        | true =>
          have E : Hid (Lg.lacking l es = Lg.lacking l (es.drop (i + 1))) := Lib.hid (by rw [HT.out, HSi.out, if_neg (by rw [HLk.out, q1]; simp)])
          clear HT HSi HLk k0 k1 k2 HC
          go_wp2_with fail
          go_roundw
          case rel => exact ⟨i + 1, by omega, by go_num, E.out, HB4.out⟩
          case measure => simp [intOf]; omega
      · have q1 : decide (l.idx < x.idx) = false := decide_eq_false hgt
        have q2 : ((l.idx : Int) < (x.idx : Int)) = False := by simp; omega
        have E : Hid (Lg.lacking l es = Lg.lacking l (es.drop (i + 1))) := Lib.hid (by rw [HT.out, HSi.out, if_neg (by rw [HLk.out, q1]; simp)])
        clear HT HSi HLk
        go_wp2_with fail
        (conv => arg 4; simp [Act.put])
        go_quiet (fail)
        go_wp2_with fail
        go_roundw
        case rel => exact ⟨i + 1, by omega, by go_num, E.out, HK.out.2.drewN _⟩
        case measure => simp [intOf]; omega
    · obtain rfl : i = n := by omega
      have E : Hid (Lg.lacking l es = []) := Lib.hid (by rw [hT, List.drop_eq_nil_of_le (by rw [← Hn.out]; exact Nat.le_refl _)]; rfl)
      clear hT HT
      go_wp2_with fail
      go_ret
      rw [E.out]
      exact ⟨none, 0, rfl, .inl rfl, fun _ => rfl, (fun b hb => by cases hb), HW.out.bel⟩
/-- Where the entries came in as nil nothing lacks. -/
theorem lacking_nilA {p : Nat} (w : World) (cp : Nat) :
    Calls Try.prog 74 #[.pointer (some ⟨p, 0, none⟩), .slice none 0 cp] w (RetSub none [] w) := by
  go_enter Try.func74, Try.ntmps74
  go_wp2_with fail
  go_loopw [9] (fun iv wr => iv = .int .i64 0 ∧ Bl w wr) (fun iv _ => 0)
  case atStart => exact ⟨rfl, Bl.refl w⟩
  case round =>
    obtain ⟨rfl, hW⟩ := hrel
    go_wp2_with fail
    go_ret
    exact ⟨none, 0, rfl, .inl rfl, fun _ => rfl, (fun b hb => by cases hb), hW.bel⟩
theorem lacking_empty {p : Nat} (w : World) (A : Option Addr) (cp : Nat) :
    Calls Try.prog 74 #[.pointer (some ⟨p, 0, none⟩), .slice A 0 cp] w (RetSub A [] w) := by
  go_enter Try.func74, Try.ntmps74
  go_wp2_with fail
  go_loopw [9] (fun iv wr => iv = .int .i64 0 ∧ Bl w wr) (fun iv _ => 0)
  case atStart => exact ⟨rfl, Bl.refl w⟩
  case round =>
    obtain ⟨rfl, hW⟩ := hrel
    go_wp2_with fail
    go_ret
    exact ⟨none, 0, rfl, .inl rfl, fun _ => rfl, (fun b hb => by cases hb), hW.bel⟩
end Go.Proofs.Ytlnohjboldenpaa
