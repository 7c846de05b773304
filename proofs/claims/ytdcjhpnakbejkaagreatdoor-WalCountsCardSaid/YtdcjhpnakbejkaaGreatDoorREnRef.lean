/-
  wapentakeref04.Right walked. WRITTEN BY wip/tools/gen_enrefright.py.
-/
import Derived.Test.YtdcjhpnakbejkaaGreatDoorREnPlain
set_option linter.unusedSimpArgs false
set_option linter.unusedVariables false
namespace Go.Proofs.YtdcjhpnakbejkaaGreatDoor
open Go.RowKit
set_option maxRecDepth 100000 in
set_option maxHeartbeats 4000000 in
theorem refRight_any (e : En.E) (w : World) : Calls Tryz.prog 152 #[.agg (entC e)] w (RetTr (En.may e) w) := by
  have HN2 := Lib.hid (fun W => plain_any e W)
  unfold RetTr entC at HN2
  have hmay : En.may e = (decide (1 ≤ e.idx) && (decide (1 ≤ e.trm) && (if e.kind = 1 ∨ e.kind = 5 then En.nob e && e.body.size == 0 else if e.kind = 2 then En.nob e && En.mem e.body else if e.kind = 3 then decide (e.slot ≤ 3) else if e.kind = 4 then En.nob e else false))) := rfl
  obtain ⟨nb, hnb⟩ : ∃ nb, nb = En.nob e := ⟨_, rfl⟩
  obtain ⟨mb, hmb⟩ : ∃ mb, mb = En.mem e.body := ⟨_, rfl⟩
  rw [← hnb] at HN2 hmay
  rw [← hmb] at hmay
  have Hmb := Lib.hid hmb
  have Hmay := Lib.hid hmay
  have F := entF e
  generalize entC e = X at F ⊢
  unfold RetTr at ⊢
  obtain ⟨hx, _, x0, x1, x2, x3, x4, x5, x6, x7, x8, x9, x10, x11, x12⟩ := F
  have Q12 : Hid ((w.alloc (.cells X 60)).cell? ⟨w.heap.size, 12, none⟩ = some (.string e.body)) := Lib.hid (by
    have := cell_of_row (w.alloc (.cells X 60)) w.heap.size 12 X _ _ (heap_alloc_new w _)
    rwa [Array.getElem?_eq_getElem (by omega), x12] at this)
  clear hmay hnb hmb
  by_cases i1 : 1 ≤ e.idx
  · have a1 : ((e.idx : Int) == 0) = false := by simp; omega
    by_cases i2 : 1 ≤ e.trm
    · have a2 : ((e.trm : Int) == 0) = false := by simp; omega
      have Hm2 : Hid (En.may e = (if e.kind = 1 ∨ e.kind = 5 then nb && e.body.size == 0 else if e.kind = 2 then nb && mb else if e.kind = 3 then decide (e.slot ≤ 3) else if e.kind = 4 then nb else false)) := Lib.hid (by rw [Hmay.out, decide_eq_true i1, decide_eq_true i2]; rfl)
      clear Hmay i1 i2
      by_cases k1 : e.kind = 1
      · skip
        have q1 : ((e.kind : Int) == 1) = true := by simp; omega
        cases nb
        · have E : Hid (En.may e = false) := Lib.hid (by rw [Hm2.out, if_pos (by omega)]; rfl)
          clear Hm2 k1 Hmb
          go_enter Tryz.func152, Tryz.ntmps152
          go_wp2_with (first | (go_at_call 219; refine (HN2.out _).mono ?_; rintro r w1 ⟨rfl, hb1⟩; have c12 := (hb1.cell (p := ⟨w.heap.size, 12, none⟩) (by simp)).trans Q12.out))
          go_ret
          exact ⟨by rw [E.out]; rfl, bnext (bnew (Below.refl _ _) _) hb1⟩
        · have es : ((e.body.size : Int) == 0) = (e.body.size == 0) := by rw [Bool.eq_iff_iff, beq_iff_eq, beq_iff_eq]; omega
          have E : Hid (En.may e = (e.body.size == 0)) := Lib.hid (by rw [Hm2.out, if_pos (by omega)]; rfl)
          clear Hm2 k1 Hmb
          go_enter Tryz.func152, Tryz.ntmps152
          go_wp2_with (first | (go_at_call 219; refine (HN2.out _).mono ?_; rintro r w1 ⟨rfl, hb1⟩; have c12 := (hb1.cell (p := ⟨w.heap.size, 12, none⟩) (by simp)).trans Q12.out))
          go_ret
          exact ⟨by rw [E.out]; rfl, bnext (bnew (Below.refl _ _) _) hb1⟩
      by_cases k5 : e.kind = 5
      · skip
        have q1 : ((e.kind : Int) == 1) = false := by simp; omega
        have q5 : ((e.kind : Int) == 5) = true := by simp; omega
        cases nb
        · have E : Hid (En.may e = false) := Lib.hid (by rw [Hm2.out, if_pos (by omega)]; rfl)
          clear Hm2 k5 Hmb
          go_enter Tryz.func152, Tryz.ntmps152
          go_wp2_with (first | (go_at_call 219; refine (HN2.out _).mono ?_; rintro r w1 ⟨rfl, hb1⟩; have c12 := (hb1.cell (p := ⟨w.heap.size, 12, none⟩) (by simp)).trans Q12.out))
          go_ret
          exact ⟨by rw [E.out]; rfl, bnext (bnew (Below.refl _ _) _) hb1⟩
        · have es : ((e.body.size : Int) == 0) = (e.body.size == 0) := by rw [Bool.eq_iff_iff, beq_iff_eq, beq_iff_eq]; omega
          have E : Hid (En.may e = (e.body.size == 0)) := Lib.hid (by rw [Hm2.out, if_pos (by omega)]; rfl)
          clear Hm2 k5 Hmb
          go_enter Tryz.func152, Tryz.ntmps152
          go_wp2_with (first | (go_at_call 219; refine (HN2.out _).mono ?_; rintro r w1 ⟨rfl, hb1⟩; have c12 := (hb1.cell (p := ⟨w.heap.size, 12, none⟩) (by simp)).trans Q12.out))
          go_ret
          exact ⟨by rw [E.out]; rfl, bnext (bnew (Below.refl _ _) _) hb1⟩
      by_cases k2 : e.kind = 2
      · skip
        have q1 : ((e.kind : Int) == 1) = false := by simp; omega
        have q5 : ((e.kind : Int) == 5) = false := by simp; omega
        have q2 : ((e.kind : Int) == 2) = true := by simp; omega
        cases nb
        · have E : Hid (En.may e = false) := Lib.hid (by rw [Hm2.out, if_neg (by omega), if_pos k2]; rfl)
          clear Hm2 k1 k5 k2 Hmb
          go_enter Tryz.func152, Tryz.ntmps152
          go_wp2_with (first | (go_at_call 219; refine (HN2.out _).mono ?_; rintro r w1 ⟨rfl, hb1⟩; have c12 := (hb1.cell (p := ⟨w.heap.size, 12, none⟩) (by simp)).trans Q12.out))
          go_ret
          exact ⟨by rw [E.out]; rfl, bnext (bnew (Below.refl _ _) _) hb1⟩
        · have E0 : Hid (En.may e = mb) := Lib.hid (by rw [Hm2.out, if_neg (by omega), if_pos k2]; rfl)
          clear Hm2 k1 k5 k2
          by_cases h1 : e.body.size = 1
          · have hp : 0 < e.body.size := by omega
            have d1 : ((e.body.size : Int) == 1) = true := by simp; omega
            have hm : mb = (decide (1 ≤ e.body[0].toNat) && decide (e.body[0].toNat ≤ 31)) := by
              rw [Hmb.out]
              generalize e.body = s at h1 hp ⊢
              obtain ⟨⟨l⟩⟩ := s
              match l, h1 with
              | [c], _ => rfl
            have Hm := Lib.hid hm
            clear hm h1
            by_cases g1 : 1 ≤ e.body[0].toNat
            · have e1n : decide (0 < e.body[0].toNat) = true := by simp; omega
              have e1' : decide ((0 : Int) < (e.body[0].toNat : Int)) = true := by simp; omega
              have e1'' : ((0 : Int) < (e.body[0].toNat : Int)) = True := by simp; omega
              by_cases g2 : e.body[0].toNat ≤ 31
              · have e2n : decide (e.body[0].toNat < 32) = true := by simp; omega
                have e2' : decide ((e.body[0].toNat : Int) < 32) = true := by simp; omega
                have e2'' : ((e.body[0].toNat : Int) < 32) = True := by simp; omega
                have E : Hid (En.may e = true) := Lib.hid (by rw [E0.out, Hm.out, decide_eq_true g1, decide_eq_true g2]; rfl)
                clear g1 g2
                go_enter Tryz.func152, Tryz.ntmps152
                go_wp2_with (first | (go_at_call 219; refine (HN2.out _).mono ?_; rintro r w1 ⟨rfl, hb1⟩; have c12 := (hb1.cell (p := ⟨w.heap.size, 12, none⟩) (by simp)).trans Q12.out))
                go_ret
                exact ⟨by rw [E.out]; rfl, bnext (bnew (Below.refl _ _) _) hb1⟩
              · have e2n : decide (e.body[0].toNat < 32) = false := by simp; omega
                have e2' : decide ((e.body[0].toNat : Int) < 32) = false := by simp; omega
                have e2'' : ((e.body[0].toNat : Int) < 32) = False := by simp; omega
                have E : Hid (En.may e = false) := Lib.hid (by rw [E0.out, Hm.out, decide_eq_true g1, decide_eq_false g2]; rfl)
                clear g1 g2
                go_enter Tryz.func152, Tryz.ntmps152
                go_wp2_with (first | (go_at_call 219; refine (HN2.out _).mono ?_; rintro r w1 ⟨rfl, hb1⟩; have c12 := (hb1.cell (p := ⟨w.heap.size, 12, none⟩) (by simp)).trans Q12.out))
                go_ret
                exact ⟨by rw [E.out]; rfl, bnext (bnew (Below.refl _ _) _) hb1⟩
            · have e1n : decide (0 < e.body[0].toNat) = false := by simp; omega
              have e1' : decide ((0 : Int) < (e.body[0].toNat : Int)) = false := by simp; omega
              have e1'' : ((0 : Int) < (e.body[0].toNat : Int)) = False := by simp; omega
              have E : Hid (En.may e = false) := Lib.hid (by rw [E0.out, Hm.out, decide_eq_false g1]; rfl)
              clear g1
              go_enter Tryz.func152, Tryz.ntmps152
              go_wp2_with (first | (go_at_call 219; refine (HN2.out _).mono ?_; rintro r w1 ⟨rfl, hb1⟩; have c12 := (hb1.cell (p := ⟨w.heap.size, 12, none⟩) (by simp)).trans Q12.out))
              go_ret
              exact ⟨by rw [E.out]; rfl, bnext (bnew (Below.refl _ _) _) hb1⟩
          · have d1 : ((e.body.size : Int) == 1) = false := by simp; omega
            have E : Hid (En.may e = false) := Lib.hid (by
              rw [E0.out, Hmb.out]
              unfold En.mem
              rw [Lib.size_eq] at h1
              split
              · rename_i c hc; rw [hc] at h1; exact absurd rfl h1
              · rfl)
            clear h1
            go_enter Tryz.func152, Tryz.ntmps152
            go_wp2_with (first | (go_at_call 219; refine (HN2.out _).mono ?_; rintro r w1 ⟨rfl, hb1⟩; have c12 := (hb1.cell (p := ⟨w.heap.size, 12, none⟩) (by simp)).trans Q12.out))
            go_ret
            exact ⟨by rw [E.out]; rfl, bnext (bnew (Below.refl _ _) _) hb1⟩
      by_cases k3 : e.kind = 3
      · skip
        have q1 : ((e.kind : Int) == 1) = false := by simp; omega
        have q5 : ((e.kind : Int) == 5) = false := by simp; omega
        have q2 : ((e.kind : Int) == 2) = false := by simp; omega
        have q3 : ((e.kind : Int) == 3) = true := by simp; omega
        by_cases g : e.slot ≤ 3
        · have E : Hid (En.may e = true) := Lib.hid (by rw [Hm2.out, if_neg (by omega), if_neg k2, if_pos k3]; simpa using g)
          have s1 : decide (e.slot ≤ 3) = true := by simp; omega
          have s2 : decide ((e.slot : Int) ≤ 3) = true := by simp; omega
          have s3 : ((e.slot : Int) ≤ 3) = True := by simp; omega
          clear Hm2 k1 k5 k2 k3 g
          go_enter Tryz.func152, Tryz.ntmps152
          go_wp2_with (fail)
          go_ret
          exact ⟨by rw [E.out]; rfl, bnew (Below.refl _ _) _⟩
        · have E : Hid (En.may e = false) := Lib.hid (by rw [Hm2.out, if_neg (by omega), if_neg k2, if_pos k3]; simpa using g)
          have s1 : decide (e.slot ≤ 3) = false := by simp; omega
          have s2 : decide ((e.slot : Int) ≤ 3) = false := by simp; omega
          have s3 : ((e.slot : Int) ≤ 3) = False := by simp; omega
          clear Hm2 k1 k5 k2 k3 g
          go_enter Tryz.func152, Tryz.ntmps152
          go_wp2_with (fail)
          go_ret
          exact ⟨by rw [E.out]; rfl, bnew (Below.refl _ _) _⟩
      by_cases k4 : e.kind = 4
      · skip
        have q1 : ((e.kind : Int) == 1) = false := by simp; omega
        have q5 : ((e.kind : Int) == 5) = false := by simp; omega
        have q2 : ((e.kind : Int) == 2) = false := by simp; omega
        have q3 : ((e.kind : Int) == 3) = false := by simp; omega
        have q4 : ((e.kind : Int) == 4) = true := by simp; omega
        have E : Hid (En.may e = nb) := Lib.hid (by rw [Hm2.out, if_neg (by omega), if_neg k2, if_neg k3, if_pos k4])
        clear Hm2 k1 k5 k2 k3 k4
        go_enter Tryz.func152, Tryz.ntmps152
        go_wp2_with (first | (go_at_call 219; refine (HN2.out _).mono ?_; rintro r w1 ⟨rfl, hb1⟩; have c12 := (hb1.cell (p := ⟨w.heap.size, 12, none⟩) (by simp)).trans Q12.out))
        go_ret
        exact ⟨by rw [E.out]; rfl, bnext (bnew (Below.refl _ _) _) hb1⟩
      have q1 : ((e.kind : Int) == 1) = false := by simp; omega
      have q5 : ((e.kind : Int) == 5) = false := by simp; omega
      have q2 : ((e.kind : Int) == 2) = false := by simp; omega
      have q3 : ((e.kind : Int) == 3) = false := by simp; omega
      have q4 : ((e.kind : Int) == 4) = false := by simp; omega
      have E : Hid (En.may e = false) := Lib.hid (by rw [Hm2.out, if_neg (by omega), if_neg k2, if_neg k3, if_neg k4])
      clear Hm2 k1 k5 k2 k3 k4
      go_enter Tryz.func152, Tryz.ntmps152
      go_wp2_with (fail)
      go_ret
      exact ⟨by rw [E.out]; rfl, bnew (Below.refl _ _) _⟩
    · have a2 : ((e.trm : Int) == 0) = true := by simp; omega
      have E : Hid (En.may e = false) := Lib.hid (by rw [Hmay.out, decide_eq_false i2, Bool.false_and, Bool.and_false])
      clear Hmay i1 i2
      go_enter Tryz.func152, Tryz.ntmps152
      go_wp2_with (fail)
      go_ret
      exact ⟨by rw [E.out]; rfl, bnew (Below.refl _ _) _⟩
  · have a1 : ((e.idx : Int) == 0) = true := by simp; omega
    have E : Hid (En.may e = false) := Lib.hid (by rw [Hmay.out, decide_eq_false i1, Bool.false_and])
    clear Hmay i1
    go_enter Tryz.func152, Tryz.ntmps152
    go_wp2_with (fail)
    go_ret
    exact ⟨by rw [E.out]; rfl, bnew (Below.refl _ _) _⟩
end Go.Proofs.YtdcjhpnakbejkaaGreatDoor
