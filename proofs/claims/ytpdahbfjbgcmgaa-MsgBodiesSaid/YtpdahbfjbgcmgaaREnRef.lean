/-
  wapentakeref04.Right walked. WRITTEN BY wip/tools/gen_enrefright.py.
  wapentakeref04.Write walked. WRITTEN BY wip/tools/gen_enrefwrite.py.
-/
import Derived.Test.YtpdahbfjbgcmgaaREnPlain
import Derived.Test.YtpdahbfjbgcmgaaRWords
import Derived.Test.YtpdahbfjbgcmgaaRReg
import Derived.Deep.DeepCutAuto
import Derived.Deep.CutBlock
set_option linter.unusedSimpArgs false
set_option linter.unusedVariables false
namespace Go.Proofs.Ytpdahbfjbgcmgaa
open Go.RowKit
set_option maxRecDepth 100000 in
set_option maxHeartbeats 4000000 in
theorem refRight_any (e : En.E) (w : World) : Calls Try.prog 90 #[.agg (entC e)] w (RetTr (En.may e) w) := by
  have HN2 := Lib.hid (fun W => plain_any e W)
  unfold RetTr entC at HN2
  have hmay : En.may e = (decide (1 ≤ e.idx) && (decide (1 ≤ e.trm) && (if e.kind = 1 ∨ e.kind = 5 then En.nob e && e.body.size == 0 else if e.kind = 2 then En.nob e && En.mem e.body else if e.kind = 3 then decide (e.slot ≤ 3) else if e.kind = 4 then En.nob e else false))) := rfl
  obtain ⟨nb, hnb⟩ : ∃ nb, nb = En.nob e := ⟨_, rfl⟩
  obtain ⟨mb, hmb⟩ : ∃ mb, mb = En.mem e.body := ⟨_, rfl⟩
  rw [← hnb] at HN2 hmay
  rw [← hmb] at hmay
  have Hmb := Lib.hid hmb
  have Hmay := Lib.hid hmay
  have F := entF e
  generalize entC e = X at F ⊢
  unfold RetTr at ⊢
  obtain ⟨hx, _, x0, x1, x2, x3, x4, x5, x6, x7, x8, x9, x10, x11, x12⟩ := F
  have Q12 : Hid ((w.alloc (.cells X 65)).cell? ⟨w.heap.size, 12, none⟩ = some (.string e.body)) := Lib.hid (by
    have := cell_of_row (w.alloc (.cells X 65)) w.heap.size 12 X _ _ (heap_alloc_new w _)
    rwa [Array.getElem?_eq_getElem (by omega), x12] at this)
  clear hmay hnb hmb
  by_cases i1 : 1 ≤ e.idx
  · have a1 : ((e.idx : Int) == 0) = false := by simp; omega
    by_cases i2 : 1 ≤ e.trm
    · have a2 : ((e.trm : Int) == 0) = false := by simp; omega
      have Hm2 : Hid (En.may e = (if e.kind = 1 ∨ e.kind = 5 then nb && e.body.size == 0 else if e.kind = 2 then nb && mb else if e.kind = 3 then decide (e.slot ≤ 3) else if e.kind = 4 then nb else false)) := Lib.hid (by rw [Hmay.out, decide_eq_true i1, decide_eq_true i2]; rfl)
      clear Hmay i1 i2
      by_cases k1 : e.kind = 1
      · skip
        have q1 : ((e.kind : Int) == 1) = true := by simp; omega
        cases nb
        · have E : Hid (En.may e = false) := Lib.hid (by rw [Hm2.out, if_pos (by omega)]; rfl)
          clear Hm2 k1 Hmb
          go_enter Try.func90, Try.ntmps90
          go_wp2_with (first | (go_at_call 117; refine (HN2.out _).mono ?_; rintro r w1 ⟨rfl, hb1⟩; have c12 := (hb1.cell (p := ⟨w.heap.size, 12, none⟩) (by simp)).trans Q12.out))
          go_ret
          exact ⟨by rw [E.out]; rfl, bnext (bnew (Below.refl _ _) _) hb1⟩
        · have es : ((e.body.size : Int) == 0) = (e.body.size == 0) := by rw [Bool.eq_iff_iff, beq_iff_eq, beq_iff_eq]; omega
          have E : Hid (En.may e = (e.body.size == 0)) := Lib.hid (by rw [Hm2.out, if_pos (by omega)]; rfl)
          clear Hm2 k1 Hmb
          go_enter Try.func90, Try.ntmps90
          go_wp2_with (first | (go_at_call 117; refine (HN2.out _).mono ?_; rintro r w1 ⟨rfl, hb1⟩; have c12 := (hb1.cell (p := ⟨w.heap.size, 12, none⟩) (by simp)).trans Q12.out))
          go_ret
          exact ⟨by rw [E.out]; rfl, bnext (bnew (Below.refl _ _) _) hb1⟩
      by_cases k5 : e.kind = 5
      · skip
        have q1 : ((e.kind : Int) == 1) = false := by simp; omega
        have q5 : ((e.kind : Int) == 5) = true := by simp; omega
        cases nb
        · have E : Hid (En.may e = false) := Lib.hid (by rw [Hm2.out, if_pos (by omega)]; rfl)
          clear Hm2 k5 Hmb
          go_enter Try.func90, Try.ntmps90
          go_wp2_with (first | (go_at_call 117; refine (HN2.out _).mono ?_; rintro r w1 ⟨rfl, hb1⟩; have c12 := (hb1.cell (p := ⟨w.heap.size, 12, none⟩) (by simp)).trans Q12.out))
          go_ret
          exact ⟨by rw [E.out]; rfl, bnext (bnew (Below.refl _ _) _) hb1⟩
        · have es : ((e.body.size : Int) == 0) = (e.body.size == 0) := by rw [Bool.eq_iff_iff, beq_iff_eq, beq_iff_eq]; omega
          have E : Hid (En.may e = (e.body.size == 0)) := Lib.hid (by rw [Hm2.out, if_pos (by omega)]; rfl)
          clear Hm2 k5 Hmb
          go_enter Try.func90, Try.ntmps90
          go_wp2_with (first | (go_at_call 117; refine (HN2.out _).mono ?_; rintro r w1 ⟨rfl, hb1⟩; have c12 := (hb1.cell (p := ⟨w.heap.size, 12, none⟩) (by simp)).trans Q12.out))
          go_ret
          exact ⟨by rw [E.out]; rfl, bnext (bnew (Below.refl _ _) _) hb1⟩
      by_cases k2 : e.kind = 2
      · skip
        have q1 : ((e.kind : Int) == 1) = false := by simp; omega
        have q5 : ((e.kind : Int) == 5) = false := by simp; omega
        have q2 : ((e.kind : Int) == 2) = true := by simp; omega
        cases nb
        · have E : Hid (En.may e = false) := Lib.hid (by rw [Hm2.out, if_neg (by omega), if_pos k2]; rfl)
          clear Hm2 k1 k5 k2 Hmb
          go_enter Try.func90, Try.ntmps90
          go_wp2_with (first | (go_at_call 117; refine (HN2.out _).mono ?_; rintro r w1 ⟨rfl, hb1⟩; have c12 := (hb1.cell (p := ⟨w.heap.size, 12, none⟩) (by simp)).trans Q12.out))
          go_ret
          exact ⟨by rw [E.out]; rfl, bnext (bnew (Below.refl _ _) _) hb1⟩
        · have E0 : Hid (En.may e = mb) := Lib.hid (by rw [Hm2.out, if_neg (by omega), if_pos k2]; rfl)
          clear Hm2 k1 k5 k2
          by_cases h1 : e.body.size = 1
          · have hp : 0 < e.body.size := by omega
            have d1 : ((e.body.size : Int) == 1) = true := by simp; omega
            have hm : mb = (decide (1 ≤ e.body[0].toNat) && decide (e.body[0].toNat ≤ 31)) := by
              rw [Hmb.out]
              generalize e.body = s at h1 hp ⊢
              obtain ⟨⟨l⟩⟩ := s
              match l, h1 with
              | [c], _ => rfl
            have Hm := Lib.hid hm
            clear hm h1
            by_cases g1 : 1 ≤ e.body[0].toNat
            · have e1n : decide (0 < e.body[0].toNat) = true := by simp; omega
              have e1' : decide ((0 : Int) < (e.body[0].toNat : Int)) = true := by simp; omega
              have e1'' : ((0 : Int) < (e.body[0].toNat : Int)) = True := by simp; omega
              by_cases g2 : e.body[0].toNat ≤ 31
              · have e2n : decide (e.body[0].toNat < 32) = true := by simp; omega
                have e2' : decide ((e.body[0].toNat : Int) < 32) = true := by simp; omega
                have e2'' : ((e.body[0].toNat : Int) < 32) = True := by simp; omega
                have E : Hid (En.may e = true) := Lib.hid (by rw [E0.out, Hm.out, decide_eq_true g1, decide_eq_true g2]; rfl)
                clear g1 g2
                go_enter Try.func90, Try.ntmps90
                go_wp2_with (first | (go_at_call 117; refine (HN2.out _).mono ?_; rintro r w1 ⟨rfl, hb1⟩; have c12 := (hb1.cell (p := ⟨w.heap.size, 12, none⟩) (by simp)).trans Q12.out))
                go_ret
                exact ⟨by rw [E.out]; rfl, bnext (bnew (Below.refl _ _) _) hb1⟩
              · have e2n : decide (e.body[0].toNat < 32) = false := by simp; omega
                have e2' : decide ((e.body[0].toNat : Int) < 32) = false := by simp; omega
                have e2'' : ((e.body[0].toNat : Int) < 32) = False := by simp; omega
                have E : Hid (En.may e = false) := Lib.hid (by rw [E0.out, Hm.out, decide_eq_true g1, decide_eq_false g2]; rfl)
                clear g1 g2
                go_enter Try.func90, Try.ntmps90
                go_wp2_with (first | (go_at_call 117; refine (HN2.out _).mono ?_; rintro r w1 ⟨rfl, hb1⟩; have c12 := (hb1.cell (p := ⟨w.heap.size, 12, none⟩) (by simp)).trans Q12.out))
                go_ret
                exact ⟨by rw [E.out]; rfl, bnext (bnew (Below.refl _ _) _) hb1⟩
            · have e1n : decide (0 < e.body[0].toNat) = false := by simp; omega
              have e1' : decide ((0 : Int) < (e.body[0].toNat : Int)) = false := by simp; omega
              have e1'' : ((0 : Int) < (e.body[0].toNat : Int)) = False := by simp; omega
              have E : Hid (En.may e = false) := Lib.hid (by rw [E0.out, Hm.out, decide_eq_false g1]; rfl)
              clear g1
              go_enter Try.func90, Try.ntmps90
              go_wp2_with (first | (go_at_call 117; refine (HN2.out _).mono ?_; rintro r w1 ⟨rfl, hb1⟩; have c12 := (hb1.cell (p := ⟨w.heap.size, 12, none⟩) (by simp)).trans Q12.out))
              go_ret
              exact ⟨by rw [E.out]; rfl, bnext (bnew (Below.refl _ _) _) hb1⟩
          · have d1 : ((e.body.size : Int) == 1) = false := by simp; omega
            have E : Hid (En.may e = false) := Lib.hid (by
              rw [E0.out, Hmb.out]
              unfold En.mem
              rw [Lib.size_eq] at h1
              split
              · rename_i c hc; rw [hc] at h1; exact absurd rfl h1
              · rfl)
            clear h1
            go_enter Try.func90, Try.ntmps90
            go_wp2_with (first | (go_at_call 117; refine (HN2.out _).mono ?_; rintro r w1 ⟨rfl, hb1⟩; have c12 := (hb1.cell (p := ⟨w.heap.size, 12, none⟩) (by simp)).trans Q12.out))
            go_ret
            exact ⟨by rw [E.out]; rfl, bnext (bnew (Below.refl _ _) _) hb1⟩
      by_cases k3 : e.kind = 3
      · skip
        have q1 : ((e.kind : Int) == 1) = false := by simp; omega
        have q5 : ((e.kind : Int) == 5) = false := by simp; omega
        have q2 : ((e.kind : Int) == 2) = false := by simp; omega
        have q3 : ((e.kind : Int) == 3) = true := by simp; omega
        by_cases g : e.slot ≤ 3
        · have E : Hid (En.may e = true) := Lib.hid (by rw [Hm2.out, if_neg (by omega), if_neg k2, if_pos k3]; simpa using g)
          have s1 : decide (e.slot ≤ 3) = true := by simp; omega
          have s2 : decide ((e.slot : Int) ≤ 3) = true := by simp; omega
          have s3 : ((e.slot : Int) ≤ 3) = True := by simp; omega
          clear Hm2 k1 k5 k2 k3 g
          go_enter Try.func90, Try.ntmps90
          go_wp2_with (fail)
          go_ret
          exact ⟨by rw [E.out]; rfl, bnew (Below.refl _ _) _⟩
        · have E : Hid (En.may e = false) := Lib.hid (by rw [Hm2.out, if_neg (by omega), if_neg k2, if_pos k3]; simpa using g)
          have s1 : decide (e.slot ≤ 3) = false := by simp; omega
          have s2 : decide ((e.slot : Int) ≤ 3) = false := by simp; omega
          have s3 : ((e.slot : Int) ≤ 3) = False := by simp; omega
          clear Hm2 k1 k5 k2 k3 g
          go_enter Try.func90, Try.ntmps90
          go_wp2_with (fail)
          go_ret
          exact ⟨by rw [E.out]; rfl, bnew (Below.refl _ _) _⟩
      by_cases k4 : e.kind = 4
      · skip
        have q1 : ((e.kind : Int) == 1) = false := by simp; omega
        have q5 : ((e.kind : Int) == 5) = false := by simp; omega
        have q2 : ((e.kind : Int) == 2) = false := by simp; omega
        have q3 : ((e.kind : Int) == 3) = false := by simp; omega
        have q4 : ((e.kind : Int) == 4) = true := by simp; omega
        have E : Hid (En.may e = nb) := Lib.hid (by rw [Hm2.out, if_neg (by omega), if_neg k2, if_neg k3, if_pos k4])
        clear Hm2 k1 k5 k2 k3 k4
        go_enter Try.func90, Try.ntmps90
        go_wp2_with (first | (go_at_call 117; refine (HN2.out _).mono ?_; rintro r w1 ⟨rfl, hb1⟩; have c12 := (hb1.cell (p := ⟨w.heap.size, 12, none⟩) (by simp)).trans Q12.out))
        go_ret
        exact ⟨by rw [E.out]; rfl, bnext (bnew (Below.refl _ _) _) hb1⟩
      have q1 : ((e.kind : Int) == 1) = false := by simp; omega
      have q5 : ((e.kind : Int) == 5) = false := by simp; omega
      have q2 : ((e.kind : Int) == 2) = false := by simp; omega
      have q3 : ((e.kind : Int) == 3) = false := by simp; omega
      have q4 : ((e.kind : Int) == 4) = false := by simp; omega
      have E : Hid (En.may e = false) := Lib.hid (by rw [Hm2.out, if_neg (by omega), if_neg k2, if_neg k3, if_neg k4])
      clear Hm2 k1 k5 k2 k3 k4
      go_enter Try.func90, Try.ntmps90
      go_wp2_with (fail)
      go_ret
      exact ⟨by rw [E.out]; rfl, bnew (Below.refl _ _) _⟩
    · have a2 : ((e.trm : Int) == 0) = true := by simp; omega
      have E : Hid (En.may e = false) := Lib.hid (by rw [Hmay.out, decide_eq_false i2, Bool.false_and, Bool.and_false])
      clear Hmay i1 i2
      go_enter Try.func90, Try.ntmps90
      go_wp2_with (fail)
      go_ret
      exact ⟨by rw [E.out]; rfl, bnew (Below.refl _ _) _⟩
  · have a1 : ((e.idx : Int) == 0) = true := by simp; omega
    have E : Hid (En.may e = false) := Lib.hid (by rw [Hmay.out, decide_eq_false i1, Bool.false_and])
    clear Hmay i1
    go_enter Try.func90, Try.ntmps90
    go_wp2_with (fail)
    go_ret
    exact ⟨by rw [E.out]; rfl, bnew (Below.refl _ _) _⟩
end Go.Proofs.Ytpdahbfjbgcmgaa
namespace Go.Proofs.Ytpdahbfjbgcmgaa
open Go.RowKit
set_option linter.unusedVariables false
set_option maxRecDepth 100000 in
theorem conv_one (W : World) (r k : Nat) (hk : k < 256) (h : Lies W (some ⟨r, 0, none⟩) [.int .u8 (k : Int)]) : (convert 36 9 (.slice (some ⟨r, 0, none⟩) 1 1)).run Try.prog W = .ok (.string ⟨(Cm.one k).toArray⟩) W := by
  rcases h with h | ⟨b, off, he, _, hc⟩
  · exact absurd h (List.cons_ne_nil _ _)
  · injection he with he; injection he with e1 e2; subst e1 e2
    have := hc 0 _ rfl
    refine run_convert_bytes_back W 36 9 5 ⟨r, 0, none⟩ 1 (Cm.one k) Try.underlying36 Try.underlying5 Try.underlying9 (fun j hj => ?_)
    have : j = 0 := by simp [Cm.one] at hj; omega
    subst this
    have e : ((Cm.one k)[0]'hj).toNat = k := Nm.b8_toNat k hk
    rw [e]
    assumption
noncomputable def rwr3C : Code := ((Try.f92.body.bind (Reg.findRegion 3)).getD .skip)
set_option maxRecDepth 100000 in
set_option maxHeartbeats 4000000 in
theorem rwr3 {c0 c2 c3 c4 c5 c6 c7 c8 c9 c10 c11 c12 c13 c14 c15 c16 c17 c18 c19 c20 c21 c22 c23 c24 c25 c26 c27 c28 c29 c30 c31 c32 c33 c34 c35 c36 c37 c38 c39 c40 c41 c42 c43 c44 c45 c46 c47 c48 c49 c50 c51 c52 c53 c54 c55 c56 c57 : Value} (e : En.E) (g : Nat) (u a1 b1 : ByteArray) (w : World) (h0 : w.cell? ⟨g, 0, none⟩ = some (.int .u64 (e.idx : Int))) (h1 : w.cell? ⟨g, 1, none⟩ = some (.int .u64 (e.trm : Int))) (h2 : w.cell? ⟨g, 2, none⟩ = some (.int .u8 (e.kind : Int)))
   (hconv : ∀ (W : World) (r : Nat), Lies W (some ⟨r, 0, none⟩) [.int .u8 (e.kind : Int)] → (convert 36 9 (.slice (some ⟨r, 0, none⟩) 1 1)).run Try.prog W = .ok (.string u) W)
   (hA : ∀ W, Calls Try.prog 71 #[.int .u64 (e.idx : Int)] W fun r w' => r = .returned (.string a1) ∧ Below W.heap.size W w')
   (hOb : ∀ W, Calls Try.prog 71 #[.int .u64 (e.trm : Int)] W fun r w' => r = .returned (.string b1) ∧ Below W.heap.size W w')
   (ha : ∀ W : World, (Op.stringOp .add u a1).run Try.prog W = .ok (.string (u ++ a1)) W) (hab : ∀ W : World, (Op.stringOp .add (u ++ a1) b1).run Try.prog W = .ok (.string (u ++ a1 ++ b1)) W) (Q : Exit → Act → World → Prop)
   (h : ∀ (u2 : Value) (w' : World), Below w.heap.size w w' → Q .normal ⟨#[c0, .pointer (some ⟨g, 0, none⟩), c2, .string (u ++ a1 ++ b1), c4, c5, c6, c7, .pointer (some ⟨g, 2, none⟩), .int .u8 (e.kind : Int), u2, .string u, .pointer (some ⟨g, 0, none⟩), .int .u64 (e.idx : Int), .string a1, .string (u ++ a1), .pointer (some ⟨g, 1, none⟩), .int .u64 (e.trm : Int), .string b1, .string (u ++ a1 ++ b1), c20, c21, c22, c23, c24, c25, c26, c27, c28, c29, c30, c31, c32, c33, c34, c35, c36, c37, c38, c39, c40, c41, c42, c43, c44, c45, c46, c47, c48, c49, c50, c51, c52, c53, c54, c55, c56, c57], []⟩ w') :
   Code.wp Try.prog rwr3C Q ⟨#[c0, .pointer (some ⟨g, 0, none⟩), c2, c3, c4, c5, c6, c7, c8, c9, c10, c11, c12, c13, c14, c15, c16, c17, c18, c19, c20, c21, c22, c23, c24, c25, c26, c27, c28, c29, c30, c31, c32, c33, c34, c35, c36, c37, c38, c39, c40, c41, c42, c43, c44, c45, c46, c47, c48, c49, c50, c51, c52, c53, c54, c55, c56, c57], []⟩ w := by
  obtain ⟨L, hL⟩ : ∃ L : Nat → List Value × Nat, L = fun i => match i with | 2 => ([.int .u8 (e.kind : Int)], 1) | _ => ([], 0) := ⟨_, rfl⟩
  obtain ⟨Sp, hSp⟩ : ∃ Sp : Nat → Value → World → Prop, Sp = fun i v w => ∃ r, v = .slice (some ⟨r, 0, none⟩) (L i).2 (L i).2 ∧ Lies w (some ⟨r, 0, none⟩) (L i).1 := ⟨_, rfl⟩
  rw [hL] at hSp
  conv => arg 2; whnf
  refine Reg.wp_region_inv (fun w' => Below w.heap.size w w') (fun x y => Below x.heap.size x y) (Reg.KnownI [some (.pointer (some ⟨g, 2, none⟩)), some (.int .u8 (e.kind : Int)), none, some (.string u), some (.pointer (some ⟨g, 0, none⟩)), some (.int .u64 (e.idx : Int)), some (.string a1), some (.string (u ++ a1)), some (.pointer (some ⟨g, 1, none⟩)), some (.int .u64 (e.trm : Int)), some (.string b1), some (.string (u ++ a1 ++ b1)), some (.string (u ++ a1 ++ b1))] Sp) (by kernel_rfl) (by kernel_rfl) (Reg.knownI_mono ?mono) (Below.refl _ _).drew ?steps ?fin
  case mono =>
    intro i v w w' hs hb
    rw [hSp] at hs ⊢
    obtain ⟨r, hr, hl⟩ := hs
    exact ⟨r, hr, hl.below hb⟩
  case steps =>
    intro hB
    refine ⟨?_, ?_, ?_, ?_, ?_, ?_, ?_, ?_, ?_, ?_, ?_, ?_, ?_, trivial⟩
    · -- 0: Op.fieldAddr 62 (Operand.tmp 1) 2
      refine Reg.step_run hB (Reg.runs_none rfl) (fun a w1 hI hb hd => ?_)
      have e1 : a.eval (.tmp 1) = .pointer (some ⟨g, 0, none⟩) := hb 1 (by kernel_rfl)
      refine Reg.run_value (v := .pointer (some ⟨g, 2, none⟩)) ?_ rfl (Below.refl _ _) hI
      clear hb hd
      have hc := fun v => Reg.eval_const a v
      have hf := fun f => Reg.eval_func a f
      generalize a.eval = ρ at *
      simp [execOp, go_sem, *]
    · -- 1: Op.load 5 (Operand.tmp 8)
      refine Reg.step_run hB (Reg.runs_none rfl) (fun a w1 hI hb hd => ?_)
      have e8 : a.eval (.tmp 8) = .pointer (some ⟨g, 2, none⟩) := hd 0 8 (by kernel_rfl) (by kernel_rfl)
      have hl := later hI h2
      refine Reg.run_value (v := .int .u8 (e.kind : Int)) ?_ rfl (Below.refl _ _) hI
      clear hb hd
      have hc := fun v => Reg.eval_const a v
      have hf := fun f => Reg.eval_func a f
      generalize a.eval = ρ at *
      simp [execOp, go_sem, *]
    · -- 2: Op.buildSlice 36 1 #[(0, Operand.tmp 9)]
      refine Reg.step_run hB (Reg.runs_none rfl) (fun a w1 hI hb hd => ?_)
      have e9 : a.eval (.tmp 9) = .int .u8 (e.kind : Int) := hd 1 9 (by kernel_rfl) (by kernel_rfl)
      refine Reg.run_made (v := .slice (some ⟨w1.heap.size, 0, none⟩) 1 1) (w' := w1.alloc (.cells #[.int .u8 (e.kind : Int)] 5)) ?_ (show Sp 2 _ _ by rw [hSp]; exact ⟨_, rfl, Lies.new _ ([.int .u8 (e.kind : Int)]) _⟩) (bnew (Below.refl _ _) _) (bnew hI _)
      clear hb hd
      have hc := fun v => Reg.eval_const a v
      have hf := fun f => Reg.eval_func a f
      generalize a.eval = ρ at *
      simp [execOp, go_sem, *]
    · -- 3: Op.convert 36 9 (Operand.tmp 10)
      refine Reg.step_run hB (Reg.runs_none rfl) (fun a w1 hI hb hd => ?_)
      have e10 : Sp 2 (a.eval (.tmp 10)) w1 := hd 2 10 (by kernel_rfl) (by kernel_rfl)
      rw [hSp] at e10
      obtain ⟨r, hr, hl⟩ := e10
      replace hr : a.eval (.tmp 10) = .slice (some ⟨r, 0, none⟩) 1 1 := hr
      have hcv := hconv w1 r hl
      refine Reg.run_value (v := .string u) ?_ rfl (Below.refl _ _) hI
      clear hb hd
      have hc := fun v => Reg.eval_const a v
      have hf := fun f => Reg.eval_func a f
      generalize a.eval = ρ at *
      simp [execOp, go_sem, *]
    · -- 4: Op.fieldAddr 62 (Operand.tmp 1) 0
      refine Reg.step_run hB (Reg.runs_none rfl) (fun a w1 hI hb hd => ?_)
      have e1 : a.eval (.tmp 1) = .pointer (some ⟨g, 0, none⟩) := hb 1 (by kernel_rfl)
      refine Reg.run_value (v := .pointer (some ⟨g, 0, none⟩)) ?_ rfl (Below.refl _ _) hI
      clear hb hd
      have hc := fun v => Reg.eval_const a v
      have hf := fun f => Reg.eval_func a f
      generalize a.eval = ρ at *
      simp [execOp, go_sem, *]
    · -- 5: Op.load 25 (Operand.tmp 12)
      refine Reg.step_run hB (Reg.runs_none rfl) (fun a w1 hI hb hd => ?_)
      have e12 : a.eval (.tmp 12) = .pointer (some ⟨g, 0, none⟩) := hd 4 12 (by kernel_rfl) (by kernel_rfl)
      have hl := later hI h0
      refine Reg.run_value (v := .int .u64 (e.idx : Int)) ?_ rfl (Below.refl _ _) hI
      clear hb hd
      have hc := fun v => Reg.eval_const a v
      have hf := fun f => Reg.eval_func a f
      generalize a.eval = ρ at *
      simp [execOp, go_sem, *]
    · -- 6: Op.call { callee := Callee.value (Operand.func 70), args := #[Operand.tmp 13], argTypes := #[25] }
      refine Reg.step_run hB (Reg.runs_none rfl) (fun a w1 hI hb hd => ?_)
      have e13 : a.eval (.tmp 13) = .int .u64 (e.idx : Int) := hd 5 13 (by kernel_rfl) (by kernel_rfl)
      refine Reg.run_call (f := 71) (args := #[.int .u64 (e.idx : Int)]) ?_ (hA w1) (fun _ _ => rfl) (fun _ h => bnext hI h)
      clear hb hd
      have hc := fun v => Reg.eval_const a v
      have hf := fun f => Reg.eval_func a f
      generalize a.eval = ρ at *
      simp [go_sem, *]
    · -- 7: Op.binOp BinOp.add 9 (Operand.tmp 11) (Operand.tmp 14) 9
      refine Reg.step_run hB (Reg.runs_none rfl) (fun a w1 hI hb hd => ?_)
      have e11 : a.eval (.tmp 11) = .string u := hd 3 11 (by kernel_rfl) (by kernel_rfl)
      have e14 : a.eval (.tmp 14) = .string a1 := hd 6 14 (by kernel_rfl) (by kernel_rfl)
      have ha2 := ha w1
      refine Reg.run_value (v := .string (u ++ a1)) ?_ rfl (Below.refl _ _) hI
      clear hb hd
      have hc := fun v => Reg.eval_const a v
      have hf := fun f => Reg.eval_func a f
      generalize a.eval = ρ at *
      simp [execOp, go_sem, *]
    · -- 8: Op.fieldAddr 62 (Operand.tmp 1) 1
      refine Reg.step_run hB (Reg.runs_none rfl) (fun a w1 hI hb hd => ?_)
      have e1 : a.eval (.tmp 1) = .pointer (some ⟨g, 0, none⟩) := hb 1 (by kernel_rfl)
      refine Reg.run_value (v := .pointer (some ⟨g, 1, none⟩)) ?_ rfl (Below.refl _ _) hI
      clear hb hd
      have hc := fun v => Reg.eval_const a v
      have hf := fun f => Reg.eval_func a f
      generalize a.eval = ρ at *
      simp [execOp, go_sem, *]
    · -- 9: Op.load 25 (Operand.tmp 16)
      refine Reg.step_run hB (Reg.runs_none rfl) (fun a w1 hI hb hd => ?_)
      have e16 : a.eval (.tmp 16) = .pointer (some ⟨g, 1, none⟩) := hd 8 16 (by kernel_rfl) (by kernel_rfl)
      have hl := later hI h1
      refine Reg.run_value (v := .int .u64 (e.trm : Int)) ?_ rfl (Below.refl _ _) hI
      clear hb hd
      have hc := fun v => Reg.eval_const a v
      have hf := fun f => Reg.eval_func a f
      generalize a.eval = ρ at *
      simp [execOp, go_sem, *]
    · -- 10: Op.call { callee := Callee.value (Operand.func 70), args := #[Operand.tmp 17], argTypes := #[25] }
      refine Reg.step_run hB (Reg.runs_none rfl) (fun a w1 hI hb hd => ?_)
      have e17 : a.eval (.tmp 17) = .int .u64 (e.trm : Int) := hd 9 17 (by kernel_rfl) (by kernel_rfl)
      refine Reg.run_call (f := 71) (args := #[.int .u64 (e.trm : Int)]) ?_ (hOb w1) (fun _ _ => rfl) (fun _ h => bnext hI h)
      clear hb hd
      have hc := fun v => Reg.eval_const a v
      have hf := fun f => Reg.eval_func a f
      generalize a.eval = ρ at *
      simp [go_sem, *]
    · -- 11: Op.binOp BinOp.add 9 (Operand.tmp 15) (Operand.tmp 18) 9
      refine Reg.step_run hB (Reg.runs_none rfl) (fun a w1 hI hb hd => ?_)
      have e15 : a.eval (.tmp 15) = .string (u ++ a1) := hd 7 15 (by kernel_rfl) (by kernel_rfl)
      have e18 : a.eval (.tmp 18) = .string b1 := hd 10 18 (by kernel_rfl) (by kernel_rfl)
      have ha2 := hab w1
      refine Reg.run_value (v := .string (u ++ a1 ++ b1)) ?_ rfl (Below.refl _ _) hI
      clear hb hd
      have hc := fun v => Reg.eval_const a v
      have hf := fun f => Reg.eval_func a f
      generalize a.eval = ρ at *
      simp [execOp, go_sem, *]
    · -- 12: Op.assign (Operand.tmp 19)
      refine Reg.step_run hB (Reg.runs_none rfl) (fun a w1 hI hb hd => ?_)
      have e19 : a.eval (.tmp 19) = .string (u ++ a1 ++ b1) := hd 11 19 (by kernel_rfl) (by kernel_rfl)
      exact Reg.run_value (Reg.run_assign rfl e19) rfl (Below.refl _ _) hI
  case fin =>
    intro vals w' hI hg
    have g0 : vals 0 = .pointer (some ⟨g, 2, none⟩) := hg 0 (by simp)
    have g1 : vals 1 = .int .u8 (e.kind : Int) := hg 1 (by simp)
    have g3 : vals 3 = .string u := hg 3 (by simp)
    have g4 : vals 4 = .pointer (some ⟨g, 0, none⟩) := hg 4 (by simp)
    have g5 : vals 5 = .int .u64 (e.idx : Int) := hg 5 (by simp)
    have g6 : vals 6 = .string a1 := hg 6 (by simp)
    have g7 : vals 7 = .string (u ++ a1) := hg 7 (by simp)
    have g8 : vals 8 = .pointer (some ⟨g, 1, none⟩) := hg 8 (by simp)
    have g9 : vals 9 = .int .u64 (e.trm : Int) := hg 9 (by simp)
    have g10 : vals 10 = .string b1 := hg 10 (by simp)
    have g11 : vals 11 = .string (u ++ a1 ++ b1) := hg 11 (by simp)
    have g12 : vals 12 = .string (u ++ a1 ++ b1) := hg 12 (by simp)
    refine Reg.fin_of (y := #[c0, .pointer (some ⟨g, 0, none⟩), c2, vals 12, c4, c5, c6, c7, vals 0, vals 1, vals 2, vals 3, vals 4, vals 5, vals 6, vals 7, vals 8, vals 9, vals 10, vals 11, c20, c21, c22, c23, c24, c25, c26, c27, c28, c29, c30, c31, c32, c33, c34, c35, c36, c37, c38, c39, c40, c41, c42, c43, c44, c45, c46, c47, c48, c49, c50, c51, c52, c53, c54, c55, c56, c57]) (by kernel_rfl) ?_
    rw [g0, g1, g3, g4, g5, g6, g7, g8, g9, g10, g11, g12]
    exact h (vals 2) w' hI

theorem tok_take (t : Og.Tk) (k : Nat) (h : k < 8) : t.l.take (k + 1) = t.l.take k ++ [t.l[k]'(by rw [tokl_len]; exact h)] := List.take_succ_eq_append_getElem (by rw [tokl_len]; exact h)
set_option maxRecDepth 100000 in
set_option maxHeartbeats 4000000 in
theorem refWrite_any (e : En.E) (hf : En.Fits e) (hz : e.body.size ≤ 1000000) (w : World) : Calls Try.prog 92 #[.agg (entC e)] w (RetS (En.write e) w) := by
  have HR := Lib.hid (fun W => refRight_any e W)
  unfold RetTr entC at HR
  obtain ⟨u, hu⟩ : ∃ u : ByteArray, u = ⟨(Cm.one e.kind).toArray⟩ := ⟨_, rfl⟩
  obtain ⟨a1, ha1⟩ : ∃ u : ByteArray, u = ⟨(Nm.grp e.idx).toArray⟩ := ⟨_, rfl⟩
  obtain ⟨b1, hb1⟩ : ∃ u : ByteArray, u = ⟨(Nm.grp e.trm).toArray⟩ := ⟨_, rfl⟩
  obtain ⟨us, hus⟩ : ∃ u : ByteArray, u = ⟨#[Nm.b8 e.slot]⟩ := ⟨_, rfl⟩
  obtain ⟨b, hb⟩ : ∃ b : ByteArray, b = ⟨(Cm.txt e.body).toArray⟩ := ⟨_, rfl⟩
  have zu : u.size = 1 := by rw [hu]; rfl
  have za : a1.size ≤ 10 := by rw [ha1, Lib.size_eq]; exact grp_len _ hf.idx
  have zb1 : b1.size ≤ 10 := by rw [hb1, Lib.size_eq]; exact grp_len _ hf.trm
  have zs : us.size = 1 := by rw [hus]; rfl
  have zb : b.size ≤ 1000010 := by
    rw [hb, Lib.size_eq]
    have h1 := grp_len e.body.size (by unfold Nm.top; omega)
    show (Cm.txt e.body).length ≤ _
    unfold Cm.txt row
    rw [List.length_append, ← Lib.size_eq]; omega
  have hA : ∀ W, Calls Try.prog 71 #[.int .u64 (e.idx : Int)] W fun r w' => r = .returned (.string a1) ∧ Below W.heap.size W w' := fun W => by
    have := refOne_any e.idx hf.idx W
    unfold RetS at this
    rw [← ha1] at this; exact this
  have hB : ∀ W, Calls Try.prog 71 #[.int .u64 (e.trm : Int)] W fun r w' => r = .returned (.string b1) ∧ Below W.heap.size W w' := fun W => by
    have := refOne_any e.trm hf.trm W
    unfold RetS at this
    rw [← hb1] at this; exact this
  have hS : ∀ (W : World) (A : Option Addr), Lies W A (sc [e.body]) → Calls Try.prog 91 #[.slice A 1 1] W fun r w' => r = .returned (.string b) ∧ Below W.heap.size W w' := fun W A hA => by
    have hsr : sr [e.body] = Cm.txt e.body := by simp [sr, Cm.txt]
    have := refS_any [e.body] A 1 W hA (by simp) (by
      rw [hsr]
      have : b.size = (Cm.txt e.body).length := by rw [hb, Lib.size_eq]
      omega)
    unfold RetS at this
    rw [hsr, ← hb] at this; exact this
  have hcv : ∀ (W : World) (r : Nat), Lies W (some ⟨r, 0, none⟩) [.int .u8 (e.kind : Int)] → (convert 36 9 (.slice (some ⟨r, 0, none⟩) 1 1)).run Try.prog W = .ok (.string u) W := fun W r h => by
    have := conv_one W r e.kind hf.kind h
    rw [← hu] at this; exact this
  have hcs : ∀ W : World, (convert 36 9 (.slice (some ⟨W.heap.size, 0, none⟩) 1 1)).run Try.prog (W.alloc (.cells #[.int .u8 (e.slot : Int)] 5)) = .ok (.string us) (W.alloc (.cells #[.int .u8 (e.slot : Int)] 5)) := fun W => by
    have := str1 W (e.slot : Int) (Nm.b8 e.slot) (by rw [Nm.b8_toNat _ hf.slot])
    rw [← hus] at this; exact this
  have hx1 : ∀ W : World, (Op.stringOp .add u a1).run Try.prog W = .ok (.string (u ++ a1)) W := fun W => run_string_add_sum W _ _ (by omega)
  have hx2 : ∀ W : World, (Op.stringOp .add (u ++ a1) b1).run Try.prog W = .ok (.string (u ++ a1 ++ b1)) W := fun W => run_string_add_sum W _ _ (by simp only [ByteArray.size_append]; omega)
  have hE3 : En.may e = true → e.kind = 3 → (⟨(En.write e).toArray⟩ : ByteArray) = u ++ a1 ++ b1 ++ us ++ ⟨e.tok.l.toArray⟩ ++ b := fun hm h3 => by
    unfold En.write En.enc En.own En.bod
    rw [hm, if_pos rfl, if_pos h3, if_pos (by unfold En.hasB; omega), hu, ha1, hb1, hus, hb]
    simp [ByteArray.mk_append_mk, Cm.one]
  have hE2 : En.may e = true → e.kind ≠ 3 → En.hasB e.kind → (⟨(En.write e).toArray⟩ : ByteArray) = u ++ a1 ++ b1 ++ b := fun hm h3 hb2 => by
    unfold En.write En.enc En.own En.bod
    rw [hm, if_pos rfl, if_neg h3, if_pos hb2, hu, ha1, hb1, hb]
    simp [ByteArray.mk_append_mk]
  have hE1 : En.may e = true → ¬ En.hasB e.kind → (⟨(En.write e).toArray⟩ : ByteArray) = u ++ a1 ++ b1 := fun hm h3 => by
    unfold En.write En.enc En.own En.bod
    rw [hm, if_pos rfl, if_neg (by unfold En.hasB at h3; omega), if_neg h3, hu, ha1, hb1]
    simp [ByteArray.mk_append_mk]
  obtain ⟨s0, hs0⟩ : ∃ s0, s0 = u ++ a1 ++ b1 := ⟨_, rfl⟩
  have zs0 : s0.size ≤ 30 := by rw [hs0]; simp only [ByteArray.size_append]; omega
  rw [← hs0] at hE1 hE2 hE3
  have hy1 : ∀ W : World, (Op.stringOp .add s0 b).run Try.prog W = .ok (.string (s0 ++ b)) W := fun W => run_string_add_sum W _ _ (by omega)
  have hy2 : ∀ W : World, (Op.stringOp .add s0 us).run Try.prog W = .ok (.string (s0 ++ us)) W := fun W => run_string_add_sum W _ _ (by omega)
  have zs1 : (s0 ++ us).size ≤ 40 := by simp only [ByteArray.size_append]; omega
  have HA := Lib.hid hA
  have HB := Lib.hid hB
  have HS := Lib.hid hS
  have HC := Lib.hid hcv
  have X1 := Lib.hid hx1
  have X2 := Lib.hid hx2
  have HS0 := Lib.hid hs0
  have Hfit := Lib.hid hf
  have F := entF e
  obtain ⟨X, hX⟩ : ∃ X, X = entC e := ⟨_, rfl⟩
  rw [← hX] at F ⊢
  have HX := Lib.hid hX
  obtain ⟨hx, _, x0, x1, x2, x3, x4, x5, x6, x7, x8, x9, x10, x11, x12⟩ := F
  clear hX hA hB hS hcv hx1 hx2 zu za zb1 zs hu ha1 hb1 hus hb hf hz hs0
  rcases hm : En.may e with _ | _
  · have E : Hid (En.write e = []) := Lib.hid (by unfold En.write; rw [hm]; rfl)
    have HM := Lib.hid hm
    clear hm hE1 hE2 hE3
    go_enter Try.func92, Try.ntmps92
    go_wp2_with fail
    refine (HR.out _).mono ?_
    rw [HM.out]
    rintro r w1 ⟨rfl, hb1⟩
    go_wp2_with fail
    go_ret
    exact ⟨by rw [E.out]; rfl, bnext (bnew (Below.refl _ _) _) hb1⟩
  · skip
    replace hE1 := hE1 hm
    replace hE2 := hE2 hm
    replace hE3 := hE3 hm
    have HM := Lib.hid hm
    clear hm
    by_cases k3 : e.kind = 3
    · have q2 : ((e.kind : Int) == 2) = false := by simp; omega
      have q4 : ((e.kind : Int) == 4) = false := by simp; omega
      have q3 : ((e.kind : Int) == 3) = true := by simp; omega
      have Hfin := Lib.hid (hE3 k3)
      clear hE1 hE2 hE3 k3
      go_enter Try.func92, Try.ntmps92
      go_wp2_with fail
      refine (HR.out _).mono ?_
      rw [HM.out]
      rintro r w1 ⟨rfl, hb1⟩
      go_upto_region 3 with (fail)
      refine forget (fun W => Below w.heap.size w W ∧ W.heap[w.heap.size]? = some (.cells X 65 (0, 0))) ⟨bnext (bnew (Below.refl _ _) _) hb1, (hb1.block _ (by simp)).trans (heap_alloc_new w _)⟩ ?_
      rintro W1 ⟨hbW, hrow⟩
      have HW1 := Lib.hid (And.intro hbW hrow)
      rw [HX.out] at hrow
      have EA := entAt hrow
      obtain ⟨g, hg⟩ : ∃ g, g = w.heap.size := ⟨_, rfl⟩
      have HG := Lib.hid hg
      rw [← hg] at EA ⊢
      clear hb1 hbW hrow hg
      refine rwr3 e g u a1 b1 W1 EA.c0 EA.c1 EA.c2 HC.out HA.out HB.out X1.out X2.out _ ?_
      rw [← HS0.out]
      intro u1 W2 hb2
      go_upto_region 4 with (fail)
      refine forget (fun W => Below w.heap.size w W ∧ W.heap[g]? = some (.cells (entC e) 65 (0, 0))) ⟨bnext HW1.out.1 hb2, (hb2.block _ (by rw [HG.out]; exact (Array.getElem?_eq_some_iff.1 HW1.out.2).1)).trans (by rw [HG.out, ← HX.out]; exact HW1.out.2)⟩ ?_
      rintro W3 ⟨hb3, hr3⟩
      have H3 := Lib.hid (And.intro hb3 hr3)
      obtain ⟨c0, c1, c2, c3, c4, c5, c6, c7, c8, c9, c10, c11, c12, _⟩ := entAt hr3
      clear EA hb2 hb3 hr3 HW1
      go_wp2_with fail
      clear c0 c1 c2 c3 c4 c5 c6 c7 c8 c9 c10 c11 c12 hcs hy1 hy2
      have HB4 := Lib.hid (bnew (Below.refl W3.heap.size W3) (.cells #[.int .u8 (e.slot : Int)] 5))
      generalize W3.alloc (.cells #[.int .u8 (e.slot : Int)] 5) = W4 at *
      obtain ⟨s1, hs1⟩ : ∃ s1, s1 = s0 ++ us := ⟨_, rfl⟩
      rw [← hs1] at Hfin zs1 ⊢
      clear hs1
      go_loopw [3, 4] (fun v i wr => ∃ (k : Nat) (s : ByteArray), k ≤ 8 ∧ i = .int .i64 (k : Int) ∧ v = .string s ∧ s = s1 ++ ⟨(e.tok.l.take k).toArray⟩ ∧ Below W3.heap.size W3 wr) (fun _ i _ => 8 - (intOf i).toNat)
      case atStart => exact ⟨0, s1, by omega, rfl, rfl, by apply ByteArray.ext; simp [ByteArray.data_append], HB4.out⟩
      case round =>
        obtain ⟨k, s, hk, rfl, rfl, hs, hbk⟩ := hrel
        have zs : s.size ≤ 60 := by
          rw [hs, ByteArray.size_append]
          have : (⟨(e.tok.l.take k).toArray⟩ : ByteArray).size ≤ 8 := by
            rw [Lib.size_eq]
            show (e.tok.l.take k).length ≤ 8
            rw [List.length_take]; have := tokl_len e.tok; omega
          omega
        have Hbk := Lib.hid hbk
        have Hs := Lib.hid hs
        clear hs hbk
        by_cases hlt : k < 8
        · have hcell : wr.cell? ⟨g, 4 + k, none⟩ = some (.int .u8 ((e.tok.l[k]'(by rw [tokl_len]; exact hlt)).toNat : Int)) := by
            have h := cell_of_row W3 g (4 + k) _ _ _ H3.out.2
            rw [entC_tok e k hlt] at h
            exact later Hbk.out h
          obtain ⟨c, hc⟩ : ∃ c : UInt8, c = e.tok.l[k]'(by rw [tokl_len]; exact hlt) := ⟨_, rfl⟩
          rw [← hc] at hcell
          have hst := tok_take e.tok k hlt
          rw [← hc] at hst
          have Hst := Lib.hid hst
          have k0 : (0 : Int) ≤ (k : Int) := by omega
          have k1 : (k : Int) < 8 := by omega
          have hcv := str1 wr (c.toNat : Int) c rfl
          obtain ⟨cc, hcc⟩ : ∃ cc : ByteArray, cc = ⟨#[c]⟩ := ⟨_, rfl⟩
          have zc : cc.size = 1 := by rw [hcc]; rfl
          rw [← hcc] at hcv
          have hadd : ∀ W : World, (Op.stringOp .add s cc).run Try.prog W = .ok (.string (s ++ cc)) W := fun W => run_string_add_sum W _ _ (by omega)
          have Hcc := Lib.hid hcc
          clear hst hc hcc
          go_wp2_with fail
          go_roundw
          case rel => exact ⟨k + 1, s ++ cc, by omega, by go_num, rfl, by rw [Hs.out, Hcc.out, Hst.out]; apply ByteArray.ext; simp [ByteArray.data_append], bnew Hbk.out _⟩
          case measure => simp [intOf]; omega
        · obtain rfl : k = 8 := by omega
          have h12 : wr.cell? ⟨g, 12, none⟩ = some (.string e.body) := later Hbk.out (entAt H3.out.2).c12
          have hadd : ∀ W : World, (Op.stringOp .add s b).run Try.prog W = .ok (.string (s ++ b)) W := fun W => run_string_add_sum W _ _ (by omega)
          go_wp2_with fail
          refine (HS.out _ _ (Lies.at_ _ [Value.string e.body] _ _ rfl)).mono ?_
          rintro r w5 ⟨rfl, hb5⟩
          go_wp2_with fail
          go_ret
          refine ⟨?_, bnext H3.out.1 (bnext (bnew Hbk.out _) hb5)⟩
          rw [Hfin.out]
          have e8 : e.tok.l.take 8 = e.tok.l := List.take_of_length_le (by rw [tokl_len]; exact Nat.le_refl _)
          have := Hs.out
          rw [e8] at this
          rw [← this]; rfl
    by_cases k2 : e.kind = 2
    · have q2 : ((e.kind : Int) == 2) = true := by simp; omega
      have Hfin := Lib.hid (hE2 k3 (by unfold En.hasB; omega))
      clear hE1 hE2 hE3 k3 k2
      go_enter Try.func92, Try.ntmps92
      go_wp2_with fail
      refine (HR.out _).mono ?_
      rw [HM.out]
      rintro r w1 ⟨rfl, hb1⟩
      go_upto_region 3 with (fail)
      refine forget (fun W => Below w.heap.size w W ∧ W.heap[w.heap.size]? = some (.cells X 65 (0, 0))) ⟨bnext (bnew (Below.refl _ _) _) hb1, (hb1.block _ (by simp)).trans (heap_alloc_new w _)⟩ ?_
      rintro W1 ⟨hbW, hrow⟩
      have HW1 := Lib.hid (And.intro hbW hrow)
      rw [HX.out] at hrow
      have EA := entAt hrow
      obtain ⟨g, hg⟩ : ∃ g, g = w.heap.size := ⟨_, rfl⟩
      have HG := Lib.hid hg
      rw [← hg] at EA ⊢
      clear hb1 hbW hrow hg
      refine rwr3 e g u a1 b1 W1 EA.c0 EA.c1 EA.c2 HC.out HA.out HB.out X1.out X2.out _ ?_
      rw [← HS0.out]
      intro u1 W2 hb2
      go_upto_region 4 with (fail)
      refine forget (fun W => Below w.heap.size w W ∧ W.heap[g]? = some (.cells (entC e) 65 (0, 0))) ⟨bnext HW1.out.1 hb2, (hb2.block _ (by rw [HG.out]; exact (Array.getElem?_eq_some_iff.1 HW1.out.2).1)).trans (by rw [HG.out, ← HX.out]; exact HW1.out.2)⟩ ?_
      rintro W3 ⟨hb3, hr3⟩
      have H3 := Lib.hid (And.intro hb3 hr3)
      obtain ⟨c0, c1, c2, c3, c4, c5, c6, c7, c8, c9, c10, c11, c12, _⟩ := entAt hr3
      clear EA hb2 hb3 hr3 HW1
      go_wp2_with fail
      refine (HS.out _ _ (Lies.at_ _ [Value.string e.body] _ _ rfl)).mono ?_
      rintro r w5 ⟨rfl, hb5⟩
      go_wp2_with fail
      go_ret
      exact ⟨by rw [Hfin.out]; rfl, bnext H3.out.1 (bnext (bnew (Below.refl _ _) _) hb5)⟩
    by_cases k4 : e.kind = 4
    · have q2 : ((e.kind : Int) == 2) = false := by simp; omega
      have q4 : ((e.kind : Int) == 4) = true := by simp; omega
      have Hfin := Lib.hid (hE2 k3 (by unfold En.hasB; omega))
      clear hE1 hE2 hE3 k3 k4
      go_enter Try.func92, Try.ntmps92
      go_wp2_with fail
      refine (HR.out _).mono ?_
      rw [HM.out]
      rintro r w1 ⟨rfl, hb1⟩
      go_upto_region 3 with (fail)
      refine forget (fun W => Below w.heap.size w W ∧ W.heap[w.heap.size]? = some (.cells X 65 (0, 0))) ⟨bnext (bnew (Below.refl _ _) _) hb1, (hb1.block _ (by simp)).trans (heap_alloc_new w _)⟩ ?_
      rintro W1 ⟨hbW, hrow⟩
      have HW1 := Lib.hid (And.intro hbW hrow)
      rw [HX.out] at hrow
      have EA := entAt hrow
      obtain ⟨g, hg⟩ : ∃ g, g = w.heap.size := ⟨_, rfl⟩
      have HG := Lib.hid hg
      rw [← hg] at EA ⊢
      clear hb1 hbW hrow hg
      refine rwr3 e g u a1 b1 W1 EA.c0 EA.c1 EA.c2 HC.out HA.out HB.out X1.out X2.out _ ?_
      rw [← HS0.out]
      intro u1 W2 hb2
      go_upto_region 4 with (fail)
      refine forget (fun W => Below w.heap.size w W ∧ W.heap[g]? = some (.cells (entC e) 65 (0, 0))) ⟨bnext HW1.out.1 hb2, (hb2.block _ (by rw [HG.out]; exact (Array.getElem?_eq_some_iff.1 HW1.out.2).1)).trans (by rw [HG.out, ← HX.out]; exact HW1.out.2)⟩ ?_
      rintro W3 ⟨hb3, hr3⟩
      have H3 := Lib.hid (And.intro hb3 hr3)
      obtain ⟨c0, c1, c2, c3, c4, c5, c6, c7, c8, c9, c10, c11, c12, _⟩ := entAt hr3
      clear EA hb2 hb3 hr3 HW1
      go_wp2_with fail
      refine (HS.out _ _ (Lies.at_ _ [Value.string e.body] _ _ rfl)).mono ?_
      rintro r w5 ⟨rfl, hb5⟩
      go_wp2_with fail
      go_ret
      exact ⟨by rw [Hfin.out]; rfl, bnext H3.out.1 (bnext (bnew (Below.refl _ _) _) hb5)⟩
    have q2 : ((e.kind : Int) == 2) = false := by simp; omega
    have q4 : ((e.kind : Int) == 4) = false := by simp; omega
    have q3 : ((e.kind : Int) == 3) = false := by simp; omega
    have Hfin := Lib.hid (hE1 (by unfold En.hasB; omega))
    clear hE1 hE2 hE3 k3 k2 k4
    go_enter Try.func92, Try.ntmps92
    go_wp2_with fail
    refine (HR.out _).mono ?_
    rw [HM.out]
    rintro r w1 ⟨rfl, hb1⟩
    go_upto_region 3 with (fail)
    refine forget (fun W => Below w.heap.size w W ∧ W.heap[w.heap.size]? = some (.cells X 65 (0, 0))) ⟨bnext (bnew (Below.refl _ _) _) hb1, (hb1.block _ (by simp)).trans (heap_alloc_new w _)⟩ ?_
    rintro W1 ⟨hbW, hrow⟩
    have HW1 := Lib.hid (And.intro hbW hrow)
    rw [HX.out] at hrow
    have EA := entAt hrow
    obtain ⟨g, hg⟩ : ∃ g, g = w.heap.size := ⟨_, rfl⟩
    have HG := Lib.hid hg
    rw [← hg] at EA ⊢
    clear hb1 hbW hrow hg
    refine rwr3 e g u a1 b1 W1 EA.c0 EA.c1 EA.c2 HC.out HA.out HB.out X1.out X2.out _ ?_
    rw [← HS0.out]
    intro u1 W2 hb2
    go_upto_region 4 with (fail)
    refine forget (fun W => Below w.heap.size w W ∧ W.heap[g]? = some (.cells (entC e) 65 (0, 0))) ⟨bnext HW1.out.1 hb2, (hb2.block _ (by rw [HG.out]; exact (Array.getElem?_eq_some_iff.1 HW1.out.2).1)).trans (by rw [HG.out, ← HX.out]; exact HW1.out.2)⟩ ?_
    rintro W3 ⟨hb3, hr3⟩
    have H3 := Lib.hid (And.intro hb3 hr3)
    obtain ⟨c0, c1, c2, c3, c4, c5, c6, c7, c8, c9, c10, c11, c12, _⟩ := entAt hr3
    clear EA hb2 hb3 hr3 HW1
    go_wp2_with fail
    go_ret
    exact ⟨by rw [Hfin.out]; rfl, H3.out.1⟩
end Go.Proofs.Ytpdahbfjbgcmgaa
