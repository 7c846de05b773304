/-
  ReadsPlays walked, zero = false. (gen_rdplay.py)
-/
import Derived.Test.YtlnohjboldenpaaPRdPlayH
set_option linter.unusedSimpArgs false
set_option linter.unusedVariables false
namespace Go.Proofs.Ytlnohjboldenpaa
open Go.RowKit Go.Sort
set_option maxRecDepth 100000 in
set_option maxHeartbeats 16000000 in
theorem readsPlays_false (w : World) (A : Option Addr) (cp : Nat) (gs : List Rda) (hA : Lies w A (ras gs)) (hgs : ∀ g ∈ gs, RaFit g) (hl : gs.length ≤ maxLen) :
    Calls Try.prog 10 #[.slice A gs.length cp, .bool false] w (RetR (.bool true) w) := by
  have HAw := Lib.hid rdAwake_any
  simp only [maxLen] at hl
  by_cases hlen : 200 < gs.length
  · have q1 : decide (200 < gs.length) = true := decide_eq_true hlen
    have q2 : ((200 : Int) < ((gs.length : Nat) : Int)) = True := by simp; omega
    clear hA hgs
    go_enter Try.func10, Try.ntmps10
    go_wp2_with (go_at_call 41; refine (HAw.out _).mono ?_; rintro e w1 ⟨rfl, b1⟩)
    go_ret
    exact ⟨rfl, b1⟩
  have q1 : decide (200 < gs.length) = false := decide_eq_false hlen
  have q2 : ((200 : Int) < ((gs.length : Nat) : Int)) = False := by simp; omega
  have HL := Lib.hid hA
  have HF := Lib.hid (fun k (hk : k < gs.length) => hgs _ (List.getElem_mem hk))
  have HN : Hid (Calls Try.prog 42 #[] w fun e w' => ∃ p, e = .returned (.pointer (some ⟨p, 0, none⟩)) ∧ RZ w w' p ⟨[], []⟩ (fun _ => False)) := Lib.hid ((rz_new (Z := fun _ => False) (Below.refl _ _) (fun k h => h.elim)).mono fun e w' ⟨p, h1, h2, _⟩ => ⟨p, h1, h2⟩)
  obtain ⟨n, hn⟩ : ∃ n, n = gs.length := ⟨_, rfl⟩
  have Hn := Lib.hid hn
  rw [← hn] at q1 q2 hlen hl ⊢
  have hn200 : n ≤ 200 := by omega
  clear hA hgs hn
  go_enter Try.func10, Try.ntmps10
  go_upto_region 7 with (go_at_call 42; refine HN.out.mono ?_; rintro e w1 ⟨p, rfl, i1⟩)
  refine forget (fun W => PM w W p w1.heap.size ⟨[], []⟩ none 0 none 0) (pm_new i1) ?_
  intro W hM
  clear i1 HN
  generalize w1.heap.size = gw at hM ⊢
  have HM := Lib.hid hM
  clear hM
  go_wp2_with fail
  go_loopw [7] (fun iv wr => ∃ (k : Nat) (r : Rd.R) (A1 : Option Addr) (c1 : Nat) (B1 : Option Addr) (d1 : Nat), k ≤ n ∧ iv = .int .i64 (k : Int) ∧ r.b.length + r.w.length ≤ k ∧ Rd.Mono r.b ∧ PM w wr p gw r A1 c1 B1 d1) (fun iv _ => n - (intOf iv).toNat)
  case atStart => exact ⟨0, ⟨[], []⟩, none, 0, none, 0, Nat.zero_le _, rfl, by simp, Rd.mono_nil, HM.out⟩
  case round =>
    obtain ⟨k, r, A1, c1, B1, d1, hkn, rfl, hsz, hmo, hM⟩ := hrel
    have HMr := Lib.hid hM
    clear HM
    by_cases hlt : k < n
    · have hkr : k < gs.length := by rw [← Hn.out]; exact hlt
      have hbl := hM.rz.bl
      obtain ⟨gb, go, rfl, _, e0, e1, e2⟩ := (HL.out.below hbl).ra k hkr
      have HCs : Hid (∀ W, Below w.heap.size w W → W.cell? ⟨gb, go + k * 3, none⟩ = some (.int .u8 ((gs[k].op : Nat) : Int)) ∧ W.cell? ⟨gb, go + k * 3 + 1, none⟩ = some (.int .u64 ((gs[k].a : Nat) : Int)) ∧ W.cell? ⟨gb, go + k * 3 + 2, none⟩ = some (.int .u64 ((gs[k].b : Nat) : Int))) := Lib.hid fun W hb => by
        obtain ⟨gb', go', he, _, d0, d1, d2⟩ := (HL.out.below hb).ra k hkr
        obtain ⟨rfl, rfl⟩ : gb = gb' ∧ go = go' := by injection he with he; injection he with h1 h2; exact ⟨h1, h2⟩
        exact ⟨d0, d1, d2⟩
      have hfit := HF.out k hkr
      obtain ⟨o, ho⟩ : ∃ o, o = gs[k].op := ⟨_, rfl⟩
      obtain ⟨u, hu⟩ : ∃ u, u = gs[k].a := ⟨_, rfl⟩
      obtain ⟨v, hv⟩ : ∃ v, v = gs[k].b := ⟨_, rfl⟩
      have f1 : u < Nm.top := by rw [hu]; exact hfit.a
      have f2 : v < Nm.top := by rw [hv]; exact hfit.b
      rw [← ho, ← hu, ← hv] at HCs
      rw [← ho] at e0
      rw [← hu] at e1
      rw [← hv] at e2
      have HD := Lib.hid (does13_any hM.rz o u v f1 f2 (by omega))
      have HSd : Hid (∀ W, DV W r A1 c1 B1 d1 → Calls Try.prog 44 #[.agg #[.slice A1 r.b.length c1, .slice B1 r.w.length d1], .agg #[.int .u8 (o : Int), .int .u64 (u : Int), .int .u64 (v : Int)]] W fun e w' => ∃ Y5 A' c' B' d' O co Q cq, e = .returned (.tuple #[.agg Y5, .bool (Rd.tb r o u), .int .i64 (Rd.tn r o : Int), .slice O (Rd.tx r o u).length co, .slice Q (Rd.ty r o).length cq]) ∧ Y5.size = 2 ∧ Y5.all (·.oneCell') = true ∧ Hid (Y5 = #[.slice A' (Rd.step r o u v).b.length c', .slice B' (Rd.step r o u v).w.length d']) ∧ DV w' (Rd.step r o u v) A' c' B' d' ∧ (∀ b, blk A' = some b → blk A1 = some b ∨ W.heap.size ≤ b) ∧ (∀ b, blk B' = some b → blk B1 = some b ∨ W.heap.size ≤ b) ∧ Lies w' O (rdc (Rd.tx r o u)) ∧ Lies w' Q (uc (Rd.ty r o)) ∧ Below W.heap.size W w') := Lib.hid fun W hW => said13_op W r A1 c1 B1 d1 hW hmo o u v (by omega)
      have hmo2 := Rd.mono_step r hmo o u v
      have hsz2 := Rd.size_step r o u v
      have hlx := Rd.tx_len r o u
      have hly := Rd.ty_len r o
      obtain ⟨R, hR⟩ : ∃ R, R = Rd.step r o u v := ⟨_, rfl⟩
      obtain ⟨X, hX⟩ : ∃ X, X = Rd.tx r o u := ⟨_, rfl⟩
      obtain ⟨Y, hY⟩ : ∃ Y, Y = Rd.ty r o := ⟨_, rfl⟩
      obtain ⟨tb, htb⟩ : ∃ tb, tb = Rd.tb r o u := ⟨_, rfl⟩
      obtain ⟨tn, htn⟩ : ∃ tn, tn = Rd.tn r o := ⟨_, rfl⟩
      rw [← hR, ← hX, ← hY, ← htb, ← htn] at HD HSd
      rw [← hR] at hmo2 hsz2
      rw [← hX] at hlx
      rw [← hY] at hly
      have HMo := Lib.hid hmo2
      have HSz : Hid (R.b.length + R.w.length ≤ k + 1) := Lib.hid (by omega)
      unfold RetDo at HD
      obtain ⟨LX, hLX⟩ : ∃ LX, LX = X.length := ⟨_, rfl⟩
      obtain ⟨LY, hLY⟩ : ∃ LY, LY = Y.length := ⟨_, rfl⟩
      have HLX := Lib.hid hLX
      have HLY := Lib.hid hLY
      have hlx2 : LX ≤ 201 := by omega
      have hly2 : LY ≤ 201 := by omega
      rw [← hLX, ← hLY] at HD HSd
      obtain ⟨rb, hrb⟩ : ∃ rb, rb = r.b.length := ⟨_, rfl⟩
      obtain ⟨rw0, hrw⟩ : ∃ rw0, rw0 = r.w.length := ⟨_, rfl⟩
      have HRB := Lib.hid hrb
      have HRW := Lib.hid hrw
      rw [← hrb, ← hrw] at HSd
      have HW0 := Lib.hid hbl.size
      clear ho hu hv hfit hkr hbl hM hmo hmo2 hsz hsz2 hlx hly hR hX hY htb htn hLX hLY hrb hrw f1 f2
      go_upto_region 11 with (go_at_call 43; refine HD.out.mono ?_; rintro e w2 ⟨Ax, cx, Bx, dx, rfl, m1, m2, m3, m4, m5, m6⟩)
      have HP := Lib.hid (HMr.out.p10 m1 m2 m3 m5 m6)
      have HZ1 := Lib.hid m6.size
      clear m1 m2 m3 m4 m5 m6 HD e0 e1 e2
      -- the document's answer, in whatever order
      have hV : Below w2.heap.size w2 ((w2.alloc (.cells #[.slice none 0 0, .slice none 0 0] 86)).drew) := below_drew (bnew (Below.refl _ _) _)
      have hU : Below w2.heap.size w2 w2.drew := below_drew (Below.refl _ _)
      obtain ⟨x0, x1, x2⟩ := HCs.out w2 HP.out.rz.bl
      obtain ⟨y0, y1, y2⟩ := HCs.out _ (bnext HP.out.rz.bl hV)
      have r0 := HP.out.row.cell 0 (v := .slice A1 r.b.length c1) rfl
      have r1 := HP.out.row.cell 1 (v := .slice B1 r.w.length d1) rfl
      have s0 := later hV r0
      have s1 := later hV r1
      rw [← HRB.out] at r0 s0
      rw [← HRW.out] at r1 s1
      have HDa := Lib.hid (HSd.out _ (HP.out.dv.bel hU))
      have HDb := Lib.hid (HSd.out _ (HP.out.dv.bel hV))
      have HFa : Hid (∀ w5 (Y5 : Array Value) A2 c2 B2 d2 O Q, Below w2.drew.heap.size w2.drew w5 → Y5.size = 2 → Y5.all (·.oneCell') = true → DV w5 R A2 c2 B2 d2 → (∀ b, blk A2 = some b → blk A1 = some b ∨ w2.drew.heap.size ≤ b) → (∀ b, blk B2 = some b → blk B1 = some b ∨ w2.drew.heap.size ≤ b) → Lies w5 O (rdc X) → Lies w5 Q (uc Y) →
          (storeCells ⟨w5.heap.size, 0, none⟩ Y5.toList 0).run Try.prog (w5.alloc (.cells #[.slice none 0 0, .slice none 0 0] 86)) = .ok () ((w5.alloc (.cells #[.slice none 0 0, .slice none 0 0] 86)).setCells w5.heap.size 0 Y5.toList) ∧ P11 w ((w5.alloc (.cells #[.slice none 0 0, .slice none 0 0] 86)).setCells w5.heap.size 0 Y5.toList) p gw w5.heap.size R #[.slice A1 r.b.length c1, .slice B1 r.w.length d1] Y5 A2 c2 B2 d2 Ax cx LX X Bx LY Y O Q) := Lib.hid fun w5 Y5 A2 c2 B2 d2 O Q hb hs h1 hd ha hb2 hO hQ => by
        have hb8 : Below w5.heap.size w5 ((w5.alloc (.cells #[.slice none 0 0, .slice none 0 0] 86)).setCells w5.heap.size 0 Y5.toList) := Bl.puts (w := w5) (g := w5.heap.size) (bnew (Below.refl _ _) _) (Nat.le_refl _) 0 _
        exact ⟨store_row2 _ _ _ Y5 (Rw.new w5 _ _) rfl hs h1, p11_mk HP.out (bnext (bnext hU hb) hb8) (hd.bel hb8) ha hb2 (hO.below hb8) (hQ.below hb8) ((Rw.new w5 _ _).over (by rw [hs]; rfl)) HW0.out HZ1.out⟩
      have HFb : Hid (∀ w5 (Y5 : Array Value) A2 c2 B2 d2 O Q, Below ((w2.alloc (.cells #[.slice none 0 0, .slice none 0 0] 86)).drew).heap.size ((w2.alloc (.cells #[.slice none 0 0, .slice none 0 0] 86)).drew) w5 → Y5.size = 2 → Y5.all (·.oneCell') = true → DV w5 R A2 c2 B2 d2 → (∀ b, blk A2 = some b → blk A1 = some b ∨ ((w2.alloc (.cells #[.slice none 0 0, .slice none 0 0] 86)).drew).heap.size ≤ b) → (∀ b, blk B2 = some b → blk B1 = some b ∨ ((w2.alloc (.cells #[.slice none 0 0, .slice none 0 0] 86)).drew).heap.size ≤ b) → Lies w5 O (rdc X) → Lies w5 Q (uc Y) →
          (storeCells ⟨w2.heap.size, 0, none⟩ Y5.toList 0).run Try.prog w5 = .ok () (w5.setCells w2.heap.size 0 Y5.toList) ∧ P11 w (w5.setCells w2.heap.size 0 Y5.toList) p gw w2.heap.size R #[.slice A1 r.b.length c1, .slice B1 r.w.length d1] Y5 A2 c2 B2 d2 Ax cx LX X Bx LY Y O Q) := Lib.hid fun w5 Y5 A2 c2 B2 d2 O Q hb hs h1 hd ha hb2 hO hQ => by
        have hz : Rw w5 w2.heap.size #[.slice none 0 0, .slice none 0 0] 86 := Rw.bel (W := (w2.alloc (.cells #[.slice none 0 0, .slice none 0 0] 86)).drew) (Rw.new w2 _ _) hb
        have hb7 : Below w2.heap.size w2 w5 := bnext hV hb
        have hb8 : Below w2.heap.size w2 (w5.setCells w2.heap.size 0 Y5.toList) := Bl.puts (w := w2) (g := w2.heap.size) hb7 (Nat.le_refl _) 0 _
        have hsz : ((w2.alloc (.cells #[.slice none 0 0, .slice none 0 0] 86)).drew).heap.size = w2.heap.size + 1 := World.size_alloc _ _
        have hne : ∀ j, j ≠ w2.heap.size → (w5.setCells w2.heap.size 0 Y5.toList).heap[j]? = w5.heap[j]? := fun j hj => setCells_other hj _ _ _
        have hzk : Zk (fun j => j ≠ w2.heap.size) w5 (w5.setCells w2.heap.size 0 Y5.toList) := ⟨(grownBy_setCells w5 w2.heap.size 0 _).size, fun j hj => hne j hj⟩
        have a1 : ∀ b, blk A2 = some b → b ≠ w2.heap.size := fun b hb' e => (ha b hb').elim (fun h => by have := HP.out.la b h; have := HZ1.out; omega) (fun h => by rw [hsz] at h; omega)
        have a2 : ∀ b, blk B2 = some b → b ≠ w2.heap.size := fun b hb' e => (hb2 b hb').elim (fun h => by have := HP.out.lb b h; have := HZ1.out; omega) (fun h => by rw [hsz] at h; omega)
        exact ⟨store_row2 _ _ _ Y5 hz rfl hs h1, p11_mk HP.out hb8 (hd.zk hzk a1 a2) (fun b hb' => (ha b hb').imp id fun h => by rw [hsz] at h; omega) (fun b hb' => (hb2 b hb').imp id fun h => by rw [hsz] at h; omega) (lies_box hO hz (rdc_ints _)) (lies_box hQ hz (uc_ints _)) (hz.over (by rw [hs]; rfl)) HW0.out HZ1.out⟩
      clear hV hU HMr
      go_upto_region 11 with (fail)
      apply cutP
      case h =>
        intro key
        go_region_law (first
          | (go_simp; go_at_call 44; refine HDa.out.mono ?_; rintro e w5 ⟨Y5, A2, c2, B2, d2, O, co, Q, cq, rfl, z1, z2, z3, z4, z5, z6, z7, z8, z9⟩; obtain ⟨hst, hfin⟩ := HFa.out w5 Y5 A2 c2 B2 d2 O Q z9 z1 z2 z4 z5 z6 z7 z8; have HFF := Lib.hid (And.intro hfin trivial); clear hfin z4 z5 z6 z7 z8 z9)
          | (go_simp; go_at_call 44; refine HDb.out.mono ?_; rintro e w5 ⟨Y5, A2, c2, B2, d2, O, co, Q, cq, rfl, z1, z2, z3, z4, z5, z6, z7, z8, z9⟩; obtain ⟨hst, hfin⟩ := HFb.out w5 Y5 A2 c2 B2 d2 O Q z9 z1 z2 z4 z5 z6 z7 z8; have HFF := Lib.hid (And.intro hfin trivial); clear hfin z4 z5 z6 z7 z8 z9))
        all_goals
          first
            | (refine forgetR (fun W => P11 w W p gw w5.heap.size R #[.slice A1 r.b.length c1, .slice B1 r.w.length d1] Y5 A2 c2 B2 d2 Ax cx LX X Bx LY Y O Q) HFF.out.1 ?_; clear hst HFF; generalize w5.heap.size = h; revert z1 z2 z3; revert h Y5 A2 c2 B2 d2 O co Q cq; exact key.out)
            | (refine forgetR (fun W => P11 w W p gw w2.heap.size R #[.slice A1 r.b.length c1, .slice B1 r.w.length d1] Y5 A2 c2 B2 d2 Ax cx LX X Bx LY Y O Q) HFF.out.1 ?_; clear hst HFF; generalize w2.heap.size = h; revert z1 z2 z3; revert h Y5 A2 c2 B2 d2 O co Q cq; exact key.out)
      case g =>
        intro Y5 A2 c2 B2 d2 O co Q cq h z1 z2 z3 W8 H8
        have HJ := Lib.hid H8
        clear H8 HFa HFb HDa HDb x0 x1 x2 y0 y1 y2 r0 r1 s0 s1 HSd HP
        have hY5 : (Try.prog.info? 86).map (·.size) = some Y5.size := by rw [z1]; exact sizeDR
        have HP12 := Lib.hid (HJ.out.p12 z3.out)
        have Hz1 := Lib.hid z1
        have Hz2 := Lib.hid z2
        obtain ⟨Lb, hLb⟩ : ∃ Lb, Lb = R.b.length := ⟨_, rfl⟩
        obtain ⟨Lw, hLw⟩ : ∃ Lw, Lw = R.w.length := ⟨_, rfl⟩
        have HLb := Lib.hid hLb
        have HLw := Lib.hid hLw
        have HLn : Hid (∀ W, P12 w W p gw R A2 c2 B2 d2 Ax cx LX X Bx Y O Q → Calls Try.prog 45 #[.pointer (some ⟨p, 0, none⟩)] W fun e w' => e = .returned (.tuple #[.int .i64 (Lb : Int), .int .i64 (Lw : Int)]) ∧ P12 w w' p gw R A2 c2 B2 d2 Ax cx LX X Bx Y O Q ∧ w'.cell? ⟨gw, 0, none⟩ = some (.slice A2 Lb c2) ∧ w'.cell? ⟨gw, 1, none⟩ = some (.slice B2 Lw d2)) := Lib.hid fun W hW => (rz_lenB hW.rz).mono fun e w' ⟨g1, g2⟩ => by
          have k := hW.bel g2
          rw [hLb, hLw]
          exact ⟨g1, k, k.row.cell 0 rfl, k.row.cell 1 rfl⟩
        have HSm : Hid (∀ W, P12 w W p gw R A2 c2 B2 d2 Ax cx LX X Bx Y O Q → Calls Try.prog 46 #[.slice Ax LX cx, .slice O LX co, .slice Bx LY dx, .slice Q LY cq] W fun e w' => e = .returned (.bool true) ∧ P12 w w' p gw R A2 c2 B2 d2 Ax cx LX X Bx Y O Q ∧ w'.cell? ⟨gw, 0, none⟩ = some (.slice A2 Lb c2) ∧ w'.cell? ⟨gw, 1, none⟩ = some (.slice B2 Lw d2)) := Lib.hid fun W hW => by
          have := same13_any W Ax O Bx Q cx co dx cq X Y hW.sx.liesV hW.lo hW.sy hW.lq (by rw [← HLX.out]; omega) (by rw [← HLY.out]; omega)
          rw [← HLX.out, ← HLY.out] at this
          refine this.mono fun e w' ⟨g1, g2⟩ => ?_
          have k := hW.bel g2
          rw [hLb, hLw]
          exact ⟨g1, k, k.row.cell 0 rfl, k.row.cell 1 rfl⟩
        clear hLb hLw z1 z2 z3
        go_upto_region 15 with (first
          | (go_at_call 46; refine (HSm.out _ n1).mono ?_; rintro e wb ⟨rfl, n2, q3, q4⟩)
          | (go_at_call 45; refine (HLn.out _ HP12.out).mono ?_; rintro e wa ⟨rfl, n1, t3, t4⟩)
          | (refine wpList_load_sub rfl 86 _ rfl h 0 rfl 86 _ Y5 (0, 0) _ HJ.out.rh (fun j hj => by rw [Nat.zero_add]) Try.underlying86 rfl hY5 ?_)
          | (refine wpList_store_sub rfl 86 _ _ rfl gw 0 rfl 86 _ Y5 rfl HJ.out.rg (by rw [Hz1.out]; exact Nat.le_refl 2) hY5 Hz2.out ?_))
        have HPL := Lib.hid n2.pl
        clear n1 n2 t3 t4 q3 q4 HP12 HSm HLn HJ Hz1 Hz2 hY5 HLb HLw HLX HLY
        go_loopw [19] (fun qv wq => ∃ (q : Nat), q ≤ LX ∧ qv = .int .i64 (q : Int) ∧ PL w wq p gw R A2 c2 B2 d2 Ax LX) (fun qv _ => LX - (intOf qv).toNat)
        case atStart => exact ⟨0, Nat.zero_le _, rfl, HPL.out⟩
        case round =>
          obtain ⟨q, hq1, rfl, hP⟩ := hrel
          clear HPL
          by_cases hq : q < LX
          · obtain ⟨bx, ox, rfl, hc⟩ : ∃ b off, Ax = some ⟨b, off, none⟩ ∧ ∀ j, j < LX * 3 → (wr.cell? ⟨b, off + j, none⟩).isSome = true ∧ wr.frozen? ⟨b, off + j, none⟩ = false := by
              rcases hP.cs with h0 | h
              · omega
              · exact h
            obtain ⟨g1, g2⟩ := hc (q * 3) (by omega)
            obtain ⟨v1, g3⟩ := Option.isSome_iff_exists.1 g1
            have HP2 := Lib.hid (hP.set (ox + q * 3) (.int .u64 99))
            clear hP hc g1 HMo HSz
            go_wp2_with fail
            go_roundw
            case rel => exact ⟨q + 1, by omega, by go_num, HP2.out⟩
            case measure => simp [intOf]; omega
          · have HPm := Lib.hid hP.pm
            clear hP
            go_wp2_with fail
            go_roundw
            case rel => exact ⟨k + 1, R, A2, c2, B2, d2, by omega, by go_num, HSz.out, HMo.out, HPm.out⟩
            case measure => simp [intOf]; omega
    · clear HF HL
      have hb := hM.rz.bl
      clear hM
      go_wp2_with (go_at_call 41; refine (HAw.out _).mono ?_; rintro e9 w9 ⟨rfl, b9⟩)
      go_ret
      exact ⟨rfl, bnext hb b9⟩
end Go.Proofs.Ytlnohjboldenpaa
