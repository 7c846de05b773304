/-
  LogsNobody walked.
-/
import Derived.Test.YtahkkdnmmneehaaLLgNone
import Derived.Test.YtahkkdnmmneehaaLLgAwake
set_option linter.unusedSimpArgs false
set_option linter.unusedVariables false
namespace Go.Proofs.Ytahkkdnmmneehaa
open Go.RowKit Go.Sort
theorem NoLog.bel {W W' : World} {v : Value} (h : NoLog W v) (hb : Below W.heap.size W W') : NoLog W' v := fun V hv => h V (bnext hb hv)
/-- What stands while the two are asked. -/
structure NbI (w : World) (x : Lga) (g s : Nat) (W : World) : Prop where
  r : Rw W g (la1 x).toArray 38
  b : Bl w W
  c0 : W.cell? ⟨s + 1, 0, none⟩ = some (.pointer none)
  c1 : W.cell? ⟨s + 1, 1, none⟩ = some (.pointer (some ⟨s, 0, none⟩))
  m : W.cell? ⟨s, 0, none⟩ = some (.bool false)
  lt : s < W.heap.size
theorem NbI.bel {w W W' : World} {x : Lga} {g s : Nat} (h : NbI w x g s W) (hb : Below W.heap.size W W') : NbI w x g s W' := ⟨h.r.bel hb, h.b.next hb, later hb h.c0, later hb h.c1, later hb h.m, Nat.lt_of_lt_of_le h.lt hb.size⟩
theorem NbI.at_ {w W : World} {x : Lga} {g s : Nat} (h : NbI w x g s W) (j : Nat) (hj : j < 2) : ∃ v, W.cell? ⟨s + 1, j, none⟩ = some v ∧ NoLog W v := by
  have : j = 0 ∨ j = 1 := by omega
  rcases this with rfl | rfl
  · exact ⟨_, h.c0, noLog_nil W⟩
  · exact ⟨_, h.c1, noLog_unmade W s h.lt h.m⟩
set_option maxRecDepth 100000 in
set_option maxHeartbeats 100000000 in
theorem logsNobody_walk (w : World) (x : Lga) (g : GivenLa w x) : Calls Try.prog 4 #[.agg (la1 x).toArray] w fun e w' => e = .returned (.bool true) ∧ Below w.heap.size w w' := by
  have HG : Hid (∀ W', Below w.heap.size w W' → Calls Try.prog 11 #[.slice x.A x.es.length x.cap] W' (RetL (.bool (Lg.great x.es)) W')) := Lib.hid fun W' hb => great_any W' x.A x.cap x.es (g.es.lies.below hb) g.es.len fun e he => (g.es.fits e he).2
  have HAw := Lib.hid awake_any
  have hi := g.idx
  have ht := g.trm
  have hm := g.mem
  unfold Nm.top at hi ht
  obtain ⟨gr, hgr⟩ : ∃ gr, gr = Lg.great x.es := ⟨_, rfl⟩
  rw [← hgr] at HG
  clear hgr g
  go_enter Try.func4, Try.ntmps4
  go_upto_region 1 with (fail)
  refine forget (fun V => Rw V w.heap.size (la1 x).toArray 38 ∧ Bl w V) ⟨Rw.new w _ _, (Bl.refl w).alloc _⟩ ?_
  intro W1 H1
  obtain ⟨g0, hg0⟩ : ∃ g0, g0 = w.heap.size := ⟨_, rfl⟩
  rw [← hg0] at H1 ⊢
  have c4 : W1.cell? ⟨g0, 4, none⟩ = some (.slice x.A x.es.length x.cap) := H1.1.cell 4 rfl
  have HK := Lib.hid H1
  have HG1 := Lib.hid (HG.out W1 H1.2)
  clear H1 HG hg0
  cases gr with
  | true =>
    go_wp2_with (first | (go_at_call 12; refine (HAw.out w2).mono ?_; rintro r w3 ⟨rfl, hb3⟩) | (go_at_call 11; refine HG1.out.mono ?_; rintro r w2 ⟨rfl, hb2⟩))
    go_ret
    exact ⟨rfl, bnext (bnext HK.out.2 hb2) hb3⟩
  | false =>
    go_upto_region 4 with (go_at_call 11; refine HG1.out.mono ?_; rintro r w2 ⟨rfl, hb2⟩)
    have HK2 := Lib.hid (And.intro (HK.out.1.bel hb2) (HK.out.2.next hb2))
    clear hb2 HK HG1 c4
    go_wp2_with fail
    go_loopw [26] (fun iv wr => ∃ (j : Nat), j ≤ 2 ∧ iv = .int .i64 (j : Int) ∧ NbI w x g0 w2.heap.size wr) (fun iv _ => 2 - (intOf iv).toNat)
    case atStart =>
      refine ⟨0, Nat.zero_le _, rfl, ?_⟩
      have r1 := Rw.new (w2.alloc (.cells #[.bool false, .int .u64 0, .int .u64 0, .int .u8 0, .slice none 0 0] 45)) #[.pointer none, .pointer (some ⟨w2.heap.size, 0, none⟩)] 28
      rw [World.size_alloc] at r1
      have r2 := (Rw.new w2 #[.bool false, .int .u64 0, .int .u64 0, .int .u8 0, .slice none 0 0] 45).alloc (.cells #[.pointer none, .pointer (some ⟨w2.heap.size, 0, none⟩)] 28)
      exact ⟨HK2.out.1.bel (bnew (bnew (Below.refl _ _) _) _), (HK2.out.2.alloc _).alloc _, r1.cell 0 rfl, r1.cell 1 rfl, r2.cell 0 rfl, r2.lt⟩
    case round =>
      obtain ⟨j, hj2, rfl, hW⟩ := hrel
      have HW := Lib.hid hW
      clear hW
      by_cases hlt : j < 2
      · obtain ⟨v, hv, hno⟩ := HW.out.at_ j hlt
        have HC : Hid (∀ W', Below wr.heap.size wr W' → W'.cell? ⟨g0, 1, none⟩ = some (.int .u64 (x.idx : Int)) ∧ W'.cell? ⟨g0, 2, none⟩ = some (.int .u64 (x.trm : Int)) ∧ W'.cell? ⟨g0, 3, none⟩ = some (.int .u8 (x.mem : Int)) ∧ W'.cell? ⟨g0, 4, none⟩ = some (.slice x.A x.es.length x.cap)) := Lib.hid fun W' hb =>
          ⟨(HW.out.r.bel hb).cell 1 rfl, (HW.out.r.bel hb).cell 2 rfl, (HW.out.r.bel hb).cell 3 rfl, (HW.out.r.bel hb).cell 4 rfl⟩
        have HN := Lib.hid hno
        have K1 : Hid (Calls Try.prog 19 #[v, .int .u64 (x.idx : Int), .int .u64 (x.trm : Int), .int .u8 (x.mem : Int)] wr (RetL (.tuple #[]) wr)) := Lib.hid (reset_no hno x.idx x.trm x.mem)
        have K2 : Hid (∀ W', Below wr.heap.size wr W' → Calls Try.prog 20 #[v, .int .u64 (x.idx : Int), .int .u64 (x.trm : Int), .slice x.A x.es.length x.cap] W' (RetL (.tuple #[.bool false, .int .u64 0, .slice none 0 0]) W')) := Lib.hid fun W' hb => put_no (HN.out.bel hb) _ _ _ _ _
        have K3 := Lib.hid fun W' (hb : Below wr.heap.size wr W') => first_no (HN.out.bel hb)
        have K4 := Lib.hid fun W' (hb : Below wr.heap.size wr W') => last_no (HN.out.bel hb)
        have K5 := Lib.hid fun W' (hb : Below wr.heap.size wr W') => members_no (HN.out.bel hb)
        have K6 := Lib.hid fun W' (hb : Below wr.heap.size wr W') => term_no (HN.out.bel hb) x.idx
        have K7 : Hid (∀ W', Below wr.heap.size wr W' → Calls Try.prog 25 #[v, .int .u64 0, .int .i64 9] W' (RetL (.slice none 0 0) W')) := Lib.hid fun W' hb => from_no (HN.out.bel hb) 0 9
        have K8 := Lib.hid fun W' (hb : Below wr.heap.size wr W') => membersAt_no (HN.out.bel hb) x.idx
        have K9 := Lib.hid fun W' (hb : Below wr.heap.size wr W') => asNew_no (HN.out.bel hb) x.idx x.trm
        have K10 : Hid (∀ W', Calls Try.prog 29 #[.int .u64 1, .int .u64 1] W' fun r w' => r = .returned (.agg (entC (Lg.one 1 1))) ∧ Below W'.heap.size W' w') := Lib.hid fun W' => one_any W' 1 1
        have K11 : Hid (∀ X W', Below wr.heap.size wr W' → Calls Try.prog 28 #[v, .agg X] W' (RetL (.agg #[.int .u64 0, .int .u64 0, .int .u8 0, .int .u8 0, .int .u8 0, .int .u8 0, .int .u8 0, .int .u8 0, .int .u8 0, .int .u8 0, .int .u8 0, .int .u8 0, .string ⟨#[]⟩]) W')) := Lib.hid fun X W' hb => add_no (HN.out.bel hb) X
        have K12 : Hid (∀ W', Below wr.heap.size wr W' → Calls Try.prog 30 #[v, .int .u64 0] W' (RetL (.int .i64 4) W')) := Lib.hid fun W' hb => cut_no (HN.out.bel hb) 0
        generalize entC (Lg.one 1 1) = X1 at K10
        have hne : ∀ W : World, (binOp .neq 62 (.agg #[.int .u64 0, .int .u64 0, .int .u8 0, .int .u8 0, .int .u8 0, .int .u8 0, .int .u8 0, .int .u8 0, .int .u8 0, .int .u8 0, .int .u8 0, .int .u8 0, .string ⟨#[]⟩]) (.agg #[.int .u64 0, .int .u64 0, .int .u8 0, .int .u8 0, .int .u8 0, .int .u8 0, .int .u8 0, .int .u8 0, .int .u8 0, .int .u8 0, .int .u8 0, .int .u8 0, .string ⟨#[]⟩])).run Try.prog W = .ok (.bool false) W := fun W => by
          have := ent_neq En.zero En.zero W
          rw [decide_eq_true rfl] at this
          exact this
        obtain ⟨d1, d2, d3, d4⟩ := HC.out wr (Below.refl _ _)
        clear hno
        go_upto_region 12 with (first
          | (go_at_call 23; refine (K5.out _ k4).mono ?_; rintro r x5 ⟨rfl, b5⟩; have k5 := bnext k4 b5)
          | (go_at_call 22; refine (K4.out _ k3).mono ?_; rintro r x4 ⟨rfl, b4⟩; have k4 := bnext k3 b4)
          | (go_at_call 21; refine (K3.out _ k2).mono ?_; rintro r x3 ⟨rfl, b3⟩; have k3 := bnext k2 b3)
          | (go_at_call 20; refine (K2.out _ k1).mono ?_; rintro r x2 ⟨rfl, b2⟩; have k2 := bnext k1 b2)
          | (go_at_call 19; refine K1.out.mono ?_; rintro r x1 ⟨rfl, b1⟩; have k1 := b1; obtain ⟨f1, f2, f3, f4⟩ := HC.out x1 k1))
        obtain ⟨h1, h2, h3, h4⟩ := HC.out x5 k5
        clear d1 d2 d3 d4 f1 f2 f3 f4 b1 b2 b3 b4 b5 k1 k2 k3 k4 K1 K2 K3 K4 K5 hv
        go_wp2_with (first
          | (go_at_call 30; refine (K12.out _ k11).mono ?_; rintro r x12 ⟨rfl, b12⟩; have k12 := bnext k11 b12)
          | (go_at_call 28; refine (K11.out _ _ k10).mono ?_; rintro r x11 ⟨rfl, b11⟩; have k11 := bnext k10 b11)
          | (go_at_call 29; refine (K10.out x9).mono ?_; rintro r x10 ⟨rfl, b10⟩; have k10 := bnext k9 b10)
          | (go_at_call 27; refine (K9.out _ k8).mono ?_; rintro r x9 ⟨rfl, b9⟩; have k9 := bnext k8 b9)
          | (go_at_call 26; refine (K8.out _ k7).mono ?_; rintro r x8 ⟨rfl, b8⟩; have k8 := bnext k7 b8; obtain ⟨p1, p2, p3, p4⟩ := HC.out x8 k8)
          | (go_at_call 25; refine (K7.out _ k6).mono ?_; rintro r x7 ⟨rfl, b7⟩; have k7 := bnext k6 b7; obtain ⟨n1, n2, n3, n4⟩ := HC.out x7 k7)
          | (go_at_call 24; refine (K6.out _ k5).mono ?_; rintro r x6 ⟨rfl, b6⟩; have k6 := bnext k5 b6))
        go_roundw
        case rel => exact ⟨j + 1, by omega, by go_num, HW.out.bel k12⟩
        case measure => simp [intOf]; omega
      · obtain rfl : j = 2 := by omega
        go_wp2_with (go_at_call 12; refine (HAw.out _).mono ?_; rintro r x1 ⟨rfl, b1⟩)
        go_ret
        exact ⟨rfl, (HW.out.b.next b1).bel⟩
end Go.Proofs.Ytahkkdnmmneehaa
