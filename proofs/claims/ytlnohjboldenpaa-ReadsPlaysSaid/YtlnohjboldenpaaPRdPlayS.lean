/-
  ReadsPlays: said walked. (gen_rdsaid.py)
-/
import Derived.Test.YtlnohjboldenpaaPRdPlayD
set_option linter.unusedSimpArgs false
set_option linter.unusedVariables false
namespace Go.Proofs.Ytlnohjboldenpaa
open Go.RowKit Go.Sort
/-- What said hands back. -/
def RetSa (r' : Rd.R) (b : Bool) (n : Nat) (X : List Rd.E) (Y : List Nat) (w : World) (A B : Option Addr) (e : Ending) (w' : World) : Prop :=
  ∃ A' c' B' d' O co Q cq, e = .returned (.tuple #[.agg #[.slice A' r'.b.length c', .slice B' r'.w.length d'], .bool b, .int .i64 (n : Int), .slice O X.length co, .slice Q Y.length cq]) ∧ DV w' r' A' c' B' d' ∧ (∀ b, blk A' = some b → blk A = some b ∨ w.heap.size ≤ b) ∧ (∀ b, blk B' = some b → blk B = some b ∨ w.heap.size ≤ b) ∧ Lies w' O (rdc X) ∧ Lies w' Q (uc Y) ∧ Below w.heap.size w w'
set_option maxRecDepth 100000 in
set_option maxHeartbeats 8000000 in
theorem said13_any (w : World) (r : Rd.R) (A : Option Addr) (c : Nat) (B : Option Addr) (d : Nat) (h : DV w r A c B d) (hm : Rd.Mono r.b) (o a b : Nat) (hf : r.b.length + r.w.length + 1 ≤ 100000) :
    Calls Try.prog 44 #[.agg #[.slice A r.b.length c, .slice B r.w.length d], .agg #[.int .u8 (o : Int), .int .u64 (a : Int), .int .u64 (b : Int)]] w (RetSa (Rd.step r o a b) (Rd.tb r o a) (Rd.tn r o) (Rd.tx r o a) (Rd.ty r o) w A B) := by
  have H := Lib.hid h
  have HMo := Lib.hid hm
  have hres := results_c4 (P := Try.prog) (fn := Try.f44) rfl
  have Hres := Lib.hid hres
  have HRb : Hid (r.b.length + r.w.length + 1 ≤ 100000) := Lib.hid hf
  obtain ⟨n, hn⟩ : ∃ n, n = r.b.length := ⟨_, rfl⟩
  obtain ⟨m, hm'⟩ : ∃ m, m = r.w.length := ⟨_, rfl⟩
  have Hn := Lib.hid hn
  have Hm := Lib.hid hm'
  rw [← hn, ← hm']
  clear h hm hn hm' hres hf
  unfold RetSa
  go_enter Try.func44, Try.ntmps44
  go_upto_region 1 with (fail)
  refine forget (fun W => Rw W w.heap.size #[.slice A n c, .slice B m d] 86 ∧ Rw W (w.heap.size + 1) #[.int .u8 (o : Int), .int .u64 (a : Int), .int .u64 (b : Int)] 90 ∧ Rw W (w.heap.size + 1 + 1) #[.slice none 0 0, .slice none 0 0] 86 ∧ Below w.heap.size w W ∧ w.heap.size ≤ w.heap.size) ⟨((Rw.new w _ _).alloc _).alloc _, ?_, ?_, bnew (bnew (bnew (Below.refl _ _) _) _) _, Nat.le_refl _⟩ ?_
  · have := Rw.new (w.alloc (.cells #[.slice A n c, .slice B m d] 86)) #[.int .u8 (o : Int), .int .u64 (a : Int), .int .u64 (b : Int)] 90
    rw [World.size_alloc] at this
    exact this.alloc _
  · have := Rw.new ((w.alloc (.cells #[.slice A n c, .slice B m d] 86)).alloc (.cells #[.int .u8 (o : Int), .int .u64 (a : Int), .int .u64 (b : Int)] 90)) #[.slice none 0 0, .slice none 0 0] 86
    rw [World.size_alloc, World.size_alloc] at this
    exact this
  intro W1 H1
  obtain ⟨g, hg⟩ : ∃ g, g = w.heap.size := ⟨_, rfl⟩
  have HG : Hid (g = w.heap.size) := Lib.hid hg
  rw [← hg] at H1 ⊢
  clear hg
  have HK := Lib.hid H1
  have c0 := H1.1.cell 0 (v := .slice A n c) rfl
  have c1 := H1.1.cell 1 (v := .slice B m d) rfl
  have a0 := H1.2.1.cell 0 (v := .int .u8 (o : Int)) rfl
  have a1 := H1.2.1.cell 1 (v := .int .u64 (a : Int)) rfl
  have a2 := H1.2.1.cell 2 (v := .int .u64 (b : Int)) rfl
  have HGw : Hid (w.heap.size ≤ g + 1 + 1) := Lib.hid (by have := HG.out; omega)
  have HBw : Hid (Below w.heap.size w W1) := Lib.hid (by have := H1.2.2.2.1; rw [HG.out] at this; exact this)
  have HD := Lib.hid (H.out.bel HBw.out)
  clear H1
  by_cases h0 : o = 0
  · subst h0
    have HC : Hid (Calls Try.prog 80 #[.agg #[.slice A n c, .slice B m d], .int .u64 (a : Int)] W1 (RetD (Rd.ask r a) (.bool (!Rd.has r a)) W1 A B)) := Lib.hid (by
      have h1 := (dAsk_any W1 r A c B d HD.out a (by have := HRb.out; omega))
      rw [← Hn.out, ← Hm.out] at h1
      skip
      exact h1)
    obtain ⟨LB, hLB⟩ : ∃ LB, LB = (Rd.ask r a).b.length := ⟨_, rfl⟩
    obtain ⟨LW, hLW⟩ : ∃ LW, LW = (Rd.ask r a).w.length := ⟨_, rfl⟩
    have HLB := Lib.hid hLB
    have HLW := Lib.hid hLW
    unfold RetD at HC
    rw [← hLB, ← hLW] at HC
    clear hLB hLW
    have E : Hid (Rd.step r 0 a b = Rd.ask r a ∧ Rd.tb r 0 a = (!Rd.has r a) ∧ Rd.tn r 0 = 0 ∧ Rd.tx r 0 a = [] ∧ Rd.ty r 0 = []) := Lib.hid ⟨rfl, rfl, rfl, rfl, rfl⟩
    go_upto_region 4 with (first
      | (go_at_call 80; refine HC.out.mono ?_; rintro e w2 ⟨A2, c2, B2, d2, rfl, m1, m2, m3, m4⟩)
      | (refine wpList_load_sub rfl 86 _ rfl g 0 rfl 86 _ #[.slice A n c, .slice B m d] (0, 0) _ HK.out.1 (fun j hj => by rw [Nat.zero_add]) Try.underlying86 rfl sizeDR ?_))
    have HP : Hid (Rw w2 (g + 1 + 1) #[.slice none 0 0, .slice none 0 0] 86 ∧ ∀ W5, Below w2.heap.size w2 W5 → ∀ vs, ∃ A' c' B' d' O' co' Q' cq', Ending.returned (.tuple #[.agg #[.slice A2 LB c2, .slice B2 LW d2], .bool (!Rd.has r a), .int .i64 (0 : Int), .slice none 0 0, .slice none 0 0]) = Ending.returned (.tuple #[.agg #[.slice A' (Rd.ask r a).b.length c', .slice B' (Rd.ask r a).w.length d'], .bool (!Rd.has r a), .int .i64 ((0 : Nat) : Int), .slice O' ([] : List Rd.E).length co', .slice Q' ([] : List Nat).length cq']) ∧ DV (W5.setCells (g + 1 + 1) 0 vs) (Rd.ask r a) A' c' B' d' ∧ (∀ b, blk A' = some b → blk A = some b ∨ w.heap.size ≤ b) ∧ (∀ b, blk B' = some b → blk B = some b ∨ w.heap.size ≤ b) ∧ Lies (W5.setCells (g + 1 + 1) 0 vs) O' (rdc ([] : List Rd.E)) ∧ Lies (W5.setCells (g + 1 + 1) 0 vs) Q' (uc []) ∧ Below w.heap.size w (W5.setCells (g + 1 + 1) 0 vs)) := Lib.hid ⟨HK.out.2.2.1.bel m4, fun W5 hb5 vs => by
      have hgl : g + 1 + 1 < W1.heap.size := HK.out.2.2.1.lt
      have hgw := HG.out
      have hws := HBw.out.size
      have b7 : Below w.heap.size w (W5.setCells (g + 1 + 1) 0 vs) := Bl.puts (w := w) (g := g + 1 + 1) (bnext (bnext HBw.out m4) hb5) HGw.out 0 vs
      have hK : Zk (fun k => k ≠ g + 1 + 1) W5 (W5.setCells (g + 1 + 1) 0 vs) := ⟨(Bl.puts (w := W5) (g := W5.heap.size) (Bl.refl W5) (Nat.le_refl _) 0 []).le |> fun _ => by exact (grownBy_setCells W5 (g + 1 + 1) 0 vs).size, fun k hk => setCells_other hk _ _ _⟩
      have hA2 : ∀ k, blk A2 = some k → k ≠ g + 1 + 1 := fun k hk e => by
        rcases m2 k hk with h | h
        · have := H.out.tb k h; omega
        · omega
      have hB2 : ∀ k, blk B2 = some k → k ≠ g + 1 + 1 := fun k hk e => by
        rcases m3 k hk with h | h
        · have := H.out.tw k h; omega
        · omega
      refine ⟨A2, c2, B2, d2, none, 0, none, 0, by rw [HLB.out, HLW.out]; rfl, (m1.bel hb5).zk hK hA2 hB2, fun b hb => (m2 b hb).imp id (Nat.le_trans hws), fun b hb => (m3 b hb).imp id (Nat.le_trans hws), .inl rfl, .inl rfl, b7⟩⟩
    clear HC m1 m2 m3 m4
    refine forget (fun W5 => Rw W5 w2.heap.size #[.slice A2 LB c2, .slice B2 LW d2] 86 ∧ Rw W5 (g + 1 + 1) #[.slice none 0 0, .slice none 0 0] 86 ∧ Below w2.heap.size w2 W5) ⟨Rw.new _ _ _, (HP.out.1).alloc _, bnew (Below.refl _ _) _⟩ ?_
    intro W5 H5
    have H5a := Lib.hid H5.1
    have H5b := Lib.hid H5.2.1
    have HQ := Lib.hid (HP.out.2 _ H5.2.2)
    clear H5 HP c0 c1 a0 a1 a2
    generalize w2.heap.size = g9 at H5a ⊢
    have hX5 : (#[.slice A2 LB c2, .slice B2 LW d2] : Array Value).all (·.oneCell') = true := by simp [Value.oneCell']
    go_wp2_with (first
      | (refine wpList_load_sub rfl 86 _ rfl g9 0 rfl 86 _ #[.slice A2 LB c2, .slice B2 LW d2] (0, 0) _ H5a.out (fun j hj => by rw [Nat.zero_add]) Try.underlying86 rfl sizeDR ?_)
      | (refine wpList_store_sub rfl 86 _ _ rfl (g + 1 + 1) 0 rfl 86 #[.slice none 0 0, .slice none 0 0] #[.slice A2 LB c2, .slice B2 LW d2] rfl H5b.out (Nat.le_refl 2) sizeDR hX5 ?_))
    refine bodyPost_ret (Hres.out _ _ (g + 1 + 1) 86 #[.slice A2 LB c2, .slice B2 LW d2] (0, 0) _ rfl (H5b.out.over rfl) Try.underlying86 rfl sizeDR) rfl ?_
    rw [E.out.1, E.out.2.1, E.out.2.2.1, E.out.2.2.2.1, E.out.2.2.2.2]
    exact HQ.out _
  have s0 : ((o : Int) == 0) = false := by simp; omega
  have s0' : ((o : Int) = 0) = False := by simp; omega
  by_cases h1 : o = 1
  · subst h1
    have HC : Hid (Calls Try.prog 81 #[.agg #[.slice A n c, .slice B m d], .int .u64 (a : Int), .int .u64 (b : Int)] W1 (RetD (Rd.begin r a b) (.int .i64 (m : Int)) W1 A B)) := Lib.hid (by
      have h1 := (dBegin_any W1 r A c B d HD.out a b)
      rw [← Hn.out, ← Hm.out] at h1
      rw [Rd.dbegin_eq r HMo.out] at h1
      exact h1)
    obtain ⟨LB, hLB⟩ : ∃ LB, LB = (Rd.begin r a b).b.length := ⟨_, rfl⟩
    obtain ⟨LW, hLW⟩ : ∃ LW, LW = (Rd.begin r a b).w.length := ⟨_, rfl⟩
    have HLB := Lib.hid hLB
    have HLW := Lib.hid hLW
    unfold RetD at HC
    rw [← hLB, ← hLW] at HC
    clear hLB hLW
    have E : Hid (Rd.step r 1 a b = Rd.begin r a b ∧ Rd.tb r 1 a = false ∧ Rd.tn r 1 = r.w.length ∧ Rd.tx r 1 a = [] ∧ Rd.ty r 1 = []) := Lib.hid ⟨rfl, rfl, rfl, rfl, rfl⟩
    go_upto_region 7 with (first
      | (go_at_call 81; refine HC.out.mono ?_; rintro e w2 ⟨A2, c2, B2, d2, rfl, m1, m2, m3, m4⟩)
      | (refine wpList_load_sub rfl 86 _ rfl g 0 rfl 86 _ #[.slice A n c, .slice B m d] (0, 0) _ HK.out.1 (fun j hj => by rw [Nat.zero_add]) Try.underlying86 rfl sizeDR ?_))
    have HP : Hid (Rw w2 (g + 1 + 1) #[.slice none 0 0, .slice none 0 0] 86 ∧ ∀ W5, Below w2.heap.size w2 W5 → ∀ vs, ∃ A' c' B' d' O' co' Q' cq', Ending.returned (.tuple #[.agg #[.slice A2 LB c2, .slice B2 LW d2], .bool false, .int .i64 (m : Int), .slice none 0 0, .slice none 0 0]) = Ending.returned (.tuple #[.agg #[.slice A' (Rd.begin r a b).b.length c', .slice B' (Rd.begin r a b).w.length d'], .bool false, .int .i64 ((r.w.length : Nat) : Int), .slice O' ([] : List Rd.E).length co', .slice Q' ([] : List Nat).length cq']) ∧ DV (W5.setCells (g + 1 + 1) 0 vs) (Rd.begin r a b) A' c' B' d' ∧ (∀ b, blk A' = some b → blk A = some b ∨ w.heap.size ≤ b) ∧ (∀ b, blk B' = some b → blk B = some b ∨ w.heap.size ≤ b) ∧ Lies (W5.setCells (g + 1 + 1) 0 vs) O' (rdc ([] : List Rd.E)) ∧ Lies (W5.setCells (g + 1 + 1) 0 vs) Q' (uc []) ∧ Below w.heap.size w (W5.setCells (g + 1 + 1) 0 vs)) := Lib.hid ⟨HK.out.2.2.1.bel m4, fun W5 hb5 vs => by
      have hgl : g + 1 + 1 < W1.heap.size := HK.out.2.2.1.lt
      have hgw := HG.out
      have hws := HBw.out.size
      have b7 : Below w.heap.size w (W5.setCells (g + 1 + 1) 0 vs) := Bl.puts (w := w) (g := g + 1 + 1) (bnext (bnext HBw.out m4) hb5) HGw.out 0 vs
      have hK : Zk (fun k => k ≠ g + 1 + 1) W5 (W5.setCells (g + 1 + 1) 0 vs) := ⟨(Bl.puts (w := W5) (g := W5.heap.size) (Bl.refl W5) (Nat.le_refl _) 0 []).le |> fun _ => by exact (grownBy_setCells W5 (g + 1 + 1) 0 vs).size, fun k hk => setCells_other hk _ _ _⟩
      have hA2 : ∀ k, blk A2 = some k → k ≠ g + 1 + 1 := fun k hk e => by
        rcases m2 k hk with h | h
        · have := H.out.tb k h; omega
        · omega
      have hB2 : ∀ k, blk B2 = some k → k ≠ g + 1 + 1 := fun k hk e => by
        rcases m3 k hk with h | h
        · have := H.out.tw k h; omega
        · omega
      refine ⟨A2, c2, B2, d2, none, 0, none, 0, by rw [HLB.out, HLW.out, Hm.out]; rfl, (m1.bel hb5).zk hK hA2 hB2, fun b hb => (m2 b hb).imp id (Nat.le_trans hws), fun b hb => (m3 b hb).imp id (Nat.le_trans hws), .inl rfl, .inl rfl, b7⟩⟩
    clear HC m1 m2 m3 m4
    refine forget (fun W5 => Rw W5 w2.heap.size #[.slice A2 LB c2, .slice B2 LW d2] 86 ∧ Rw W5 (g + 1 + 1) #[.slice none 0 0, .slice none 0 0] 86 ∧ Below w2.heap.size w2 W5) ⟨Rw.new _ _ _, (HP.out.1).alloc _, bnew (Below.refl _ _) _⟩ ?_
    intro W5 H5
    have H5a := Lib.hid H5.1
    have H5b := Lib.hid H5.2.1
    have HQ := Lib.hid (HP.out.2 _ H5.2.2)
    clear H5 HP c0 c1 a0 a1 a2
    generalize w2.heap.size = g9 at H5a ⊢
    have hX5 : (#[.slice A2 LB c2, .slice B2 LW d2] : Array Value).all (·.oneCell') = true := by simp [Value.oneCell']
    go_wp2_with (first
      | (refine wpList_load_sub rfl 86 _ rfl g9 0 rfl 86 _ #[.slice A2 LB c2, .slice B2 LW d2] (0, 0) _ H5a.out (fun j hj => by rw [Nat.zero_add]) Try.underlying86 rfl sizeDR ?_)
      | (refine wpList_store_sub rfl 86 _ _ rfl (g + 1 + 1) 0 rfl 86 #[.slice none 0 0, .slice none 0 0] #[.slice A2 LB c2, .slice B2 LW d2] rfl H5b.out (Nat.le_refl 2) sizeDR hX5 ?_))
    refine bodyPost_ret (Hres.out _ _ (g + 1 + 1) 86 #[.slice A2 LB c2, .slice B2 LW d2] (0, 0) _ rfl (H5b.out.over rfl) Try.underlying86 rfl sizeDR) rfl ?_
    rw [E.out.1, E.out.2.1, E.out.2.2.1, E.out.2.2.2.1, E.out.2.2.2.2]
    exact HQ.out _
  have s1 : ((o : Int) == 1) = false := by simp; omega
  have s1' : ((o : Int) = 1) = False := by simp; omega
  by_cases h2 : o = 2
  · subst h2
    have HC : Hid (Calls Try.prog 82 #[.agg #[.slice A n c, .slice B m d], .int .u64 (a : Int)] W1 fun e w' => ∃ A2 c2 B2 d2 O co, e = .returned (.tuple #[.agg #[.slice A2 (Rd.left r a).b.length c2, .slice B2 (Rd.left r a).w.length d2], .slice O (Rd.told r a).length co]) ∧ DV w' (Rd.left r a) A2 c2 B2 d2 ∧ (∀ b, blk A2 = some b → blk A = some b ∨ W1.heap.size ≤ b) ∧ (∀ b, blk B2 = some b → blk B = some b ∨ W1.heap.size ≤ b) ∧ Lies w' O (rdc (Rd.told r a)) ∧ (∀ b, blk O = some b → W1.heap.size ≤ b) ∧ Below W1.heap.size W1 w') := Lib.hid (by
      have h1 := dTold_any W1 r A c B d HD.out a
      rw [← Hn.out, ← Hm.out] at h1
      obtain ⟨e1, e2⟩ := Rd.yes_take a r.b HMo.out
      have e3 : (⟨Rd.no a r.b, r.w⟩ : Rd.R) = Rd.left r a := by rw [e2]; rfl
      have e4 : Rd.yes a r.b = Rd.told r a := e1
      refine h1.mono fun e w' ⟨A2, c2, B2, d2, O, co, g1, g2, g3, g4, g5, _, g7, g8⟩ => ⟨A2, c2, B2, d2, O, co, ?_, by rw [← e3]; exact g2, fun b hb => .inr (g3 b hb), g4, by rw [← e4]; exact g5, (fun b hb => (g7 b hb).1), g8⟩
      rw [g1, ← e3, ← e4])
    obtain ⟨LB, hLB⟩ : ∃ LB, LB = (Rd.left r a).b.length := ⟨_, rfl⟩
    obtain ⟨LW, hLW⟩ : ∃ LW, LW = (Rd.left r a).w.length := ⟨_, rfl⟩
    have HLB := Lib.hid hLB
    have HLW := Lib.hid hLW
    rw [← hLB, ← hLW] at HC
    clear hLB hLW
    obtain ⟨LX, hLX⟩ : ∃ LX, LX = (Rd.told r a).length := ⟨_, rfl⟩
    have HLX := Lib.hid hLX
    rw [← hLX] at HC
    clear hLX
    have E : Hid (Rd.step r 2 a b = Rd.left r a ∧ Rd.tb r 2 a = false ∧ Rd.tn r 2 = 0 ∧ Rd.tx r 2 a = Rd.told r a ∧ Rd.ty r 2 = []) := Lib.hid ⟨rfl, rfl, rfl, rfl, rfl⟩
    go_upto_region 10 with (first
      | (go_at_call 82; refine HC.out.mono ?_; rintro e w2 ⟨A2, c2, B2, d2, O, co, rfl, m1, m2, m3, m5, m6, m4⟩)
      | (refine wpList_load_sub rfl 86 _ rfl g 0 rfl 86 _ #[.slice A n c, .slice B m d] (0, 0) _ HK.out.1 (fun j hj => by rw [Nat.zero_add]) Try.underlying86 rfl sizeDR ?_))
    have HP : Hid (Rw w2 (g + 1 + 1) #[.slice none 0 0, .slice none 0 0] 86 ∧ ∀ W5, Below w2.heap.size w2 W5 → ∀ vs, ∃ A' c' B' d' O' co' Q' cq', Ending.returned (.tuple #[.agg #[.slice A2 LB c2, .slice B2 LW d2], .bool false, .int .i64 (0 : Int), .slice O LX co, .slice none 0 0]) = Ending.returned (.tuple #[.agg #[.slice A' (Rd.left r a).b.length c', .slice B' (Rd.left r a).w.length d'], .bool false, .int .i64 ((0 : Nat) : Int), .slice O' (Rd.told r a).length co', .slice Q' ([] : List Nat).length cq']) ∧ DV (W5.setCells (g + 1 + 1) 0 vs) (Rd.left r a) A' c' B' d' ∧ (∀ b, blk A' = some b → blk A = some b ∨ w.heap.size ≤ b) ∧ (∀ b, blk B' = some b → blk B = some b ∨ w.heap.size ≤ b) ∧ Lies (W5.setCells (g + 1 + 1) 0 vs) O' (rdc (Rd.told r a)) ∧ Lies (W5.setCells (g + 1 + 1) 0 vs) Q' (uc []) ∧ Below w.heap.size w (W5.setCells (g + 1 + 1) 0 vs)) := Lib.hid ⟨HK.out.2.2.1.bel m4, fun W5 hb5 vs => by
      have hgl : g + 1 + 1 < W1.heap.size := HK.out.2.2.1.lt
      have hgw := HG.out
      have hws := HBw.out.size
      have b7 : Below w.heap.size w (W5.setCells (g + 1 + 1) 0 vs) := Bl.puts (w := w) (g := g + 1 + 1) (bnext (bnext HBw.out m4) hb5) HGw.out 0 vs
      have hK : Zk (fun k => k ≠ g + 1 + 1) W5 (W5.setCells (g + 1 + 1) 0 vs) := ⟨(Bl.puts (w := W5) (g := W5.heap.size) (Bl.refl W5) (Nat.le_refl _) 0 []).le |> fun _ => by exact (grownBy_setCells W5 (g + 1 + 1) 0 vs).size, fun k hk => setCells_other hk _ _ _⟩
      have hA2 : ∀ k, blk A2 = some k → k ≠ g + 1 + 1 := fun k hk e => by
        rcases m2 k hk with h | h
        · have := H.out.tb k h; omega
        · omega
      have hB2 : ∀ k, blk B2 = some k → k ≠ g + 1 + 1 := fun k hk e => by
        rcases m3 k hk with h | h
        · have := H.out.tw k h; omega
        · omega
      have hO2 : ∀ k, blk O = some k → k ≠ g + 1 + 1 := fun k hk e => by have := m6 k hk; omega
      refine ⟨A2, c2, B2, d2, O, co, none, 0, by rw [HLB.out, HLW.out, HLX.out]; rfl, (m1.bel hb5).zk hK hA2 hB2, fun b hb => (m2 b hb).imp id (Nat.le_trans hws), fun b hb => (m3 b hb).imp id (Nat.le_trans hws), hK.lies (m5.below hb5) hO2, .inl rfl, b7⟩⟩
    clear HC m1 m2 m3 m4
    refine forget (fun W5 => Rw W5 w2.heap.size #[.slice A2 LB c2, .slice B2 LW d2] 86 ∧ Rw W5 (g + 1 + 1) #[.slice none 0 0, .slice none 0 0] 86 ∧ Below w2.heap.size w2 W5) ⟨Rw.new _ _ _, (HP.out.1).alloc _, bnew (Below.refl _ _) _⟩ ?_
    intro W5 H5
    have H5a := Lib.hid H5.1
    have H5b := Lib.hid H5.2.1
    have HQ := Lib.hid (HP.out.2 _ H5.2.2)
    clear H5 HP c0 c1 a0 a1 a2
    generalize w2.heap.size = g9 at H5a ⊢
    have hX5 : (#[.slice A2 LB c2, .slice B2 LW d2] : Array Value).all (·.oneCell') = true := by simp [Value.oneCell']
    go_wp2_with (first
      | (refine wpList_load_sub rfl 86 _ rfl g9 0 rfl 86 _ #[.slice A2 LB c2, .slice B2 LW d2] (0, 0) _ H5a.out (fun j hj => by rw [Nat.zero_add]) Try.underlying86 rfl sizeDR ?_)
      | (refine wpList_store_sub rfl 86 _ _ rfl (g + 1 + 1) 0 rfl 86 #[.slice none 0 0, .slice none 0 0] #[.slice A2 LB c2, .slice B2 LW d2] rfl H5b.out (Nat.le_refl 2) sizeDR hX5 ?_))
    refine bodyPost_ret (Hres.out _ _ (g + 1 + 1) 86 #[.slice A2 LB c2, .slice B2 LW d2] (0, 0) _ rfl (H5b.out.over rfl) Try.underlying86 rfl sizeDR) rfl ?_
    rw [E.out.1, E.out.2.1, E.out.2.2.1, E.out.2.2.2.1, E.out.2.2.2.2]
    exact HQ.out _
  have s2 : ((o : Int) == 2) = false := by simp; omega
  have s2' : ((o : Int) = 2) = False := by simp; omega
  by_cases h3 : o = 3
  · subst h3
    have HC : Hid (Calls Try.prog 83 #[.agg #[.slice A n c, .slice B m d]] W1 (RetDD r W1)) := Lib.hid (by
      have h1 := dDrop_any W1 r A c B d HD.out
      rw [← Hn.out, ← Hm.out] at h1
      exact h1)
    obtain ⟨LX, hLX⟩ : ∃ LX, LX = (Rd.ids r).length := ⟨_, rfl⟩
    have HLX := Lib.hid hLX
    unfold RetDD at HC
    rw [← hLX] at HC
    clear hLX
    have E : Hid (Rd.step r 3 a b = ⟨[], []⟩ ∧ Rd.tb r 3 a = false ∧ Rd.tn r 3 = 0 ∧ Rd.tx r 3 a = [] ∧ Rd.ty r 3 = Rd.ids r) := Lib.hid ⟨rfl, rfl, rfl, rfl, rfl⟩
    have hX5 : (#[.slice none 0 0, .slice none 0 0] : Array Value).all (·.oneCell') = true := by simp [Value.oneCell']
    go_wp2_with (first
      | (refine wpList_store_sub rfl 86 _ _ rfl (g + 1 + 1) 0 rfl 86 #[.slice none 0 0, .slice none 0 0] #[.slice none 0 0, .slice none 0 0] rfl HP.out.1 (Nat.le_refl 2) sizeDR hX5 ?_)
      | (go_at_call 83; refine HC.out.mono ?_; rintro e w2 ⟨Q2, q2, rfl, m1, m2, m3, m4⟩; have HP : Hid (Rw w2 (g + 1 + 1) #[.slice none 0 0, .slice none 0 0] 86 ∧ True) := Lib.hid ⟨HK.out.2.2.1.bel m4, trivial⟩)
      | (refine wpList_load_sub rfl 86 _ rfl g 0 rfl 86 _ #[.slice A n c, .slice B m d] (0, 0) _ HK.out.1 (fun j hj => by rw [Nat.zero_add]) Try.underlying86 rfl sizeDR ?_))
    refine bodyPost_ret (Hres.out _ _ (g + 1 + 1) 86 #[.slice none 0 0, .slice none 0 0] (0, 0) _ rfl (HP.out.1.over rfl) Try.underlying86 rfl sizeDR) rfl ?_
    have hgl : g + 1 + 1 < W1.heap.size := HK.out.2.2.1.lt
    rw [E.out.1, E.out.2.1, E.out.2.2.1, E.out.2.2.2.1, E.out.2.2.2.2]
    exact ⟨none, 0, none, 0, none, 0, Q2, q2, by rw [HLX.out]; rfl, DV.none _, (fun b h => by cases h), (fun b h => by cases h), .inl rfl, (⟨(grownBy_setCells w2 (g + 1 + 1) 0 _).size, fun k hk => setCells_other hk _ _ _⟩ : Zk (fun k => k ≠ g + 1 + 1) w2 _).lies m1 (fun k hk e => by have := (m3 k hk).1; omega), Bl.puts (w := w) (g := g + 1 + 1) (bnext HBw.out m4) HGw.out 0 _⟩
  have s3 : ((o : Int) == 3) = false := by simp; omega
  have s3' : ((o : Int) = 3) = False := by simp; omega
  have E : Hid (Rd.step r o a b = r ∧ Rd.tb r o a = false ∧ Rd.tn r o = 0 ∧ Rd.tx r o a = [] ∧ Rd.ty r o = []) := Lib.hid (by
    unfold Rd.step Rd.tb Rd.tn Rd.tx Rd.ty
    rw [if_neg h0, if_neg h1, if_neg h2, if_neg h3, if_neg h0, if_neg h1, if_neg h2, if_neg h3]
    exact ⟨rfl, rfl, rfl, rfl, rfl⟩)
  clear h0 h1 h2 h3
  have hX5 : (#[.slice A n c, .slice B m d] : Array Value).all (·.oneCell') = true := by simp [Value.oneCell']
  go_wp2_with (first
    | (refine wpList_load_sub rfl 86 _ rfl g 0 rfl 86 _ #[.slice A n c, .slice B m d] (0, 0) _ HK.out.1 (fun j hj => by rw [Nat.zero_add]) Try.underlying86 rfl sizeDR ?_)
    | (refine wpList_store_sub rfl 86 _ _ rfl (g + 1 + 1) 0 rfl 86 #[.slice none 0 0, .slice none 0 0] #[.slice A n c, .slice B m d] rfl HK.out.2.2.1 (Nat.le_refl 2) sizeDR hX5 ?_))
  refine bodyPost_ret (Hres.out _ _ (g + 1 + 1) 86 #[.slice A n c, .slice B m d] (0, 0) _ rfl (HK.out.2.2.1.over rfl) Try.underlying86 rfl sizeDR) rfl ?_
  have b7 := Bl.puts (w := w) (g := g + 1 + 1) HBw.out HGw.out 0 (#[.slice A n c, .slice B m d] : Array Value).toList
  rw [E.out.1, E.out.2.1, E.out.2.2.1, E.out.2.2.2.1, E.out.2.2.2.2]
  exact ⟨A, c, B, d, none, 0, none, 0, by rw [Hn.out, Hm.out]; rfl, H.out.bel b7, (fun b hb => .inl hb), (fun b hb => .inl hb), .inl rfl, .inl rfl, b7⟩
end Go.Proofs.Ytlnohjboldenpaa
