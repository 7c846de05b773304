/-
  ReadsOnce: its arrays, its prelude.
-/
import Derived.Test.YtlnohjboldenpaaORdZ
import Derived.Test.YtlnohjboldenpaaORdOnceM
import Derived.Test.YtlnohjboldenpaaORdOpen
import Derived.Deep.WholeRow
set_option linter.unusedSimpArgs false
set_option linter.unusedVariables false
namespace Go.Proofs.Ytlnohjboldenpaa
open Go.RowKit Go.Sort
def zeros201 : Array Value := Array.replicate 201 (.int .u64 0)
theorem info201 : (Try.prog.info? 102).map (fun i => (i.zero, i.size)) = some (some (.agg zeros201), 201) := by kernel_rfl
theorem zero201 (w : World) : (zeroValue 102).run Try.prog w = .ok (.agg zeros201) w := (zero_of_info info201).1 w
theorem zeros201_size : zeros201.size = 201 := by simp [zeros201]
theorem zeros201_at (i : Nat) (h : i < 201) : zeros201[i]? = some (.int .u64 (((fun _ => 0 : Nat → Nat) i : Nat) : Int)) := by
  unfold zeros201
  rw [Array.getElem?_replicate, if_pos h]; rfl
attribute [irreducible] zeros201
/-- An array of numbers lies at block g. -/
structure Arr (W : World) (g : Nat) (f : Nat → Nat) : Prop where
  row : ∃ cur : Array Value, W.heap[g]? = some (.cells cur 102 (0, 0)) ∧ cur.size = 201 ∧ ∀ j, j < 201 → cur[j]? = some (.int .u64 ((f j : Nat) : Int))
section
variable {W W' : World} {g : Nat} {f : Nat → Nat}
theorem Arr.new (W : World) : Arr (W.alloc (.cells zeros201 102)) W.heap.size (fun _ => 0) := ⟨⟨_, heap_alloc_new W _, zeros201_size, zeros201_at⟩⟩
theorem Arr.cell (h : Arr W g f) (j : Nat) (hj : j < 201) : W.cell? ⟨g, j, none⟩ = some (.int .u64 ((f j : Nat) : Int)) := by
  obtain ⟨cur, h1, _, h3⟩ := h.row
  rw [cell_of_row W g j cur _ _ h1, h3 j hj]
theorem Arr.free (h : Arr W g f) (j : Nat) : W.frozen? ⟨g, j, none⟩ = false := by
  obtain ⟨cur, h1, _⟩ := h.row
  exact frozen_of_row W g j cur _ h1
theorem Arr.keep (h : Arr W g f) (hk : W'.heap[g]? = W.heap[g]?) : Arr W' g f := by
  obtain ⟨cur, h1, h2⟩ := h.row
  exact ⟨⟨cur, hk.trans h1, h2⟩⟩
theorem Arr.lt (h : Arr W g f) : g < W.heap.size := by
  obtain ⟨cur, h1, _⟩ := h.row
  exact (Array.getElem?_eq_some_iff.1 h1).1
theorem Arr.set (h : Arr W g f) (k : Nat) (hk : k < 201) (v : Nat) : Arr (W.setCell ⟨g, k, none⟩ (.int .u64 (v : Int))) g (Rd.upd f k v) := by
  obtain ⟨cur, h1, h2, h3⟩ := h.row
  refine ⟨⟨cur.setIfInBounds k (.int .u64 (v : Int)), heap_setCell_same W g k cur _ _ h1, by simpa using h2, fun j hj => ?_⟩⟩
  unfold Rd.upd
  by_cases e : j = k
  · subst e; rw [if_pos rfl]; simp [h2, hj]
  · rw [if_neg e, Array.getElem?_setIfInBounds_ne (fun h => e h.symm)]; exact h3 j hj
end
/-- The blocks of ReadsOnce's own. -/
def Zo (gi gt gl : Nat) (k : Nat) : Prop := k = gi ∨ k = gt ∨ k = gl
/-- What lies in memory between two acts. -/
structure OM (w W : World) (p gi gt gl : Nat) (I T : Nat → Nat) (e : Rd.E) (r : Rd.R) : Prop where
  rz : RZ w W p r (Zo gi gt gl)
  ai : Arr W gi I
  at_ : Arr W gt T
  al : Rw W gl #[.int .u64 (e.id : Int), .int .u64 (e.idx : Int), .int .u64 (e.rnd : Int)] 97
/-- The blocks are three, and new. -/
structure Og3 (w : World) (gi gt gl : Nat) : Prop where
  i : w.heap.size ≤ gi
  t : w.heap.size ≤ gt
  l : w.heap.size ≤ gl
  it : gi ≠ gt
  il : gi ≠ gl
  tl : gt ≠ gl
section
variable {w W W' : World} {p gi gt gl : Nat} {I T : Nat → Nat} {e : Rd.E} {r r' : Rd.R}
theorem OM.zk (h : OM w W p gi gt gl I T e r) (hz : Zk (Zo gi gt gl) W W') (hr : RZ w W' p r' (Zo gi gt gl)) : OM w W' p gi gt gl I T e r' :=
  ⟨hr, h.ai.keep (hz.keep gi (.inl rfl)), h.at_.keep (hz.keep gt (.inr (.inl rfl))), (hz.keep gl (.inr (.inr rfl))).trans h.al⟩
theorem OM.bel (h : OM w W p gi gt gl I T e r) (hb : Below W.heap.size W W') : OM w W' p gi gt gl I T e r := h.zk (Zk.bel hb h.rz.zl) (h.rz.bel hb)
theorem OM.setI (h : OM w W p gi gt gl I T e r) (hg : Og3 w gi gt gl) (k : Nat) (hk : k < 201) (v : Nat) : OM w (W.setCell ⟨gi, k, none⟩ (.int .u64 (v : Int))) p gi gt gl (Rd.upd I k v) T e r :=
  ⟨h.rz.set (a := ⟨gi, k, none⟩) (.inl rfl) hg.i _, h.ai.set k hk v, h.at_.keep (heap_setCell_other W ⟨gi, k, none⟩ gt _ (fun e => hg.it e.symm)), h.al.oput (fun e => hg.il e.symm) _ _⟩
theorem OM.setT (h : OM w W p gi gt gl I T e r) (hg : Og3 w gi gt gl) (k : Nat) (hk : k < 201) (v : Nat) : OM w (W.setCell ⟨gt, k, none⟩ (.int .u64 (v : Int))) p gi gt gl I (Rd.upd T k v) e r :=
  ⟨h.rz.set (a := ⟨gt, k, none⟩) (.inr (.inl rfl)) hg.t _, h.ai.keep (heap_setCell_other W ⟨gt, k, none⟩ gi _ (fun e => hg.it e)), h.at_.set k hk v, h.al.oput (fun e => hg.tl e.symm) _ _⟩
end
/-- What lies in memory while the told ones are looked at. -/
structure OT (w W : World) (p gi gt gl : Nat) (I T : Nat → Nat) (e : Rd.E) (r : Rd.R) (A2 : Option Addr) (c2 C : Nat) (TT : List Rd.E) : Prop where
  rz : RZ w W p r (Zb (Zo gi gt gl) A2)
  ai : Arr W gi I
  at_ : Arr W gt T
  al : Rw W gl #[.int .u64 (e.id : Int), .int .u64 (e.idx : Int), .int .u64 (e.rnd : Int)] 97
  sl : Sl W 3 A2 C c2 (rdc TT)
  ne : blk A2 ≠ some gl
section
variable {w W W' : World} {p gi gt gl : Nat} {I T : Nat → Nat} {e : Rd.E} {r r' : Rd.R} {A2 : Option Addr} {c2 C : Nat} {TT : List Rd.E}
theorem OM.ot (h : OM w W p gi gt gl I T e r) (hz : Zk (Zo gi gt gl) W W') (hr : RZ w W' p r' (Zb (Zo gi gt gl) A2)) (hs : Sl W' 3 A2 C c2 (rdc TT)) (hf : ∀ b, blk A2 = some b → W.heap.size ≤ b) : OT w W' p gi gt gl I T e r' A2 c2 C TT :=
  ⟨hr, h.ai.keep (hz.keep gi (.inl rfl)), h.at_.keep (hz.keep gt (.inr (.inl rfl))), (hz.keep gl (.inr (.inr rfl))).trans h.al, hs, fun e => by have h1 := hf gl e; have h2 := h.al.lt; omega⟩
theorem OT.om (h : OT w W p gi gt gl I T e r A2 c2 C TT) : OM w W p gi gt gl I T e r := ⟨h.rz.mono fun k hk => .inl hk, h.ai, h.at_, h.al⟩
theorem OT.bel (h : OT w W p gi gt gl I T e r A2 c2 C TT) (hb : Below W.heap.size W W') : OT w W' p gi gt gl I T e r A2 c2 C TT :=
  ⟨h.rz.bel hb, h.ai.keep (hb.block gi h.ai.lt), h.at_.keep (hb.block gt h.at_.lt), h.al.bel hb, h.sl.below hb, h.ne⟩
theorem OT.setL (h : OT w W p gi gt gl I T e r A2 c2 C TT) (hg : Og3 w gi gt gl) (e' : Rd.E) : OT w (W.setCells gl 0 (#[.int .u64 (e'.id : Int), .int .u64 (e'.idx : Int), .int .u64 (e'.rnd : Int)] : Array Value).toList) p gi gt gl I T e' r A2 c2 C TT := by
  have hz : Zb (Zo gi gt gl) A2 gl := Or.inl (Or.inr (Or.inr rfl))
  refine ⟨?_, h.ai.keep (setCells_other hg.il _ _ _), h.at_.keep (setCells_other hg.tl _ _ _), h.al.over rfl, h.sl.keep fun b hb => setCells_other (fun e => h.ne (by rw [← e]; exact hb)) _ _ _, h.ne⟩
  exact ((h.rz.set (a := ⟨gl, 0, none⟩) hz hg.l _).set (a := ⟨gl, 1, none⟩) hz hg.l _).set (a := ⟨gl, 2, none⟩) hz hg.l _
end
set_option maxRecDepth 100000 in
set_option maxHeartbeats 4000000 in
theorem readsOnce_any (w : World) (A : Option Addr) (cp : Nat) (gs : List Rda) (hA : Lies w A (ras gs)) (hgs : ∀ g ∈ gs, RaFit g) (hl : gs.length ≤ maxLen) :
    Calls Try.prog 12 #[.slice A gs.length cp] w (RetR (.bool true) w) := by
  have HAw := Lib.hid rdAwake_any
  simp only [maxLen] at hl
  by_cases hlen : 200 < gs.length
  · have q1 : decide (200 < gs.length) = true := decide_eq_true hlen
    have q2 : ((200 : Int) < ((gs.length : Nat) : Int)) = True := by simp; omega
    clear hA hgs
    go_enter Try.func12, Try.ntmps12
    go_wp2_with (go_at_call 41; refine (HAw.out _).mono ?_; rintro e w1 ⟨rfl, b1⟩)
    go_ret
    exact ⟨rfl, b1⟩
  have q1 : decide (200 < gs.length) = false := decide_eq_false hlen
  have q2 : ((200 : Int) < ((gs.length : Nat) : Int)) = False := by simp; omega
  have HL := Lib.hid hA
  have HF := Lib.hid (fun k (hk : k < gs.length) => hgs _ (List.getElem_mem hk))
  have HN : Hid (Calls Try.prog 42 #[] w fun e w' => ∃ p, e = .returned (.pointer (some ⟨p, 0, none⟩)) ∧ RZ w w' p ⟨[], []⟩ (fun _ => False)) := Lib.hid ((rz_new (Z := fun _ => False) (Below.refl _ _) (fun k h => h.elim)).mono fun e w' ⟨p, h1, h2, _⟩ => ⟨p, h1, h2⟩)
  obtain ⟨n, hn⟩ : ∃ n, n = gs.length := ⟨_, rfl⟩
  have Hn := Lib.hid hn
  rw [← hn] at q1 q2 hlen hl ⊢
  have hn200 : n ≤ 200 := by omega
  clear hA hgs hn
  have z0 := zero201
  go_enter Try.func12, Try.ntmps12
  go_upto_region 9 with (go_at_call 42; refine HN.out.mono ?_; rintro e w1 ⟨p, rfl, i1⟩)
  have hg0 := i1.bl.size
  have hb3 : Below w1.heap.size w1 (((w1.alloc (.cells zeros201 102)).alloc (.cells zeros201 102)).alloc (.cells #[.int .u64 0, .int .u64 0, .int .u64 0] 97)) := bnew (bnew (bnew (Below.refl _ _) _) _) _
  have HM0 : Hid (OM w (((w1.alloc (.cells zeros201 102)).alloc (.cells zeros201 102)).alloc (.cells #[.int .u64 0, .int .u64 0, .int .u64 0] 97)) p w1.heap.size (w1.heap.size + 1) (w1.heap.size + 1 + 1) (fun _ => 0) (fun _ => 0) ⟨0, 0, 0⟩ ⟨[], []⟩) := Lib.hid (by
    refine ⟨i1.belZ hb3 (fun k hk => .inr ?_), ?_, ?_, ?_⟩
    · simp only [World.size_alloc]
      rcases hk with h | h | h <;> omega
    · exact ((Arr.new w1).keep (Below.heap_alloc _ _ _ (by rw [World.size_alloc]; omega))).keep (Below.heap_alloc _ _ _ (by rw [World.size_alloc, World.size_alloc]; omega))
    · have := Arr.new (w1.alloc (.cells zeros201 102))
      rw [World.size_alloc] at this
      exact this.keep (Below.heap_alloc _ _ _ (by rw [World.size_alloc, World.size_alloc]; omega))
    · have := Rw.new ((w1.alloc (.cells zeros201 102)).alloc (.cells zeros201 102)) #[.int .u64 0, .int .u64 0, .int .u64 0] 97
      rw [World.size_alloc, World.size_alloc] at this
      exact this)
  have HG0 : Og3 w w1.heap.size (w1.heap.size + 1) (w1.heap.size + 1 + 1) := ⟨hg0, by omega, by omega, by omega, by omega, by omega⟩
  refine forget (fun W => OM w W p w1.heap.size (w1.heap.size + 1) (w1.heap.size + 1 + 1) (fun _ => 0) (fun _ => 0) ⟨0, 0, 0⟩ ⟨[], []⟩) HM0.out ?_
  intro W hM
  clear HM0 hb3 hg0 i1 z0 HN
  generalize w1.heap.size + 1 + 1 = gl at *
  generalize w1.heap.size + 1 = gt at *
  generalize w1.heap.size = gi at *
  have HG := Lib.hid HG0
  have HM := Lib.hid hM
  clear hM HG0
  go_wp2_with fail
  go_loopw [4, 5, 6, 10] (fun av xv gv iv wr => ∃ (k a x g : Nat) (I T : Nat → Nat) (e : Rd.E) (r : Rd.R), k ≤ n ∧ av = .int .u64 (a : Int) ∧ xv = .int .u64 (x : Int) ∧ gv = .int .u64 (g : Int) ∧ iv = .int .i64 (k : Int) ∧ Rd.On k a x g I T r ∧ OM w wr p gi gt gl I T e r) (fun _ _ _ iv _ => n - (intOf iv).toNat)
  case atStart => exact ⟨0, 0, 1, 1, _, _, _, _, Nat.zero_le _, rfl, rfl, rfl, rfl, Rd.On.zero _ _, HM.out⟩
  case round =>
    obtain ⟨k, a, x, g, I, T, e, r, hkn, rfl, rfl, rfl, rfl, hOn, hM⟩ := hrel
    have HO := Lib.hid hOn
    have HMr := Lib.hid hM
    have b1 := hOn.ak
    have b2 := hOn.x1
    have b3 := hOn.xg
    have b4 := hOn.ga
    clear hOn HM
    by_cases hlt : k < n
    · have hkr : k < gs.length := by rw [← Hn.out]; exact hlt
      have hbl := hM.rz.bl
      obtain ⟨gb, go, rfl, _, d0, d1, d2⟩ := (HL.out.below hbl).ra k hkr
      have HCs : Hid (∀ W, Below w.heap.size w W → W.cell? ⟨gb, go + k * 3, none⟩ = some (.int .u8 ((gs[k].op : Nat) : Int)) ∧ W.cell? ⟨gb, go + k * 3 + 1, none⟩ = some (.int .u64 ((gs[k].a : Nat) : Int)) ∧ W.cell? ⟨gb, go + k * 3 + 2, none⟩ = some (.int .u64 ((gs[k].b : Nat) : Int))) := Lib.hid fun W hb => by
        obtain ⟨gb', go', he, _, d0, d1, d2⟩ := (HL.out.below hb).ra k hkr
        obtain ⟨rfl, rfl⟩ : gb = gb' ∧ go = go' := by injection he with he; injection he with h1 h2; exact ⟨h1, h2⟩
        exact ⟨d0, d1, d2⟩
      have hfit := HF.out k hkr
      obtain ⟨o, ho⟩ : ∃ o, o = gs[k].op := ⟨_, rfl⟩
      obtain ⟨u, hu⟩ : ∃ u, u = gs[k].a := ⟨_, rfl⟩
      obtain ⟨v, hv⟩ : ∃ v, v = gs[k].b := ⟨_, rfl⟩
      have f1 : u < Nm.top := by rw [hu]; exact hfit.a
      have f2 : v < Nm.top := by rw [hv]; exact hfit.b
      have Hu := Lib.hid f1
      have Hv := Lib.hid f2
      unfold Nm.top at f1 f2
      rw [← ho, ← hu, ← hv] at HCs
      rw [← ho] at d0
      rw [← hu] at d1
      rw [← hv] at d2
      clear ho hu hv hfit hkr hbl hM
      have hn200' : k < 200 := by omega
      by_cases ho0 : o = 0
      · subst ho0
        have HOn : Hid (Rd.On (k + 1) (a + 1) x g I T (Rd.ask r (a + 1))) := Lib.hid HO.out.as_
        have HA1 : Hid (∀ W, OM w W p gi gt gl I T e r → Calls Try.prog 47 #[.pointer (some ⟨p, 0, none⟩), .int .u64 ((a : Int) + 1)] W fun e9 w' => e9 = .returned (.bool true) ∧ OM w w' p gi gt gl I T e (Rd.ask r (a + 1))) := Lib.hid fun W hW => by
          have h1 := HO.out.bl
          have h2 := HO.out.wl
          refine (rz_ask hW.rz (a + 1) (by unfold Nm.top; omega) (by omega)).mono fun e9 w' ⟨h3, h4, h5⟩ => ⟨?_, hW.zk h5 h4⟩
          rw [h3, HO.out.not_has]; rfl
        have HA2 : Hid (∀ W, OM w W p gi gt gl I T e (Rd.ask r (a + 1)) → Calls Try.prog 47 #[.pointer (some ⟨p, 0, none⟩), .int .u64 ((a : Int) + 1)] W fun e9 w' => e9 = .returned (.bool false) ∧ OM w w' p gi gt gl I T e (Rd.ask r (a + 1))) := Lib.hid fun W hW => by
          have h1 := HOn.out.bl
          have h2 := HOn.out.wl
          refine (rz_ask hW.rz (a + 1) (by unfold Nm.top; omega) (by omega)).mono fun e9 w' ⟨h3, h4, h5⟩ => ⟨?_, by rw [HO.out.ask_same] at h4; exact hW.zk h5 h4⟩
          rw [h3, HO.out.has_then]; rfl
        obtain ⟨m1, hm1⟩ : ∃ m1, m1 = g - x := ⟨_, rfl⟩
        obtain ⟨m2, hm2⟩ : ∃ m2, m2 = (a + 1) + 1 - g := ⟨_, rfl⟩
        have hn1 := HOn.out.xg
        have hn2 := HOn.out.ga
        have hn3 := HOn.out.ak
        have HLn : Hid (∀ W, OM w W p gi gt gl (I) (T) e (Rd.ask r (a + 1)) → Calls Try.prog 45 #[.pointer (some ⟨p, 0, none⟩)] W fun e9 w' => e9 = .returned (.tuple #[.int .i64 (m1 : Int), .int .i64 (m2 : Int)]) ∧ OM w w' p gi gt gl (I) (T) e (Rd.ask r (a + 1))) := Lib.hid fun W hW => by
          have h1 := HOn.out.bl
          have h2 := HOn.out.wl
          refine (rz_len hW.rz).mono fun e9 w' ⟨h3, h4, h5⟩ => ⟨?_, hW.zk h5 h4⟩
          rw [h3, h1, h2, ← hm1, ← hm2]
        have t1 : (((g : Int)) - ((x : Int))) = (m1 : Int) := by omega
        have t2 : (((a : Int) + 1) + 1 - ((g : Int))) = (m2 : Int) := by omega
        have t3 : decide ((((a : Int) + 1) + 1) < ((x : Int))) = false := decide_eq_false (by omega)
        have t4 : ((((a : Int) + 1) + 1) < ((x : Int))) = False := by simp; omega
        have hm1' : m1 ≤ 201 := by omega
        have hm2' : m2 ≤ 201 := by omega
        have HK1 : Hid (k + 1 ≤ n) := Lib.hid (by omega)
        clear hm1 hm2
        clear HCs HF HL HAw HG d1 d2 HO
        go_wp2_with (first
          | (go_at_call 45; refine (HLn.out _ m3).mono ?_; rintro e9 w9 ⟨rfl, m9⟩)
          | (go_at_call 47; refine (HA2.out _ m2').mono ?_; rintro e8 w3 ⟨rfl, m3⟩)
          | (go_at_call 47; refine (HA1.out _ HMr.out).mono ?_; rintro e8 w2 ⟨rfl, m2'⟩))
        go_roundw
        case rel => exact ⟨k + 1, (a + 1), x, g, I, T, e, (Rd.ask r (a + 1)), HK1.out, by go_num, by go_num, by go_num, by go_num, HOn.out, m9⟩
        case measure => have := HK1.out; simp [intOf]; omega
      have s0 : ((o : Int) == 0) = false := by simp; omega
      have s0' : ((o : Int) = 0) = False := by simp; omega
      by_cases ho1 : o = 1
      · subst ho1
        have HOn0 : Hid (Rd.On (k + 1) a x (a + 1) (Rd.span I g (a + 1) u) (Rd.span T g (a + 1) v) (Rd.begin r u v)) := Lib.hid (HO.out.beg_ u v)
        obtain ⟨l1, hl1⟩ : ∃ l1, l1 = a + 1 - g := ⟨_, rfl⟩
        have HB : Hid (∀ W, OM w W p gi gt gl I T e r → Calls Try.prog 48 #[.pointer (some ⟨p, 0, none⟩), .int .u64 (u : Int), .int .u64 (v : Int)] W fun e9 w' => e9 = .returned (.int .i64 (l1 : Int)) ∧ OM w w' p gi gt gl I T e (Rd.begin r u v)) := Lib.hid fun W hW => by
          have h1 := HO.out.bl
          have h2 := HO.out.wl
          refine (rz_begin hW.rz u v Hu.out Hv.out (by omega)).mono fun e9 w' ⟨h3, h4, h5⟩ => ⟨?_, hW.zk h5 h4⟩
          rw [h3, h2, ← hl1]
        have v1 : (((a : Int) + 1) - (g : Int)) = (l1 : Int) := by omega
        have hl2 : l1 ≤ 201 := by omega
        have HMd := Lib.hid (HMr.out.bel (below_drew (Below.refl wr.heap.size wr)))
        obtain ⟨_, c1, c2⟩ := HCs.out wr.drew (below_drew HMr.out.rz.bl)
        obtain ⟨R, hR⟩ : ∃ R, R = Rd.begin r u v := ⟨_, rfl⟩
        rw [← hR] at HB HOn0
        clear HF hl1 HO hR Hu Hv
        go_upto_region 18 with (fail)
        go_region_law (go_simp; go_at_call 48; refine (HB.out _ HMd.out).mono ?_; rintro e8 w2 ⟨rfl, m2'⟩)
        all_goals
          have HM2 := Lib.hid m2'
          clear m2' HB HMd c1 c2 d1 d2 HMr
          go_wp2_with fail
          go_loopw [6] (fun gv wq => ∃ (g' : Nat), g ≤ g' ∧ g' ≤ a + 1 ∧ gv = .int .u64 (g' : Int) ∧ OM w wq p gi gt gl (Rd.span I g g' u) (Rd.span T g g' v) e R) (fun gv _ => 300 - (intOf gv).toNat)
          case atStart => exact ⟨g, Nat.le_refl _, by omega, rfl, by rw [Rd.span_nil, Rd.span_nil]; exact HM2.out⟩
          case round =>
            obtain ⟨g', hg1, hg2, rfl, hM⟩ := hrel
            have HMq := Lib.hid hM
            clear hM HM2
            by_cases hq : g' ≤ a
            · have r1 : decide (g' ≤ a) = true := decide_eq_true hq
              have r2 : ((g' : Int) ≤ (a : Int)) = True := by simp; omega
              have hg3 : g' < 201 := by omega
              obtain ⟨_, c1, c2⟩ := HCs.out wr HMq.out.rz.bl
              have a1 := HMq.out.ai.cell g' hg3
              have a2 := HMq.out.ai.free g'
              have HM3 := Lib.hid (HMq.out.setI HG.out g' hg3 u)
              rw [Rd.span_step I g g' u hg1] at HM3
              clear HL HAw
              go_upto_region 24 with (fail)
              refine forget (fun W => OM w W p gi gt gl (Rd.span I g (g' + 1) u) (Rd.span T g g' v) e R) HM3.out ?_
              intro W4 hM4
              have HM4 := Lib.hid hM4
              clear a1 a2 c1 c2 hM4 HM3 HMq
              obtain ⟨_, c1, c2⟩ := HCs.out W4 HM4.out.rz.bl
              have a1 := HM4.out.at_.cell g' hg3
              have a2 := HM4.out.at_.free g'
              have HM5 := Lib.hid (HM4.out.setT HG.out g' hg3 v)
              rw [Rd.span_step T g g' v hg1] at HM5
              clear HM4
              go_wp2_with fail
              go_roundw
              case rel => exact ⟨g' + 1, by omega, by omega, by go_num, HM5.out⟩
              case measure => simp [intOf]; omega
            · have r1 : decide (g' ≤ a) = false := decide_eq_false hq
              have r2 : ((g' : Int) ≤ (a : Int)) = False := by simp; omega
              have e1 : g' = a + 1 := by omega
              have HOn : Hid (Rd.On (k + 1) a x g' (Rd.span I g g' u) (Rd.span T g g' v) R) := Lib.hid (by rw [e1]; exact HOn0.out)
              obtain ⟨m1, hm1⟩ : ∃ m1, m1 = g' - x := ⟨_, rfl⟩
              obtain ⟨m2, hm2⟩ : ∃ m2, m2 = a + 1 - g' := ⟨_, rfl⟩
              have hn1 := HOn.out.xg
              have hn2 := HOn.out.ga
              have hn3 := HOn.out.ak
              have HLn : Hid (∀ W, OM w W p gi gt gl ((Rd.span I g g' u)) ((Rd.span T g g' v)) e R → Calls Try.prog 45 #[.pointer (some ⟨p, 0, none⟩)] W fun e9 w' => e9 = .returned (.tuple #[.int .i64 (m1 : Int), .int .i64 (m2 : Int)]) ∧ OM w w' p gi gt gl ((Rd.span I g g' u)) ((Rd.span T g g' v)) e R) := Lib.hid fun W hW => by
                have h1 := HOn.out.bl
                have h2 := HOn.out.wl
                refine (rz_len hW.rz).mono fun e9 w' ⟨h3, h4, h5⟩ => ⟨?_, hW.zk h5 h4⟩
                rw [h3, h1, h2, ← hm1, ← hm2]
              have t1 : (((g' : Int)) - ((x : Int))) = (m1 : Int) := by omega
              have t2 : (((a : Int)) + 1 - ((g' : Int))) = (m2 : Int) := by omega
              have t3 : decide ((((a : Int)) + 1) < ((x : Int))) = false := decide_eq_false (by omega)
              have t4 : ((((a : Int)) + 1) < ((x : Int))) = False := by simp; omega
              have hm1' : m1 ≤ 201 := by omega
              have hm2' : m2 ≤ 201 := by omega
              have HK1 : Hid (k + 1 ≤ n) := Lib.hid (by omega)
              clear hm1 hm2
              clear HCs HL HAw HG HOn0 hq e1
              go_wp2_with (go_at_call 45; refine (HLn.out _ HMq.out).mono ?_; rintro e9 w9 ⟨rfl, m9⟩)
              go_roundw
              case rel => exact ⟨k + 1, a, x, g', (Rd.span I g g' u), (Rd.span T g g' v), e, R, HK1.out, by go_num, by go_num, by go_num, by go_num, HOn.out, m9⟩
              case measure => have := HK1.out; simp [intOf]; omega
      have s1 : ((o : Int) == 1) = false := by simp; omega
      have s1' : ((o : Int) = 1) = False := by simp; omega
      by_cases ho2 : o = 2
      · subst ho2
        have HOn0 : Hid (Rd.On (k + 1) a (x + Rd.cnt u r.b) g I T (Rd.left r u)) := Lib.hid (HO.out.tel_ u)
        have HTA := Lib.hid (HO.out.told_at u)
        have HTl : Hid ((Rd.told r u).length = Rd.cnt u r.b) := Lib.hid (Rd.told_len r u)
        obtain ⟨TT, hTT⟩ : ∃ TT, TT = Rd.told r u := ⟨_, rfl⟩
        rw [← hTT] at HTA HTl
        obtain ⟨C, hC⟩ : ∃ C, C = TT.length := ⟨_, rfl⟩
        have HC := Lib.hid hC
        have hC2 : C ≤ 201 := by have h1 := HTl.out; have h2 := Rd.cnt_le u r.b; have h3 := HO.out.bl; omega
        have hxC : x + C ≤ 201 := by have h1 := HTl.out; have h2 := Rd.cnt_le u r.b; have h3 := HO.out.bl; omega
        obtain ⟨R, hR⟩ : ∃ R, R = Rd.left r u := ⟨_, rfl⟩
        have HT : Hid (∀ W, OM w W p gi gt gl I T e r → Calls Try.prog 49 #[.pointer (some ⟨p, 0, none⟩), .int .u64 (u : Int)] W fun e9 w' => ∃ A2 c2, e9 = .returned (.slice A2 C c2) ∧ OT w w' p gi gt gl I T e R A2 c2 C TT) := Lib.hid fun W hW => (rz_told hW.rz u).mono fun e9 w' ⟨A2, c2, h1, h2, h3, h4, h5⟩ => by
          rw [← hTT, ← hC] at h1 h2
          rw [← hR] at h4
          exact ⟨A2, c2, h1, hW.ot h5 h4 h2 h3⟩
        rw [← hR] at HOn0
        have HOn1 : Hid (Rd.On (k + 1) a (x + C) g I T R) := Lib.hid (by have := HOn0.out; rw [← HTl.out, ← HC.out] at this; exact this)
        clear HF hTT hC hR HOn0 HTl HO d2 Hu Hv
        go_upto_region 27 with (go_at_call 49; refine (HT.out _ HMr.out).mono ?_; rintro e8 w2 ⟨A2, c2, rfl, m2'⟩)
        have HM2 := Lib.hid m2'
        clear m2' HT HMr d1
        go_wp2_with fail
        go_loopw [5, 13] (fun xv qv wq => ∃ (q y : Nat) (e' : Rd.E), q ≤ C ∧ y ≤ 201 ∧ Hid (y = x + q) ∧ xv = .int .u64 (y : Int) ∧ qv = .int .i64 (q : Int) ∧ Hid (0 < q → ∃ h : q - 1 < TT.length, e' = TT[q - 1]) ∧ OT w wq p gi gt gl I T e' R A2 c2 C TT) (fun _ qv _ => C - (intOf qv).toNat)
        case atStart => exact ⟨0, x, e, Nat.zero_le _, by omega, Lib.hid rfl, rfl, rfl, Lib.hid (fun h => absurd h (Nat.lt_irrefl 0)), HM2.out⟩
        case round =>
          obtain ⟨q, y, e', hqC, hy2, HY, rfl, rfl, HP, hT⟩ := hrel
          have HTt := Lib.hid hT
          clear hT HM2
          by_cases hq : q < C
          · have hqr : q < TT.length := by rw [← HC.out]; exact hq
            obtain ⟨bq, oq, rfl, hE⟩ := HTt.out.sl.liesV.rd q hqr
            obtain ⟨t1, t2, t3, t4, t5, t6⟩ := HTA.out q hqr
            rw [← HY.out] at t1 t2 t3 t5
            have hc2 : C ≤ c2 := HTt.out.sl.le
            have HP2 : Hid (0 < q → e'.idx ≤ TT[q].idx ∧ e'.rnd ≤ TT[q].rnd) := Lib.hid fun h0 => by
              obtain ⟨h1, h2⟩ := HP.out h0
              obtain ⟨h3, h4⟩ := t6 h0
              rw [h2]; exact h4
            obtain ⟨E1, hE1⟩ : ∃ E1, E1 = TT[q] := ⟨_, rfl⟩
            rw [← hE1] at hE t1 t2 t3 t4 HP2
            have HP3 : Hid (0 < q + 1 → ∃ h : q + 1 - 1 < TT.length, E1 = TT[q + 1 - 1]) := Lib.hid fun _ => ⟨by omega, hE1⟩
            obtain ⟨i1, ix, rd⟩ := E1
            obtain rfl : i1 = y := t1
            obtain ⟨li, lx, lr⟩ := e'
            obtain ⟨_, c0, c1, c2'⟩ := hE
            simp only at t2 t3 t4 HP2 c0 c1 c2'
            obtain ⟨Iy, hIy⟩ : ∃ Iy, Iy = I i1 := ⟨_, rfl⟩
            obtain ⟨Ty, hTy⟩ : ∃ Ty, Ty = T i1 := ⟨_, rfl⟩
            have HIy := Lib.hid hIy
            have HTy := Lib.hid hTy
            rw [← hIy] at t2
            rw [← hTy] at t3
            have y1 : decide (g ≤ i1) = false := decide_eq_false (by omega)
            have y1' : ((g : Int) ≤ (i1 : Int)) = False := by simp; omega
            have y2 : decide (ix < Iy) = false := decide_eq_false (by omega)
            have y2' : ((ix : Int) < (Iy : Int)) = False := by simp; omega
            have y3 : decide (rd < Ty) = false := decide_eq_false (by omega)
            have y3' : ((rd : Int) < (Ty : Int)) = False := by simp; omega
            have y4 : decide (u < rd) = false := decide_eq_false (by omega)
            have y4' : ((u : Int) < (rd : Int)) = False := by simp; omega
            have hi1 : i1 < 201 := by omega
            clear hE1 hIy hTy t2 t3 t4 t5 t6 hqr HTA HP HL HAw HOn1
            go_upto_region 31 with (fail)
            refine forget (fun W2 => OT w W2 p gi gt gl I T ⟨li, lx, lr⟩ R (some ⟨bq, oq, none⟩) c2 C TT ∧ Rw W2 wr.heap.size #[.int .u64 (i1 : Int), .int .u64 (ix : Int), .int .u64 (rd : Int)] 97) ⟨HTt.out.bel (bnew (Below.refl _ _) _), Rw.new _ _ _⟩ ?_
            intro W2 hW2
            obtain ⟨hT2, hR2⟩ := hW2
            generalize wr.heap.size = gx at hR2 ⊢
            have e0 := hR2.cell 0 (v := .int .u64 (i1 : Int)) rfl
            have e1 := hR2.cell 1 (v := .int .u64 (ix : Int)) rfl
            have e2 := hR2.cell 2 (v := .int .u64 (rd : Int)) rfl
            have j0 := hT2.ai.cell i1 hi1
            have j1 := hT2.at_.cell i1 hi1
            have k1 := hT2.al.cell 1 (v := .int .u64 (lx : Int)) rfl
            have k2 := hT2.al.cell 2 (v := .int .u64 (lr : Int)) rfl
            rw [← HIy.out] at j0
            rw [← HTy.out] at j1
            obtain ⟨_, n1, n2⟩ := HCs.out W2 hT2.rz.bl
            have HT2 := Lib.hid hT2
            have HR2 := Lib.hid hR2
            clear hT2 hR2 HTt c0 c1 c2' HIy HTy
            by_cases hq0 : q = 0
            · subst hq0
              clear HP2
              go_quiet (fail)
              go_upto_region 35 with (fail)
              refine forget (fun W5 => OT w W5 p gi gt gl I T ⟨li, lx, lr⟩ R (some ⟨bq, oq, none⟩) c2 C TT ∧ Rw W5 gx #[.int .u64 (i1 : Int), .int .u64 (ix : Int), .int .u64 (rd : Int)] 97) ⟨HT2.out.bel (below_drewN (Below.refl _ _) _), HR2.out.drewN _⟩ ?_
              intro W5 hW5
              have HT5 := Lib.hid hW5.1
              have HR5 := Lib.hid hW5.2
              have HL5 := Lib.hid hW5.1.al
              clear hW5 e0 e1 e2 j0 j1 k1 k2 n1 n2 HT2 HR2 y1 y1' y2 y2' y3 y3' y4 y4'
              simp only at HL5
              go_wp2_with (first
                | (refine wpList_load_sub rfl 97 _ rfl gx 0 rfl 97 _ #[.int .u64 (i1 : Int), .int .u64 (ix : Int), .int .u64 (rd : Int)] (0, 0) _ HR5.out (fun j hj => by rw [Nat.zero_add]) Try.underlying97 rfl sizeRd ?_)
                | (refine wpList_store_sub rfl 97 _ _ rfl gl 0 rfl 97 #[.int .u64 (li : Int), .int .u64 (lx : Int), .int .u64 (lr : Int)] #[.int .u64 (i1 : Int), .int .u64 (ix : Int), .int .u64 (rd : Int)] rfl HL5.out (Nat.le_refl 3) sizeRd (by simp [Value.oneCell']) ?_))
              go_roundw
              case rel => exact ⟨0 + 1, i1 + 1, ⟨i1, ix, rd⟩, by omega, by have := HY.out; omega, Lib.hid (by have := HY.out; omega), by go_num, by go_num, HP3, HT5.out.setL HG.out ⟨i1, ix, rd⟩⟩
              case measure => simp [intOf]; omega
            · have z1 : decide (0 < q) = true := decide_eq_true (by omega)
              have z2 : ((0 : Int) < (q : Int)) = True := by simp; omega
              obtain ⟨z3, z4⟩ := HP2.out (by omega)
              have z5 : decide (ix < lx) = false := decide_eq_false (by omega)
              have z5' : ((ix : Int) < (lx : Int)) = False := by simp; omega
              have z6 : decide (rd < lr) = false := decide_eq_false (by omega)
              have z6' : ((rd : Int) < (lr : Int)) = False := by simp; omega
              clear HP2 z3 z4 hq0
              go_quiet (fail)
              go_upto_region 35 with (fail)
              refine forget (fun W5 => OT w W5 p gi gt gl I T ⟨li, lx, lr⟩ R (some ⟨bq, oq, none⟩) c2 C TT ∧ Rw W5 gx #[.int .u64 (i1 : Int), .int .u64 (ix : Int), .int .u64 (rd : Int)] 97) ⟨HT2.out.bel (below_drewN (Below.refl _ _) _), HR2.out.drewN _⟩ ?_
              intro W5 hW5
              have HT5 := Lib.hid hW5.1
              have HR5 := Lib.hid hW5.2
              have HL5 := Lib.hid hW5.1.al
              clear hW5 z1 z2 z5 z5' z6 z6' e0 e1 e2 j0 j1 k1 k2 n1 n2 HT2 HR2 y1 y1' y2 y2' y3 y3' y4 y4'
              simp only at HL5
              go_wp2_with (first
                | (refine wpList_load_sub rfl 97 _ rfl gx 0 rfl 97 _ #[.int .u64 (i1 : Int), .int .u64 (ix : Int), .int .u64 (rd : Int)] (0, 0) _ HR5.out (fun j hj => by rw [Nat.zero_add]) Try.underlying97 rfl sizeRd ?_)
                | (refine wpList_store_sub rfl 97 _ _ rfl gl 0 rfl 97 #[.int .u64 (li : Int), .int .u64 (lx : Int), .int .u64 (lr : Int)] #[.int .u64 (i1 : Int), .int .u64 (ix : Int), .int .u64 (rd : Int)] rfl HL5.out (Nat.le_refl 3) sizeRd (by simp [Value.oneCell']) ?_))
              go_roundw
              case rel => exact ⟨q + 1, i1 + 1, ⟨i1, ix, rd⟩, by omega, by have := HY.out; omega, Lib.hid (by have := HY.out; omega), by go_num, by go_num, HP3, HT5.out.setL HG.out ⟨i1, ix, rd⟩⟩
              case measure => simp [intOf]; omega
          · have HOn : Hid (Rd.On (k + 1) a y g I T R) := Lib.hid (by
              have e1 : y = x + C := by have := HY.out; omega
              rw [e1]; exact HOn1.out)
            have HM9 := Lib.hid HTt.out.om
            obtain ⟨m1, hm1⟩ : ∃ m1, m1 = g - y := ⟨_, rfl⟩
            obtain ⟨m2, hm2⟩ : ∃ m2, m2 = a + 1 - g := ⟨_, rfl⟩
            have hn1 := HOn.out.xg
            have hn2 := HOn.out.ga
            have hn3 := HOn.out.ak
            have HLn : Hid (∀ W, OM w W p gi gt gl (I) (T) e' R → Calls Try.prog 45 #[.pointer (some ⟨p, 0, none⟩)] W fun e9 w' => e9 = .returned (.tuple #[.int .i64 (m1 : Int), .int .i64 (m2 : Int)]) ∧ OM w w' p gi gt gl (I) (T) e' R) := Lib.hid fun W hW => by
              have h1 := HOn.out.bl
              have h2 := HOn.out.wl
              refine (rz_len hW.rz).mono fun e9 w' ⟨h3, h4, h5⟩ => ⟨?_, hW.zk h5 h4⟩
              rw [h3, h1, h2, ← hm1, ← hm2]
            have t1 : (((g : Int)) - ((y : Int))) = (m1 : Int) := by omega
            have t2 : (((a : Int)) + 1 - ((g : Int))) = (m2 : Int) := by omega
            have t3 : decide ((((a : Int)) + 1) < ((y : Int))) = false := decide_eq_false (by omega)
            have t4 : ((((a : Int)) + 1) < ((y : Int))) = False := by simp; omega
            have hm1' : m1 ≤ 201 := by omega
            have hm2' : m2 ≤ 201 := by omega
            have HK1 : Hid (k + 1 ≤ n) := Lib.hid (by omega)
            clear hm1 hm2
            clear HCs HL HAw HG HOn1 HTt HTA HC HP HY
            go_wp2_with (go_at_call 45; refine (HLn.out _ HM9.out).mono ?_; rintro e9 w9 ⟨rfl, m9⟩)
            go_roundw
            case rel => exact ⟨k + 1, a, y, g, I, T, e', R, HK1.out, by go_num, by go_num, by go_num, by go_num, HOn.out, m9⟩
            case measure => have := HK1.out; simp [intOf]; omega
      have s2 : ((o : Int) == 2) = false := by simp; omega
      have s2' : ((o : Int) = 2) = False := by simp; omega
      by_cases ho3 : o = 3
      · subst ho3
        have HDr : Hid (∀ W, OM w W p gi gt gl I T e r → Calls Try.prog 50 #[.pointer (some ⟨p, 0, none⟩)] W fun e9 w' => ∃ A2 c2, e9 = .returned (.slice A2 (Rd.ids r).length c2) ∧ Lies w' A2 (uc (Rd.ids r)) ∧ OM w w' p gi gt gl I T e ⟨[], []⟩) := Lib.hid fun W hW => (rz_drop hW.rz).mono fun e9 w' ⟨A2, c2, h1, h2, _, h4, h5⟩ => ⟨A2, c2, h1, h2.liesV, hW.zk h5 (h4.mono fun k hk => .inl hk)⟩
        have HIa := Lib.hid (fun j hj => HO.out.ids_at j hj)
        have HIl : Hid (x + (Rd.ids r).length = a + 1) := Lib.hid HO.out.ids_len
        have HOd := Lib.hid HO.out.dr_
        obtain ⟨L, hL⟩ : ∃ L, L = (Rd.ids r).length := ⟨_, rfl⟩
        have HLL := Lib.hid hL
        rw [← hL] at HDr HIl
        have hL2 : L ≤ 201 := by have := HIl.out; omega
        clear hL HG HF HO d1 d2
        go_upto_region 39 with (go_at_call 50; refine (HDr.out _ HMr.out).mono ?_; rintro e8 w2 ⟨A2, c2, rfl, l2, m2'⟩)
        have HA2 := Lib.hid l2
        clear l2 HDr
        go_wp2_with fail
        go_loopw [5, 16] (fun xv qv wq => ∃ (q y : Nat), q ≤ L ∧ y ≤ 201 ∧ Hid (y = x + q) ∧ xv = .int .u64 (y : Int) ∧ qv = .int .i64 (q : Int) ∧ w2 = wq) (fun _ qv _ => L - (intOf qv).toNat)
        case atStart => exact ⟨0, x, Nat.zero_le _, by omega, Lib.hid rfl, rfl, rfl, rfl⟩
        case round =>
          obtain ⟨q, y, hqL, hy2, HY, rfl, rfl, hw⟩ := hrel
          subst hw
          by_cases hq : q < L
          · have hqr : q < (Rd.ids r).length := by rw [← HLL.out]; exact hq
            obtain ⟨gq, oq, rfl, z0⟩ := HA2.out.u q hqr
            rw [HIa.out q hqr, ← HY.out] at z0
            have HY2 : Hid (y + 1 = x + (q + 1)) := Lib.hid (by have := HY.out; omega)
            have hy3 : y + 1 ≤ 201 := by have := HY.out; have := HIl.out; omega
            have hc2 : L ≤ c2 ∨ True := .inr trivial
            clear hqr HCs HL HAw
            go_wp2_with fail
            go_roundw
            case rel => exact ⟨q + 1, y + 1, by omega, hy3, HY2, by go_num, by go_num, by first | trivial | rfl⟩
            case measure => simp [intOf]; omega
          · have HOn : Hid (Rd.On (k + 1) a y (a + 1) I T ⟨[], []⟩) := Lib.hid (by
              have e1 : y = a + 1 := by have := HY.out; have := HIl.out; omega
              rw [e1]; exact HOd.out)
            obtain ⟨m1, hm1⟩ : ∃ m1, m1 = (a + 1) - y := ⟨_, rfl⟩
            obtain ⟨m2, hm2⟩ : ∃ m2, m2 = a + 1 - (a + 1) := ⟨_, rfl⟩
            have hn1 := HOn.out.xg
            have hn2 := HOn.out.ga
            have hn3 := HOn.out.ak
            have HLn : Hid (∀ W, OM w W p gi gt gl (I) (T) e ⟨[], []⟩ → Calls Try.prog 45 #[.pointer (some ⟨p, 0, none⟩)] W fun e9 w' => e9 = .returned (.tuple #[.int .i64 (m1 : Int), .int .i64 (m2 : Int)]) ∧ OM w w' p gi gt gl (I) (T) e ⟨[], []⟩) := Lib.hid fun W hW => by
              have h1 := HOn.out.bl
              have h2 := HOn.out.wl
              refine (rz_len hW.rz).mono fun e9 w' ⟨h3, h4, h5⟩ => ⟨?_, hW.zk h5 h4⟩
              rw [h3, h1, h2, ← hm1, ← hm2]
            have t1 : (((a : Int) + 1) - ((y : Int))) = (m1 : Int) := by omega
            have t2 : (((a : Int)) + 1 - ((a : Int) + 1)) = (m2 : Int) := by omega
            have t3 : decide ((((a : Int)) + 1) < ((y : Int))) = false := decide_eq_false (by omega)
            have t4 : ((((a : Int)) + 1) < ((y : Int))) = False := by simp; omega
            have hm1' : m1 ≤ 201 := by omega
            have hm2' : m2 ≤ 201 := by omega
            have HK1 : Hid (k + 1 ≤ n) := Lib.hid (by omega)
            clear hm1 hm2
            clear HCs HL HAw HOd HIa HIl HLL HA2 HY
            go_wp2_with (go_at_call 45; refine (HLn.out _ m2').mono ?_; rintro e9 w9 ⟨rfl, m9⟩)
            go_roundw
            case rel => exact ⟨k + 1, a, y, (a + 1), I, T, e, ⟨[], []⟩, HK1.out, by go_num, by go_num, by go_num, by go_num, HOn.out, m9⟩
            case measure => have := HK1.out; simp [intOf]; omega
      have s3 : ((o : Int) == 3) = false := by simp; omega
      have s3' : ((o : Int) = 3) = False := by simp; omega
      have HOn : Hid (Rd.On (k + 1) a x g I T r) := Lib.hid HO.out.more
      obtain ⟨m1, hm1⟩ : ∃ m1, m1 = g - x := ⟨_, rfl⟩
      obtain ⟨m2, hm2⟩ : ∃ m2, m2 = a + 1 - g := ⟨_, rfl⟩
      have hn1 := HOn.out.xg
      have hn2 := HOn.out.ga
      have hn3 := HOn.out.ak
      have HLn : Hid (∀ W, OM w W p gi gt gl (I) (T) e r → Calls Try.prog 45 #[.pointer (some ⟨p, 0, none⟩)] W fun e9 w' => e9 = .returned (.tuple #[.int .i64 (m1 : Int), .int .i64 (m2 : Int)]) ∧ OM w w' p gi gt gl (I) (T) e r) := Lib.hid fun W hW => by
        have h1 := HOn.out.bl
        have h2 := HOn.out.wl
        refine (rz_len hW.rz).mono fun e9 w' ⟨h3, h4, h5⟩ => ⟨?_, hW.zk h5 h4⟩
        rw [h3, h1, h2, ← hm1, ← hm2]
      have t1 : (((g : Int)) - ((x : Int))) = (m1 : Int) := by omega
      have t2 : (((a : Int)) + 1 - ((g : Int))) = (m2 : Int) := by omega
      have t3 : decide ((((a : Int)) + 1) < ((x : Int))) = false := decide_eq_false (by omega)
      have t4 : ((((a : Int)) + 1) < ((x : Int))) = False := by simp; omega
      have hm1' : m1 ≤ 201 := by omega
      have hm2' : m2 ≤ 201 := by omega
      have HK1 : Hid (k + 1 ≤ n) := Lib.hid (by omega)
      clear hm1 hm2
      clear HCs HF HL HAw HG d1 d2 HO ho0 ho1 ho2 ho3
      go_wp2_with (go_at_call 45; refine (HLn.out _ HMr.out).mono ?_; rintro e9 w9 ⟨rfl, m9⟩)
      go_roundw
      case rel => exact ⟨k + 1, a, x, g, I, T, e, r, HK1.out, by go_num, by go_num, by go_num, by go_num, HOn.out, m9⟩
      case measure => have := HK1.out; simp [intOf]; omega
    · clear HF HL HG HO HMr
      have hb := hM.rz.bl
      clear hM
      go_wp2_with (go_at_call 41; refine (HAw.out _).mono ?_; rintro e9 w9 ⟨rfl, b9⟩)
      go_ret
      exact ⟨rfl, bnext hb b9⟩
theorem readsOnce_walk (w : World) (A : Option Addr) (cp : Nat) (gs : List Rda) (hA : Lies w A (ras gs)) (hgs : ∀ g ∈ gs, RaFit g) (hl : gs.length ≤ maxLen) :
    Calls Try.prog 12 #[.slice A gs.length cp] w fun e w' => e = .returned (.bool true) ∧ Below w.heap.size w w' := readsOnce_any w A cp gs hA hgs hl
end Go.Proofs.Ytlnohjboldenpaa
