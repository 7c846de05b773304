/-
  LogsOwn walked.
-/
import Derived.Test.YtahkkdnmmneehaaLLgCutL
set_option linter.unusedSimpArgs false
set_option linter.unusedVariables false
namespace Go.Proofs.Ytahkkdnmmneehaa
open Go.RowKit Go.Sort
/-- There are cells for n entries, and none is frozen. -/
def Rm (W : World) (A : Option Addr) (n : Nat) : Prop := n = 0 ∨ ∃ b off, A = some ⟨b, off, none⟩ ∧ ∀ j, j < n * 13 → (W.cell? ⟨b, off + j, none⟩).isSome = true ∧ W.frozen? ⟨b, off + j, none⟩ = false
theorem Sl.rm {W : World} {A : Option Addr} {n c : Nat} {xs : List Value} (h : Sl W 13 A n c xs) : Rm W A n := by
  rcases h.lies with ⟨_, h0⟩ | ⟨b, off, rfl, _, _, hf⟩
  · exact .inl (by have := h.le; omega)
  · exact .inr ⟨b, off, rfl, fun j hj => hf j (by have := h.le; omega)⟩
theorem some_setCell (W : World) (p a : Addr) (v : Value) (h : (W.cell? a).isSome = true) : ((W.setCell p v).cell? a).isSome = true := by
  by_cases he : a = p
  · subst he
    rw [World.cell?_setCell_same' W _ v h]; rfl
  · rw [World.cell?_setCell_other _ _ _ _ (fun e => he e.symm)]; exact h
theorem Rm.set {W : World} {A : Option Addr} {n : Nat} (h : Rm W A n) (p : Addr) (v : Value) : Rm (W.setCell p v) A n := by
  rcases h with h | ⟨b, off, rfl, hf⟩
  · exact .inl h
  · exact .inr ⟨b, off, rfl, fun j hj => ⟨some_setCell W p _ v (hf j hj).1, by rw [World.frozen?_setCell]; exact (hf j hj).2⟩⟩
theorem Rm.at_ {W : World} {A : Option Addr} {n : Nat} (h : Rm W A n) (k : Nat) (hk : k < n) : ∃ b off v, A = some ⟨b, off, none⟩ ∧ W.cell? ⟨b, off + k * 13 + 12, none⟩ = some v ∧ W.frozen? ⟨b, off + k * 13 + 12, none⟩ = false := by
  rcases h with h | ⟨b, off, rfl, hf⟩
  · omega
  · obtain ⟨h1, h2⟩ := hf (k * 13 + 12) (by omega)
    obtain ⟨v, hv⟩ := Option.isSome_iff_exists.1 h1
    exact ⟨b, off, v, rfl, by rw [Nat.add_assoc]; exact hv, by rw [Nat.add_assoc]; exact h2⟩
theorem Ks.set {Z : Nat → Prop} {w W : World} (h : Ks Z w W) {p : Addr} (hp : Z p.block) (v : Value) : Ks Z w (W.setCell p v) := by
  have hb : Below p.block W (W.setCell p v) := Below.setCell (Below.refl _ _) (Nat.le_refl _) v
  exact h.trans (T := Z) ⟨hb.os, hb.tape, hb.output, hb.size, fun k _ hk => heap_setCell_other W p k v (fun e => hk (by rw [e]; exact hp))⟩ fun k hk => .inl hk
/-- What stands while the slices are written on. -/
structure OwnI (Z : Nat → Prop) (w W : World) (n : Nat) (A B C : Option Addr) : Prop where
  ks : Ks Z w W
  a : Rm W A n
  b : Rm W B n
  c : Rm W C n
theorem OwnI.set {Z : Nat → Prop} {w W : World} {n : Nat} {A B C : Option Addr} (h : OwnI Z w W n A B C) {p : Addr} (hp : Z p.block) (v : Value) : OwnI Z w (W.setCell p v) n A B C := ⟨h.ks.set hp v, h.a.set p v, h.b.set p v, h.c.set p v⟩
set_option maxRecDepth 100000 in
set_option maxHeartbeats 8000000 in
theorem logsOwn_any (w : World) (i : Nat) (hi : i < Nm.top) (t : Nat) (ht : t < Nm.top) (A : Option Addr) (cp : Nat) (es : List En.E) (g : GivenE w A cp es)
    (B : Option Addr) (cb : Nat) (rs : List Nat) (hB : Lies w B (bn rs)) (hr : ∀ n ∈ rs, n < 256) (hrl : rs.length ≤ maxLen) :
    Calls Try.prog 9 #[.int .u64 (i : Int), .int .u64 (t : Int), .slice A es.length cp, .slice B rs.length cb] w (RetL (.bool true) w) := by
  obtain ⟨i0, hi0, hz0, hz1, hz2⟩ := info_parts infoEntL
  have HG := Lib.hid (great_any w A cp es g.lies g.len fun e he => (g.fits e he).2)
  have HAw := Lib.hid awake_any
  have HNo : Hid (Lg.great es = false → es.length ≤ 40 ∧ ∀ e ∈ es, e.body.size ≤ 100) := Lib.hid great_no
  unfold Nm.top at hi ht
  cases hgr : Lg.great es with
  | true =>
    rw [hgr] at HG
    clear hgr HNo g hB hr hrl
    go_enter Try.func9, Try.ntmps9
    go_wp2_with (first | (go_at_call 11; refine HG.out.mono ?_; rintro r w1 ⟨rfl, hb1⟩) | (go_at_call 12; refine (HAw.out _).mono ?_; rintro r w2 ⟨rfl, hb2⟩))
    go_ret
    exact ⟨rfl, bnext hb1 hb2⟩
  | false =>
  obtain ⟨hn40, hbod⟩ := HNo.out hgr
  rw [hgr] at HG
  have hln := g.len
  simp only [maxLen] at hln
  by_cases hi2 : i ≤ 1152921504606846976
  case neg =>
    have q1 : decide ((1152921504606846976 : Int) < (i : Int)) = true := by simp; omega
    have q2 : ((1152921504606846976 : Int) < (i : Int)) = True := by simp; omega
    clear hgr HNo g hB hr hrl
    go_enter Try.func9, Try.ntmps9
    go_wp2_with (first | (go_at_call 11; refine HG.out.mono ?_; rintro r w1 ⟨rfl, hb1⟩) | (go_at_call 12; refine (HAw.out _).mono ?_; rintro r w2 ⟨rfl, hb2⟩))
    go_ret
    exact ⟨rfl, bnext hb1 hb2⟩
  have q1 : decide ((1152921504606846976 : Int) < (i : Int)) = false := by simp; omega
  have q2 : ((1152921504606846976 : Int) < (i : Int)) = False := by simp; omega
  by_cases ht2 : t ≤ 1152921504606846976
  case neg =>
    have q3 : decide ((1152921504606846976 : Int) < (t : Int)) = true := by simp; omega
    have q4 : ((1152921504606846976 : Int) < (t : Int)) = True := by simp; omega
    clear hgr HNo g hB hr hrl
    go_enter Try.func9, Try.ntmps9
    go_wp2_with (first | (go_at_call 11; refine HG.out.mono ?_; rintro r w1 ⟨rfl, hb1⟩) | (go_at_call 12; refine (HAw.out _).mono ?_; rintro r w2 ⟨rfl, hb2⟩))
    go_ret
    exact ⟨rfl, bnext hb1 hb2⟩
  have q3 : decide ((1152921504606846976 : Int) < (t : Int)) = false := by simp; omega
  have q4 : ((1152921504606846976 : Int) < (t : Int)) = False := by simp; omega
  have HGr : Hid (∀ W', Below w.heap.size w W' → Calls Try.prog 31 #[.int .u64 (i : Int), .int .u64 (t : Int), .int .u8 7, .slice A es.length cp, .slice B rs.length cb] W' fun r w' => ∃ p, r = .returned (.pointer (some ⟨p, 0, none⟩)) ∧ NewI W' w' p (Lg.grown i t 7 es rs)) := Lib.hid fun W' hb =>
    grown_any W' i t 7 hi2 ht2 (by decide) A cp es (g.lies.below hb) hn40 (fun e he => ⟨(g.fits e he).1, by have := hbod e he; omega⟩) B cb rs (hB.below hb) hr hrl
  obtain ⟨gok, gi, gt, gm, gl, _⟩ := Lg.grw_all i t 7 es rs es.length
  obtain ⟨L, hL⟩ : ∃ L, L = Lg.grown i t 7 es rs := ⟨_, rfl⟩
  have gok : Lg.Ok L := by rw [hL]; exact gok
  have gi : L.idx = i := by rw [hL]; exact gi
  have gt : L.trm = t := by rw [hL]; exact gt
  have gl : L.es.length = es.length := by rw [hL]; exact gl
  rw [← hL] at HGr
  obtain ⟨n, hnn⟩ : ∃ n, n = es.length := ⟨_, rfl⟩
  rw [← hnn] at HGr HG hn40 gl hln ⊢
  have hfit : Lg.fit i t L.es = true := by have := gok; unfold Lg.Ok at this; rw [gi, gt] at this; exact this
  have HFit := Lib.hid hfit
  have HPN := Lib.hid (Lg.put_new (m := 7) hfit)
  have HPs : Hid (Lg.puts ⟨i, t, 7, []⟩ i t L.es = true) := Lib.hid (by unfold Lg.puts; rw [hfit, HPN.out.1]; rfl)
  have F1 : Hid (Lg.frm L 0 1048576 = L.es) := Lib.hid (Lg.frm_all _ _ (by omega))
  have Hn : Hid (n = L.es.length) := Lib.hid gl.symm
  clear hL hnn HNo hgr hbod g hB hr hrl hfit gok gi gt gm
  go_enter Try.func9, Try.ntmps9
  go_upto_region 3 with (go_at_call 11; refine HG.out.mono ?_; rintro r w1 ⟨rfl, hb1⟩)
  go_upto_region 6 with (go_at_call 31; refine (HGr.out _ hb1).mono ?_; rintro r w2 ⟨pa, rfl, hI2⟩)
  obtain ⟨⟨Sa, a1, _⟩, b2⟩ := hI2
  have HFa : Hid (∀ W', LgAt W' pa Sa L → Calls Try.prog 25 #[.pointer (some ⟨pa, 0, none⟩), .int .u64 0, .int .i64 1048576] W' fun r w' => ∃ A c, r = .returned (.slice A n c) ∧ Sl w' 13 A n c (ec L.es) ∧ (∀ b, blk A = some b → W'.heap.size ≤ b) ∧ Below W'.heap.size W' w') := Lib.hid fun W' ha => (from_any W' ha 0 1048576 (by unfold Nm.top; omega) (by omega)).mono fun r w' h => by
    rw [F1.out] at h
    unfold RetE at h
    rw [← Hn.out] at h
    exact h
  have HA2 := Lib.hid a1
  go_upto_region 7 with (go_at_call 25; refine (HFa.out _ HA2.out).mono ?_; rintro r w3 ⟨A3, c3, rfl, l3, z3, b3⟩)
  have HN : Hid (Sl (w3.alloc (.cells #[] 62)) 13 (some ⟨w3.heap.size, 0, none⟩) 0 0 [] ∧ Src Try.prog 13 23 (.slice A3 n c3) n (ec L.es) (w3.alloc (.cells #[] 62))) := Lib.hid
    ⟨⟨rfl, Nat.le_refl _, Nat.zero_le _, .inr ⟨w3.heap.size, 0, rfl, by rw [World.size_alloc]; omega, (fun j u hu => by simp at hu), fun j hj => by omega⟩⟩,
     src_sl Try.underlying23 (by rw [ecL_len, ← Hn.out]) (l3.liesV.below (bnew (Below.refl _ _) _)) (fun hA => by
      rcases l3.lies with ⟨_, h0⟩ | ⟨b, off, hb, _⟩
      · have := l3.le; omega
      · rw [hA] at hb; cases hb) (ecL_one _)⟩
  have L3 := Lib.hid (And.intro l3 (And.intro z3 b3))
  clear l3 z3 b3
  go_upto_region 8 with (at_builtin; refine wpList_app_sl rfl (.tmp 41) (.tmp 42) 23 23 rfl 62 i0 (.agg (entC En.zero)) 13 48 Try.underlying23 hi0 hz0 hz1 hz2 rfl (by decide) rfl HN.out.1 _ n _ rfl HN.out.2 (by simp only [maxLen]; omega) (by omega) ?_; intro A4 c4 w4 h4 g4 n4; rw [Nat.zero_add] at h4 ⊢; rw [List.nil_append] at h4)
  have b4 : Below w3.heap.size w3 w4 := Below.grown (bnew (Below.refl _ _) _) g4 (by rw [World.size_alloc]; omega) (fun k hk => by rw [blk_some] at hk; injection hk with hk; omega)
  have z4 : ∀ b, blk A4 = some b → w3.heap.size ≤ b := fun b hb => by
    rcases n4 b hb with h | h
    · rw [blk_some] at h; injection h with h; omega
    · rw [World.size_alloc] at h; omega
  have L4 := Lib.hid (And.intro h4 (And.intro z4 b4))
  clear h4 z4 b4 n4 g4 HN
  have hfE : Hid (∀ e ∈ L.es, En.Fits e ∧ e.body.size ≤ 1000) := Lib.hid HA2.out.fit.es
  have hnil4 : Hid (A4 = none → n = 0) := Lib.hid fun hA => by
    rcases L4.out.1.lies with ⟨_, h0⟩ | ⟨b, off, hb, _⟩
    · have := L4.out.1.le; omega
    · rw [hA] at hb; cases hb
  have HNb : Hid (Calls Try.prog 13 #[.int .u64 (i : Int), .int .u64 (t : Int), .int .u8 7, .slice (some ⟨w4.heap.size, 0, none⟩) 1 1] (w4.alloc (.cells #[.slice A4 n c4] 23)) fun r w' => ∃ p, r = .returned (.tuple #[.pointer (some ⟨p, 0, none⟩), .int .i64 0]) ∧ NewI w4 w' p ⟨i, t, 7, L.es⟩) := Lib.hid (by
    have hb := bnew (Below.refl w4.heap.size w4) (.cells #[.slice A4 n c4] 23)
    have hv : vse [⟨A4, c4, L.es⟩] = L.es := by simp [vse]
    have hl := Lies.new w4 (vsc [⟨A4, c4, L.es⟩]) 23
    have hc : (vsc [⟨A4, c4, L.es⟩]).toArray = #[.slice A4 n c4] := by rw [Hn.out]; rfl
    rw [hc] at hl
    have := new_any (w4.alloc (.cells #[.slice A4 n c4] 23)) i t 7 (by unfold Nm.top; omega) (by unfold Nm.top; omega) (by decide) (some ⟨w4.heap.size, 0, none⟩) 1 [⟨A4, c4, L.es⟩] hl (fun g hg => by
      rw [List.mem_singleton.1 hg]
      exact ⟨L4.out.1.liesV.below hb, fun h => by show L.es.length = 0; rw [← Hn.out]; exact hnil4.out h, by show L.es.length ≤ c4; rw [← Hn.out]; exact L4.out.1.le, hfE.out, by show L.es.length ≤ 1000; rw [← Hn.out]; omega⟩) (by show 1 ≤ 10; omega) (by rw [hv, ← Hn.out]; omega)
    rw [hv] at this
    refine this.mono fun e w' h => ?_
    unfold RetNew at h
    rw [if_pos HFit.out] at h
    obtain ⟨p, S, h1, h2, h3, h4⟩ := h
    refine ⟨p, h1, ⟨S, h2, fun k hk => ?_⟩, ?_⟩
    · have := h3 k hk; rw [World.size_alloc] at this; omega
    · exact hb.trans (h4.mono (by rw [World.size_alloc]; omega)))
  have HNc : Hid (∀ W', Calls Try.prog 13 #[.int .u64 (i : Int), .int .u64 (t : Int), .int .u8 7, .slice none 0 0] W' fun e w' => ∃ p, e = .returned (.tuple #[.pointer (some ⟨p, 0, none⟩), .int .i64 0]) ∧ NewI W' w' p ⟨i, t, 7, []⟩) := Lib.hid fun W' => new_nil W' i t 7 (by unfold Nm.top; omega) (by unfold Nm.top; omega) (by decide)
  go_upto_region 12 with (first
    | (go_at_call 13; refine (HNc.out w5).mono ?_; rintro r w6 ⟨pc, rfl, h6⟩)
    | (go_at_call 13; refine HNb.out.mono ?_; rintro r w5 ⟨pb, rfl, h5⟩))
  obtain ⟨⟨Sb, s1, s2⟩, b5⟩ := h5
  obtain ⟨⟨Sc, e1, e2⟩, b6⟩ := h6
  have L5 := Lib.hid (And.intro s1 (And.intro s2 b5))
  have L6 := Lib.hid (And.intro e1 (And.intro e2 b6))
  clear s1 s2 b5 e1 e2 b6 HNb HNc
  have HPu : Hid (Calls Try.prog 20 #[.pointer (some ⟨pc, 0, none⟩), .int .u64 (i : Int), .int .u64 (t : Int), .slice A4 n c4] w6 fun r w' => ∃ A c S', r = .returned (.tuple #[.bool true, .int .u64 ((i + n : Nat) : Int), .slice A n c]) ∧ Sl w' 13 A n c (ec L.es) ∧ (∀ b, blk A = some b → w6.heap.size ≤ b ∧ ¬ S' b) ∧ LgAt w' pc S' (Lg.put ⟨i, t, 7, []⟩ L.es) ∧ (∀ k, S' k → w5.heap.size ≤ k) ∧ Below w5.heap.size w5 w' ∧ w6.heap.size ≤ w'.heap.size) := Lib.hid (by
    have hb : Below w4.heap.size w4 w6 := bnext L5.out.2.2 L6.out.2.2
    have := put_any w6 L6.out.1 i t (by unfold Nm.top; omega) (by unfold Nm.top; omega) A4 c4 L.es ⟨L4.out.1.liesV.below hb, fun h => by rw [← Hn.out]; exact hnil4.out h, by rw [← Hn.out]; exact L4.out.1.le, fun b hb2 hs => by
      have h1 := L6.out.2.1 b hs
      have h2 := L4.out.1.lt hb2
      have h3 := L5.out.2.2.size
      omega, hfE.out, by rw [← Hn.out]; omega⟩ (by show 0 + L.es.length ≤ _; rw [← Hn.out]; omega)
    rw [← Hn.out] at this
    refine this.mono fun r w' h => ?_
    unfold RetPut at h
    rw [if_pos HPs.out, HPN.out.2.1, ← Hn.out] at h
    obtain ⟨A, c, S', h1, h2, h3, h4, h5, h6⟩ := h
    exact ⟨A, c, S', h1, h2, h3, h4, fun k hk => (h5 k hk).elim (L6.out.2.1 k) (Nat.le_trans L6.out.2.2.size), h6.below L6.out.2.2 L6.out.2.1, h6.size⟩)
  go_upto_region 13 with (go_at_call 20; refine HPu.out.mono ?_; rintro r w7 ⟨A7, c7, Sp, rfl, l7, z7, p7, y7, b7, m7⟩)
  have L7 := Lib.hid (And.intro l7 (And.intro z7 (And.intro p7 (And.intro y7 (And.intro b7 m7)))))
  clear l7 z7 p7 y7 b7 m7 HPu
  have B27 : Hid (Below w2.heap.size w2 w7) := Lib.hid (bnext (bnext (bnext L3.out.2.2 L4.out.2.2) L5.out.2.2) L7.out.2.2.2.2.1)
  have HA7 := Lib.hid (HA2.out.bel B27.out)
  go_upto_region 14 with (go_at_call 25; refine (HFa.out _ HA7.out).mono ?_; rintro r w8 ⟨A8, c8, rfl, l8, z8, b8⟩)
  have HKs : Hid (∃ Z : Nat → Prop, (∀ b, blk A4 = some b → Z b) ∧ (∀ b, blk A7 = some b → Z b) ∧ (∀ b, blk A8 = some b → Z b) ∧ (∀ k, Z k → w.heap.size ≤ k) ∧
      LgAt w8 pa Sa L ∧ (∀ k, Sa k → ¬ Z k) ∧ LgAt w8 pb Sb ⟨i, t, 7, L.es⟩ ∧ (∀ k, Sb k → ¬ Z k) ∧ LgAt w8 pc Sp (Lg.put ⟨i, t, 7, []⟩ L.es) ∧ (∀ k, Sp k → ¬ Z k) ∧ Lies w8 A3 (ec L.es) ∧ (∀ k, blk A3 = some k → ¬ Z k) ∧
      OwnI Z w8 w8 n A4 A7 A8 ∧ Below w.heap.size w w8) := by
    have t1 := hb1.size
    have t2 := b2.size
    have t3 := L3.out.2.2.size
    have t4 := L4.out.2.2.size
    have t5 := L5.out.2.2.size
    have t6 := L6.out.2.2.size
    have t7 := L7.out.2.2.2.2.2
    have b58 : Below w5.heap.size w5 w8 := bnext L7.out.2.2.2.2.1 b8
    have b48 : Below w4.heap.size w4 w8 := bnext L5.out.2.2 b58
    have b38 : Below w3.heap.size w3 w8 := bnext L4.out.2.2 b48
    have b28 : Below w2.heap.size w2 w8 := bnext L3.out.2.2 b38
    refine Lib.hid ⟨fun k => blk A4 = some k ∨ blk A7 = some k ∨ blk A8 = some k, fun b h => .inl h, fun b h => .inr (.inl h), fun b h => .inr (.inr h), fun k hk => ?_, HA2.out.bel b28, fun k hk hz => ?_, L5.out.1.bel b58, fun k hk hz => ?_, L7.out.2.2.1.bel b8, fun k hk hz => ?_, L3.out.1.liesV.below b38, fun k hk hz => ?_, ⟨Ks.refl _ _, (L4.out.1.below b48).rm, (L7.out.1.below b8).rm, l8.rm⟩, bnext (bnext hb1 b2) b28⟩
    · rcases hk with h | h | h
      · have := L4.out.2.1 k h; omega
      · have := (L7.out.2.1 k h).1; omega
      · have := z8 k h; omega
    · have h0 := HA2.out.lt k hk
      rcases hz with h | h | h
      · have := L4.out.2.1 k h; omega
      · have := (L7.out.2.1 k h).1; omega
      · have := z8 k h; omega
    · have h0 := L5.out.1.lt k hk
      have h1 := L5.out.2.1 k hk
      rcases hz with h | h | h
      · have := L4.out.1.lt h; omega
      · have := (L7.out.2.1 k h).1; omega
      · have := z8 k h; omega
    · have h0 := L7.out.2.2.1.lt k hk
      have h1 := L7.out.2.2.2.1 k hk
      rcases hz with h | h | h
      · have := L4.out.1.lt h; omega
      · exact (L7.out.2.1 k h).2 hk
      · have := z8 k h; omega
    · have h0 := L3.out.1.lt hk
      rcases hz with h | h | h
      · have := L4.out.2.1 k h; omega
      · have := (L7.out.2.1 k h).1; omega
      · have := z8 k h; omega
  clear l8 z8 b8 b2 a1 HA7 HA2 B27 L3 L4 L5 L6 L7 hb1 HFa HGr HG q1 q2 q3 q4 hnil4 hfE HPs HFit
  obtain ⟨Z, zA, zB, zC, HKs2⟩ := HKs.out
  have HK := Lib.hid HKs2
  have HZA := Lib.hid zA
  have HZB := Lib.hid zB
  have HZC := Lib.hid zC
  clear HKs HKs2 zA zB zC
  go_wp2_with fail
  go_loopw [20] (fun iv wr => ∃ (j : Nat), j ≤ n ∧ iv = .int .i64 (j : Int) ∧ OwnI Z w8 wr n A4 A7 A8) (fun iv _ => n - (intOf iv).toNat)
  case atStart => exact ⟨0, Nat.zero_le _, rfl, HK.out.2.2.2.2.2.2.2.2.2.1⟩
  case round =>
    obtain ⟨j, hjn, rfl, hW⟩ := hrel
    have HW := Lib.hid hW
    clear hW
    by_cases hlt : j < n
    · obtain ⟨g4, o4, v4, rfl, k4, f4⟩ := HW.out.a.at_ j hlt
      obtain ⟨g8, o8, v8, rfl, _, _⟩ := HW.out.c.at_ j hlt
      obtain ⟨g7, o7, v7, rfl, _, _⟩ := HW.out.b.at_ j hlt
      go_upto_region 18 with (fail)
      refine forget (fun W => OwnI Z w8 W n (some ⟨g4, o4, none⟩) (some ⟨g7, o7, none⟩) (some ⟨g8, o8, none⟩)) (HW.out.set (p := ⟨g4, o4 + j * 13 + 12, none⟩) (HZA.out _ rfl) _) ?_
      intro W18 H18
      have HW18 := Lib.hid H18
      clear H18 k4 f4 HW
      obtain ⟨_, _, _, he, k8, f8⟩ := HW18.out.c.at_ j hlt
      obtain ⟨rfl, rfl⟩ : g8 = _ ∧ o8 = _ := by injection he with he; injection he with h1 h2; exact ⟨h1, h2⟩
      clear he
      go_upto_region 19 with (fail)
      refine forget (fun W => OwnI Z w8 W n (some ⟨g4, o4, none⟩) (some ⟨g7, o7, none⟩) (some ⟨g8, o8, none⟩)) (HW18.out.set (p := ⟨g8, o8 + j * 13 + 12, none⟩) (HZC.out _ rfl) _) ?_
      intro W19 H19
      have HW19 := Lib.hid H19
      clear H19 k8 f8 HW18
      obtain ⟨_, _, _, he, k7, f7⟩ := HW19.out.b.at_ j hlt
      obtain ⟨rfl, rfl⟩ : g7 = _ ∧ o7 = _ := by injection he with he; injection he with h1 h2; exact ⟨h1, h2⟩
      clear he
      go_upto_region 16 with (fail)
      refine forget (fun W => OwnI Z w8 W n (some ⟨g4, o4, none⟩) (some ⟨g7, o7, none⟩) (some ⟨g8, o8, none⟩)) (HW19.out.set (p := ⟨g7, o7 + j * 13 + 12, none⟩) (HZB.out _ rfl) _) ?_
      intro W16 H16
      have HW16 := Lib.hid H16
      clear H16 k7 f7 HW19
      go_wp2_with fail
      go_roundw
      case rel => exact ⟨j + 1, by omega, by go_num, HW16.out⟩
      case measure => simp [intOf]; omega
    · obtain rfl : j = n := by omega
      obtain ⟨hge, ha, da, hb, db, hc, dc, h3, d3, _, hB8⟩ := HK.out
      have hks := HW.out.ks
      have HB := Lib.hid (hks.below hB8 hge)
      have KA := Lib.hid (ha.ks hks da)
      have KB := Lib.hid (hb.ks hks db)
      have KC := Lib.hid (hc.ks hks dc)
      have K3 := Lib.hid (hks.lies h3 d3)
      clear hge ha da hb db hc dc h3 d3 hB8 hks HK HW HZA HZB HZC
      have HF0 : ∀ (q : Nat) (S : Nat → Prop) (l : Lg.L), LgAt wr q S l → l.es = L.es → Hid (∀ W', Below wr.heap.size wr W' → Calls Try.prog 25 #[.pointer (some ⟨q, 0, none⟩), .int .u64 0, .int .i64 1048576] W' fun r w' => ∃ A c, r = .returned (.slice A j c) ∧ Lies w' A (ec L.es) ∧ Below W'.heap.size W' w') := fun q S l hl he => Lib.hid fun W' hb => (from_any W' (hl.bel hb) 0 1048576 (by unfold Nm.top; omega) (by omega)).mono fun r w' h => by
        rw [Lg.frm_all l _ (by rw [he, ← Hn.out]; omega), he] at h
        obtain ⟨A, c, h1, h2, _, _, h5⟩ := h.lies
        rw [← Hn.out] at h1
        exact ⟨A, c, h1, h2, h5⟩
      have HFa := HF0 _ _ _ KA.out rfl
      have HFb := HF0 _ _ _ KB.out rfl
      have HFc := HF0 _ _ _ KC.out HPN.out.2.2
      have HSm : Hid (∀ A B ca cb W, Lies W A (ec L.es) → Lies W B (ec L.es) → Calls Try.prog 17 #[.slice A j ca, .slice B j cb] W (RetL (.bool true) W)) := Lib.hid fun A B ca cb W h1 h2 => by
        have := same_any W A B ca cb L.es L.es h1 h2 (by simp only [maxLen]; omega) (by simp only [maxLen]; omega)
        rw [decide_eq_true rfl, ← Hn.out] at this; exact this
      clear HF0 KA KB KC HPN F1 Hn gl
      go_wp2_with (first
        | (go_at_call 12; refine (HAw.out x6).mono ?_; rintro r x7 ⟨rfl, y7⟩; have z7 := bnext z6 y7)
        | (go_at_call 17; refine (HSm.out _ _ _ _ x5 l5 (K3.out.below z5)).mono ?_; rintro r x6 ⟨rfl, y6⟩; have z6 := bnext z5 y6)
        | (go_at_call 25; refine (HFc.out _ z4).mono ?_; rintro r x5 ⟨A15, c15, rfl, l5, y5⟩; have z5 := bnext z4 y5)
        | (go_at_call 17; refine (HSm.out _ _ _ _ x3 l3 (K3.out.below z3)).mono ?_; rintro r x4 ⟨rfl, y4⟩; have z4 := bnext z3 y4)
        | (go_at_call 25; refine (HFb.out _ z2).mono ?_; rintro r x3 ⟨A13, c13, rfl, l3, y3⟩; have z3 := bnext z2 y3)
        | (go_at_call 17; refine (HSm.out _ _ _ _ x1 l1 (K3.out.below z1)).mono ?_; rintro r x2 ⟨rfl, y2⟩; have z2 := bnext z1 y2)
        | (go_at_call 25; refine (HFa.out _ (Below.refl _ _)).mono ?_; rintro r x1 ⟨A11, c11, rfl, l1, y1⟩; have z1 := y1))
      go_ret
      exact ⟨rfl, bnext HB.out z7⟩
theorem logsOwn_walk (w : World) (a0 : Int) (h0 : (Lit.int .u64 a0).wf = true) (a1 : Int) (h1 : (Lit.int .u64 a1).wf = true) (A : Option Addr) (cp : Nat) (es : List En.E) (g : GivenE w A cp es)
    (B : Option Addr) (cb : Nat) (rs : List Nat) (hB : Lies w B (bn rs)) (hr : ∀ n ∈ rs, n < 256) (hrl : rs.length ≤ maxLen) :
    Calls Try.prog 9 #[.int .u64 a0, .int .u64 a1, .slice A es.length cp, .slice B rs.length cb] w fun e w' => e = .returned (.bool true) ∧ Below w.heap.size w w' := by
  obtain ⟨n0, rfl, z0⟩ := u64_nat h0
  obtain ⟨n1, rfl, z1⟩ := u64_nat h1
  exact logsOwn_any w n0 z0 n1 z1 A cp es g B cb rs hB hr hrl
end Go.Proofs.Ytahkkdnmmneehaa
