/-
  Crash walked.
  The program's disk is what its methods are to do.
-/
import Derived.Test.YtdcjhpnakbejkaaGreatDoorRDmL
set_option linter.unusedSimpArgs false
set_option linter.unusedVariables false
namespace Go.Proofs.YtdcjhpnakbejkaaGreatDoor
open Go.RowKit
namespace Dk
theorem put_mid : ∀ (P : List Fl) (f f' : Fl) (R : List Fl), Rises (P ++ f :: R) → f'.name = f.name → put (P ++ f :: R) f' = P ++ f' :: R
  | [], f, f', R, _, hn => by
    show put (f :: R) f' = _
    unfold put
    rw [if_pos hn.symm]; rfl
  | x :: P, f, f', R, hr, hn => by
    have hx : lt x.name f.name := hr.1 f (List.mem_append_right _ (List.mem_cons_self ..))
    show put (x :: (P ++ f :: R)) f' = x :: (P ++ f' :: R)
    unfold put
    rw [if_neg (fun e => lt_irrefl f.name (by rw [e, hn] at hx; exact hx)), if_neg (fun e => by rw [hn] at e; exact lt_irrefl _ (lt_trans e hx)), put_mid P f f' R hr.2 hn]
theorem crashL_cons (ks ts : List Int) (k : Nat) (f : Fl) (fs : List Fl) : crashL ks ts k (f :: fs) = if f.syn < f.recs.length then leave f ks ts k :: crashL ks ts (k + 1) fs else f :: crashL ks ts k fs := rfl
end Dk
/-- What stands behind i of the names. -/
structure CrSt (W2 wr : World) (p mb left : Nat) (hs0 : List Hm) (fs : List Dk.Fl) (ks ts : List Int) (i k : Nat) (hs : List Hm) (P : List Dk.Fl) : Prop where
  st : DkS wr p mb hs ⟨P ++ fs.drop i, true, left⟩
  len : P.length = i
  eq : Dk.crashL ks ts 0 fs = P ++ Dk.crashL ks ts k (fs.drop i)
  bks : ∀ q, Bks p mb hs q → Bks p mb hs0 q ∨ W2.heap.size ≤ q
  ko : Ko (Bks p mb hs0) W2 wr
  ki : k ≤ i
section
variable {W2 wr : World} {p mb left : Nat} {hs0 : List Hm} {fs : List Dk.Fl} {ks ts : List Int} {i k : Nat} {hs : List Hm} {P : List Dk.Fl}
theorem drop_at (fs : List Dk.Fl) (i : Nat) (hi : i < fs.length) : fs.drop i = fs[i] :: fs.drop (i + 1) := List.drop_eq_getElem_cons hi
/-- The i-th file, as the map has it. -/
theorem CrSt.file (h : CrSt W2 wr p mb left hs0 fs ks ts i k hs P) (hi : i < fs.length) : ∃ g ∈ hs, g.f = fs[i] ∧ hfind hs fs[i].name = some g := by
  have hm : fs[i] ∈ hs.map (·.f) := by
    rw [h.st.fs]
    show fs[i] ∈ P ++ fs.drop i
    rw [drop_at fs i hi]
    exact List.mem_append_right _ (List.mem_cons_self ..)
  obtain ⟨g, hg, hf⟩ := List.mem_map.1 hm
  refine ⟨g, hg, hf, ?_⟩
  have := hfind_mem h.st.rises hg
  rw [show g.f.name = fs[i].name from congrArg _ hf] at this
  exact this
theorem CrSt.skip (h : CrSt W2 wr p mb left hs0 fs ks ts i k hs P) (hi : i < fs.length) (hn : ¬ fs[i].syn < fs[i].recs.length) : CrSt W2 wr p mb left hs0 fs ks ts (i + 1) k hs (P ++ [fs[i]]) := by
  have hd := drop_at fs i hi
  have e : P ++ [fs[i]] ++ fs.drop (i + 1) = P ++ fs.drop i := by rw [hd, List.append_assoc]; rfl
  refine ⟨by rw [e]; exact h.st, by rw [List.length_append, h.len]; rfl, ?_, h.bks, h.ko, by have := h.ki; omega⟩
  rw [h.eq, hd, Dk.crashL_cons, if_neg hn, List.append_assoc]; rfl
theorem CrSt.cut (h : CrSt W2 wr p mb left hs0 fs ks ts i k hs P) (hi : i < fs.length) (hn : fs[i].syn < fs[i].recs.length) {g g' : Hm} (hg : g ∈ hs) (hgf : g.f = fs[i]) {w' : World} (hf : FAt w' g') (hb : g'.b = g.b) (hgf' : g'.f = Dk.crashF g.f (ks.getD k 0) (ts.getD k 0)) (hk : Ko g.Blk wr w') (hblk : ∀ q, g'.Blk q → g.Blk q ∨ wr.heap.size ≤ q) :
    CrSt W2 w' p mb left hs0 fs ks ts (i + 1) (k + 1) (hput hs g') (P ++ [Dk.leave fs[i] ks ts k]) := by
  have hd := drop_at fs i hi
  have hok := okf_of h.st hg
  have hlv : g'.f = Dk.leave fs[i] ks ts k := by rw [hgf', hgf]; rw [hgf] at hok; exact Dk.crashF_leave hok hn ks ts k
  have hname : g'.f.name = g.f.name := by rw [hlv, hgf]; rfl
  have hr : Dk.Rises (P ++ fs[i] :: fs.drop (i + 1)) := by rw [← hd]; exact h.st.inv.rises
  have hput : Dk.put (P ++ fs.drop i) g'.f = P ++ Dk.leave fs[i] ks ts k :: fs.drop (i + 1) := by rw [hd, hlv, Dk.put_mid P fs[i] (Dk.leave fs[i] ks ts k) _ hr rfl]
  have e : P ++ [Dk.leave fs[i] ks ts k] ++ fs.drop (i + 1) = Dk.put (P ++ fs.drop i) g'.f := by rw [hput, List.append_assoc]; rfl
  have hok' : Dk.Okf g'.f := by rw [hlv]; rw [hgf] at hok; exact Dk.okf_leave hok ks ts k
  have hinv : Dk.Inv ⟨Dk.put (P ++ fs.drop i) g'.f, true, left⟩ := Dk.inv_put h.st.inv hok' rfl
  have hld : Dk.load ⟨Dk.put (P ++ fs.drop i) g'.f, true, left⟩ ≤ 100000000 := by
    have h1 := Dk.fsLoad_put (fs := P ++ fs.drop i) h.st.inv.rises g'.f
    have h2 : Dk.find (P ++ fs.drop i) g'.f.name = some g.f := by
      have h3 := find_d h.st g'.f.name
      rw [hname, hfind_mem h.st.rises hg] at h3
      rw [hname]; exact h3
    rw [h2] at h1
    have h4 : Dk.flLoad g'.f ≤ Dk.flLoad g.f := by rw [hlv, hgf]; rw [hgf] at hok; exact Dk.load_leave hok ks ts k
    have h5 : Dk.foundLoad (some g.f) = Dk.flLoad g.f := rfl
    have h6 := h.st.load
    have h7 : Dk.load ⟨P ++ fs.drop i, true, left⟩ = Dk.fsLoad (P ++ fs.drop i) := rfl
    show Dk.fsLoad (Dk.put (P ++ fs.drop i) g'.f) ≤ _
    omega
  have hst := h.st.file (g' := g') (d' := ⟨Dk.put (P ++ fs.drop i) g'.f, true, left⟩) hg hname hb hk hf hblk rfl rfl rfl hinv hld
  refine ⟨by rw [e]; exact hst, by rw [List.length_append, h.len]; rfl, ?_, fun q hq => ?_, ?_, by have := h.ki; omega⟩
  · rw [h.eq, hd, Dk.crashL_cons, if_pos hn, List.append_assoc]; rfl
  · rcases hq with hq | hq | ⟨x, hx, hxq⟩
    · exact .inl (.inl hq)
    · exact .inl (.inr (.inl hq))
    · rcases mem_hput h.st.rises hx with rfl | ⟨hx, _⟩
      · rcases hblk q hxq with h2 | h2
        · exact h.bks q (.inr (.inr ⟨g, hg, h2⟩))
        · exact .inr (Nat.le_trans h.ko.size h2)
      · exact h.bks q (.inr (.inr ⟨x, hx, hxq⟩))
  · refine h.ko.trans (T := g.Blk) hk fun q hq => h.bks q (.inr (.inr ⟨g, hg, hq⟩))
end
theorem sc_cell {w : World} {A : Option Addr} {ns : List ByteArray} (h : Lies w A (sc ns)) (i : Nat) (hi : i < ns.length) : ∃ b off, A = some ⟨b, off, none⟩ ∧ w.cell? ⟨b, off + i, none⟩ = some (.string ns[i]) := by
  rcases h with h | ⟨b, off, rfl, hb, hc⟩
  · exfalso
    have : (sc ns).length = 0 := by rw [h]; rfl
    rw [sc, List.length_map] at this; omega
  · exact ⟨b, off, rfl, hc i _ (by rw [sc, List.getElem?_map, List.getElem?_eq_getElem hi]; rfl)⟩
set_option maxRecDepth 100000 in
set_option maxHeartbeats 2000000 in
theorem dCrash_any (W : World) (p : Nat) (S : Nat → Prop) (d : Dk.D) (ks ts : List Int) (KA TA : Option Addr) (kc tc : Nat) (h : DmAt W p S d) (hg : GivenC W ks ts KA TA) (hak : Away S KA (ic ks)) (hat : Away S TA (ic ts)) :
    Calls Tryz.prog 37 #[.pointer (some ⟨p, 0, none⟩), .agg #[.slice KA ks.length kc, .slice TA ts.length tc]] W fun e w' => e = .returned (.tuple #[]) ∧ Now DmAt W w' p S (Dk.crash d ks ts) := by
  obtain ⟨mb, hs, hS, h0⟩ := h
  have hb1 : Below W.heap.size W (W.alloc (.cells #[.slice KA ks.length kc, .slice TA ts.length tc] 45)) := bnew (Below.refl _ _) _
  have hS1 := hS.stays fun k hk => hb1.block k (hS.lt hk)
  have HP := Lib.hid (isMade_any _ p mb _ _ hS1.head)
  have c2 := hS.head.c2
  have f2 := hS.head.f2
  have k2 := hS1.head.c2
  have l2 := hS1.head.f2
  have hpl := hS.head.lt
  have hF1 : HAt ((W.alloc (.cells #[.slice KA ks.length kc, .slice TA ts.length tc] 45)).setCell ⟨p, 2, none⟩ (.bool true)) p mb d.left true := hS1.head.set2 true
  have hK1 : Ko (atB p) W ((W.alloc (.cells #[.slice KA ks.length kc, .slice TA ts.length tc] 45)).setCell ⟨p, 2, none⟩ (.bool true)) := (Ko.bel (S := atB p) hb1).set (show atB p p from rfl) 2 _
  have hR1 : ((W.alloc (.cells #[.slice KA ks.length kc, .slice TA ts.length tc] 45)).setCell ⟨p, 2, none⟩ (.bool true)).heap[W.heap.size]? = some (.cells #[.slice KA ks.length kc, .slice TA ts.length tc] 45 (0, 0)) := (Below.heap_setCell _ _ _ _ (by show W.heap.size ≠ p; omega)).trans (heap_alloc_new W _)
  have HF : Hid (DkS ((W.alloc (.cells #[.slice KA ks.length kc, .slice TA ts.length tc] 45)).setCell ⟨p, 2, none⟩ (.bool true)) p mb hs ⟨d.files, true, d.left⟩ ∧ Ko (atB p) W ((W.alloc (.cells #[.slice KA ks.length kc, .slice TA ts.length tc] 45)).setCell ⟨p, 2, none⟩ (.bool true)) ∧
    ((W.alloc (.cells #[.slice KA ks.length kc, .slice TA ts.length tc] 45)).setCell ⟨p, 2, none⟩ (.bool true)).heap[W.heap.size]? = some (.cells #[.slice KA ks.length kc, .slice TA ts.length tc] 45 (0, 0))) := Lib.hid ⟨hS.heads hK1 hF1 hS.left, hK1, hR1⟩
  have HG := Lib.hid (And.intro hg (And.intro hak (And.intro hat (And.intro h0 hS))))
  clear hS1 hS hg hak hat h0 hb1 hpl hF1 hK1 hR1
  go_enter Tryz.func37, Tryz.ntmps37
  go_wp2_with fail
  refine (HP.out).mono ?_
  rintro e w1 ⟨rfl, rfl⟩
  go_upto_region 3 with (fail)
  refine forget (fun Wz => DkS Wz p mb hs ⟨d.files, true, d.left⟩ ∧ Ko (atB p) W Wz ∧ Wz.heap[W.heap.size]? = some (.cells #[.slice KA ks.length kc, .slice TA ts.length tc] 45 (0, 0))) HF.out ?_
  clear HF HP c2 f2 k2 l2
  rintro Wz ⟨hz1, hz2, hz3⟩
  have HL := Lib.hid (list_any sortStr Wz p mb hs _ hz1)
  have HZ := Lib.hid (And.intro hz1 (And.intro hz2 hz3))
  obtain ⟨fs, hfs⟩ : ∃ fs, fs = d.files := ⟨_, rfl⟩
  rw [← hfs] at HL HZ
  clear hz1 hz2 hz3
  go_wp2_with fail
  refine (HL.out).mono ?_
  rintro e w2 ⟨A, cap, rfl, ho2, hb2⟩
  obtain ⟨n, hn⟩ : ∃ n, n = (Dk.list ⟨fs, true, d.left⟩).length := ⟨_, rfl⟩
  have hnf : n = fs.length := by rw [hn]; exact List.length_map ..
  have hn8 : n ≤ 100000000 := by
    have h1 := Dk.fsLoad_len fs
    have h2 := HZ.out.1.load
    have h3 : Dk.load ⟨fs, true, d.left⟩ = Dk.fsLoad fs := rfl
    omega
  rw [← hn] at ho2 ⊢
  have HO : Hid (Lies w2 A (sc (fs.map (·.name))) ∧ Below Wz.heap.size Wz w2 ∧ (∀ k, (Value.slice A n cap).ownBlock = some k → Wz.heap.size ≤ k) ∧ n = fs.length ∧ fs = d.files) := Lib.hid ⟨lies_own ho2, hb2, fun k hk => (own_lt ho2 hk).2, hnf, hfs⟩
  have HS0 : Hid (CrSt w2 w2 p mb d.left hs fs ks ts 0 0 hs []) := Lib.hid ⟨by
    have := HZ.out.1.stays (W' := w2) fun k hk => hb2.block k (HZ.out.1.lt hk)
    exact this, rfl, rfl, fun q hq => .inl hq, Ko.refl _ _, Nat.le_refl _⟩
  clear ho2 hb2 hn hnf hfs HL
  go_wp2_with fail
  go_loopw [4, 17] (fun kv iv wr => ∃ (i k : Nat) (hi : List Hm) (P : List Dk.Fl), i ≤ n ∧ iv = .int .i64 (i : Int) ∧ kv = .int .i64 (k : Int) ∧ CrSt w2 wr p mb d.left hs fs ks ts i k hi P) (fun _ iv _ => n - (intOf iv).toNat)
  case atStart => exact ⟨0, 0, hs, [], Nat.zero_le _, rfl, rfl, HS0.out⟩
  case round =>
    obtain ⟨i, k, hi, P, hin, rfl, rfl, hc⟩ := hrel
    have hpw : W.heap.size < Wz.heap.size := (Array.getElem?_eq_some_iff.1 HZ.out.2.2).1
    have hkW : Ko S W wr := ((HZ.out.2.1.mono (T := S) fun q _ hq => (HG.out.2.2.2.1 q).2 (.inl hq)).trans (Ko.bel (S := S) HO.out.2.1) fun _ hq => .inl hq).trans hc.ko fun q hq => .inl ((HG.out.2.2.2.1 q).2 hq)
    by_cases hlt : i < n
    · have hif : i < fs.length := by have := HO.out.2.2.2.1; omega
      obtain ⟨g, hgm, hgf, hfnd⟩ := hc.file hif
      have haw : Away (Bks p mb hs) A (sc (fs.map (·.name))) := fun b off _ he hb => by
        have h1 := HO.out.2.2.1 b (by rw [he]; rfl)
        have h2 := HZ.out.1.lt hb
        omega
      obtain ⟨b, off, rfl, hcell⟩ := sc_cell (HO.out.1.ko haw hc.ko) i (by rw [List.length_map]; exact hif)
      rw [List.getElem_map] at hcell
      have hok := okf_of hc.st hgm
      have hfl := fl_load hc.st hgm
      have hSl := hc.st.load
      have hfl2 : 1 + g.f.name.size + g.f.recs.length + Dk.sz g.f.recs + g.f.torn.size ≤ Dk.load ⟨P ++ fs.drop i, true, d.left⟩ := hfl
      obtain ⟨nm, hnm⟩ : ∃ nm, nm = fs[i].name := ⟨_, rfl⟩
      have hnm2 : nm = g.f.name := by rw [hnm, hgf]
      rw [← hnm] at hcell hfnd
      have hlk := look_some hc.st.map nm (by rw [hnm2]; omega) hfnd
      have c0 := hc.st.head.c0
      have hf := hc.st.ok g hgm
      have c2 := hf.c.2.2.1
      obtain ⟨u, hu⟩ : ∃ u, u = (Dk.starts g.f).length := ⟨_, rfl⟩
      rw [← hu] at c2
      have hnl := Dk.starts_length g.f
      rw [← hu] at hnl
      have q1 : decide ((i : Int) < (n : Int)) = true := by simp; omega
      have q2 : decide (i < n) = true := by simp; omega
      have q3 : (i : Int) < (n : Int) := by omega
      have q4 : (0 : Int) ≤ (i : Int) := by omega
      have Hc := Lib.hid hc
      have HI := Lib.hid (And.intro hif (And.intro hgm hgf))
      have Hki := hc.ki
      by_cases hn : fs[i].syn < fs[i].recs.length
      · have p1 : decide ((0 : Int) < (u : Int)) = true := by
          rw [← hgf] at hn
          simp; omega
        have p2 : decide (0 < u) = true := by
          rw [← hgf] at hn
          simp; omega
        have p3 : (0 : Int) < (u : Int) := by
          rw [← hgf] at hn
          omega
        have hgn : g.f.syn < g.f.recs.length := by rw [hgf]; exact hn
        have hrow : wr.heap[W.heap.size]? = some (.cells #[.slice KA ks.length kc, .slice TA ts.length tc] 45 (0, 0)) :=
          hc.ko.row (fun hb => by have := HG.out.2.2.2.2.lt hb; omega) ((HO.out.2.1.block _ hpw).trans HZ.out.2.2)
        have k0 : wr.cell? ⟨W.heap.size, 0, none⟩ = some (.slice KA ks.length kc) := cell_of_row wr W.heap.size 0 _ _ _ hrow
        have k1 : wr.cell? ⟨W.heap.size, 1, none⟩ = some (.slice TA ts.length tc) := cell_of_row wr W.heap.size 1 _ _ _ hrow
        have gK := HG.out.1
        have hkl := gK.kl.ko HG.out.2.1 hkW
        have htl := gK.tl.ko HG.out.2.2.1 hkW
        have hkb : ∀ (l : List Int), (∀ n ∈ l, -9223372036854775808 ≤ n ∧ n ≤ 9223372036854775807) → -9223372036854775808 ≤ l.getD k 0 ∧ l.getD k 0 ≤ 9223372036854775807 := fun l hl => by
          rw [List.getD_eq_getElem?_getD]
          rcases hq : l[k]? with _ | x
          · exact ⟨by decide, by decide⟩
          · exact hl x (List.mem_of_getElem? hq)
        have HK1 : Hid (∀ W', Below wr.heap.size wr W' → Calls Tryz.prog 94 #[.slice KA ks.length kc, .int .i64 (k : Int)] W' fun e w' => e = .returned (.int .i64 (ks.getD k 0)) ∧ W' = w') := Lib.hid fun W' hb => choice_any W' KA kc ks k (hkl.below hb) (by have := gK.km; simp only [maxLen] at this; omega) (by omega)
        have HK2 : Hid (∀ W', Below wr.heap.size wr W' → Calls Tryz.prog 94 #[.slice TA ts.length tc, .int .i64 (k : Int)] W' fun e w' => e = .returned (.int .i64 (ts.getD k 0)) ∧ W' = w') := Lib.hid fun W' hb => choice_any W' TA tc ts k (htl.below hb) (by have := gK.tm; simp only [maxLen] at this; omega) (by omega)
        have HD : Hid (∀ W', Below wr.heap.size wr W' → Calls Tryz.prog 93 #[.pointer (some ⟨g.b, 0, none⟩), .int .i64 (ks.getD k 0), .int .i64 (ts.getD k 0)] W' fun e w' => e = .returned (.tuple #[]) ∧ ∃ hi' P', CrSt w2 w' p mb d.left hs fs ks ts (i + 1) (k + 1) hi' P') := Lib.hid fun W' hb => by
          refine (fcrash_any W' g (hf.below hb (Nat.le_refl _)) hok hgn (by omega) _ _ (hkb ks gK.kn) (hkb ts gK.tn)).mono ?_
          rintro e w' ⟨rfl, h', g1, g2, g3, g4, g5⟩
          exact ⟨rfl, _, _, Hc.out.cut HI.out.1 hn HI.out.2.1 HI.out.2.2 g1 g2 g3 ((Ko.bel (S := g.Blk) hb).trans g4 fun _ hq => .inl hq) fun q hq => (g5 q hq).imp id fun h9 => Nat.le_trans hb.size h9⟩
        obtain ⟨kz, hkz⟩ : ∃ z, z = ks.getD k 0 := ⟨_, rfl⟩
        obtain ⟨tz, htz⟩ : ∃ z, z = ts.getD k 0 := ⟨_, rfl⟩
        rw [← hkz] at HK1 HD
        rw [← htz] at HK2 HD
        have hk8 : k ≤ 100000000 := by omega
        clear hc hf hok hfl hSl hfl2 hnm hnm2 hfnd hu hnl hgn hrow gK hkl htl hkb haw hkW hkz htz hn HI Hc hgm hgf hif hin
        go_wp2_with fail
        go_region_with (first
          | (go_at_call 94; (with_reducible refine (HK1.out _ (by first | exact Below.refl _ _ | exact below_drew (Below.refl _ _))).mono ?_); rintro e wx ⟨rfl, rfl⟩)
          | (go_at_call 94; (with_reducible refine (HK2.out _ (by first | exact Below.refl _ _ | exact below_drew (Below.refl _ _))).mono ?_); rintro e wx ⟨rfl, rfl⟩)
          | (go_at_call 93; refine (HD.out _ (by first | exact Below.refl _ _ | exact below_drew (Below.refl _ _))).mono ?_; rintro e w5 ⟨rfl, hi5, P5, hc5⟩; have HC5 := Lib.hid hc5; clear hc5))
        all_goals
          go_wp2_with fail
          go_roundw
          case rel => exact ⟨i + 1, k + 1, hi5, P5, by omega, by go_num, by go_num, HC5.out⟩
          case measure => simp [intOf]; omega
      · have p1 : decide ((0 : Int) < (u : Int)) = false := by
          rw [← hgf] at hn
          simp; omega
        have p2 : decide (0 < u) = false := by
          rw [← hgf] at hn
          simp; omega
        have p3 : u = 0 := by
          rw [← hgf] at hn
          omega
        have HC5 : Hid (∃ P', CrSt w2 wr p mb d.left hs fs ks ts (i + 1) k hi P') := Lib.hid ⟨_, hc.skip hif hn⟩
        subst p3
        clear hc hf hok hfl hSl hfl2 hnm hnm2 hfnd hu hnl haw hkW hn HI Hc hgm hgf hif hin
        go_wp2_with fail
        go_roundw
        case rel =>
          obtain ⟨P5, h5⟩ := HC5.out
          exact ⟨i + 1, k, hi, P5, by omega, by go_num, rfl, h5⟩
        case measure => simp [intOf]; omega
    · have q1 : decide ((i : Int) < (n : Int)) = false := by simp; omega
      have q2 : decide (i < n) = false := by simp; omega
      have hin' : i = fs.length := by have := HO.out.2.2.2.1; omega
      have HN : Hid (Now DmAt W wr p S (Dk.crash d ks ts)) := Lib.hid (by
        have e1 : fs.drop i = [] := by rw [hin', List.drop_length]
        have e2 : P = Dk.crashL ks ts 0 fs := by rw [hc.eq, e1]; exact (List.append_nil _).symm
        have hst := hc.st
        rw [e1, List.append_nil, e2] at hst
        have e3 : (⟨Dk.crashL ks ts 0 fs, true, d.left⟩ : Dk.D) = Dk.crash d ks ts := by rw [HO.out.2.2.2.2]; rfl
        rw [e3] at hst
        refine ⟨⟨_, DmAt.mk hst, fun q hq => ?_⟩, hkW⟩
        rcases hc.bks q hq with h2 | h2
        · exact .inl ((HG.out.2.2.2.1 q).2 h2)
        · exact .inr (by have := HO.out.2.1.size; omega))
      clear hc hkW hin' HS0 hin hlt
      go_wp2_with fail
      go_end0
      exact ⟨rfl, HN.out⟩
end Go.Proofs.YtdcjhpnakbejkaaGreatDoor
namespace Go.Proofs.YtdcjhpnakbejkaaGreatDoor
open Go.RowKit
theorem diskK : DiskK DmAt where
  lt := fun h k hk => h.lt k hk
  stays := fun h hk => h.stays hk
  inv := fun h => by obtain ⟨_, _, h1, _⟩ := h; exact h1.inv
  load := fun h => by obtain ⟨_, _, h1, _⟩ := h; exact h1.load
  left := fun h => by obtain ⟨_, _, h1, _⟩ := h; exact h1.left
  new := dNew_any
  append := fun W p S d n r h hl => dAppend_any W p S d n r h hl
  sync := fun W p S d n h hn => dSync_any W p S d n h hn
  rename := fun W p S d n m h hn hm => dRename_any W p S d n m h hn hm
  delete := fun W p S d n h hn => dDelete_any W p S d n h hn
  read := fun W p S d n h hn => dRead_any W p S d n h hn
  list := fun W p S d h => by
    obtain ⟨mb, hs, hS, h0⟩ := h
    refine (list_any sortStr W p mb hs d hS).mono ?_
    rintro e w' ⟨A, cap, rfl, ho, hb⟩
    exact ⟨A, cap, rfl, lies_own ho, fun b off _ he => (own_lt ho (by rw [he]; rfl)).2, hb⟩
  records := fun W p S d n h hn => dRecords_any W p S d n h hn
  fuse := fun W p S d n h hn => dFuse_any W p S d n h hn
  crash := fun W p S d ks ts KA TA kc tc h hg hk ht => dCrash_any W p S d ks ts KA TA kc tc h hg hk ht
  start := fun W p S d h => dStart_any W p S d h
  down := fun W p S d h => dDown_any W p S d h
end Go.Proofs.YtdcjhpnakbejkaaGreatDoor
