/-
  Layer 11's law: grown walked.
-/
import Derived.Test.YtlnohjboldenpaaLLgPutW
import Derived.Test.YtlnohjboldenpaaLLgNew
import Derived.Test.YtlnohjboldenpaaLLgOpen
set_option linter.unusedSimpArgs false
set_option linter.unusedVariables false
namespace Go.Proofs.Ytlnohjboldenpaa
open Go.RowKit Go.Sort
namespace Lg
open En
/-- A log of k of these entries: their indexes count on, their terms rise. And the last term. -/
def grw (i t m : Nat) (es : List E) (rs : List Nat) : Nat → L × Nat
  | 0 => (⟨i, t, m, []⟩, t)
  | k + 1 => (add (grw i t m es rs k).1 { es.getD k En.zero with trm := (grw i t m es rs k).2 + rs.getD k 0 % 3 }, (grw i t m es rs k).2 + rs.getD k 0 % 3)
def grown (i t m : Nat) (es : List E) (rs : List Nat) : L := (grw i t m es rs es.length).1
theorem grw_all (i t m : Nat) (es : List E) (rs : List Nat) (k : Nat) : Ok (grw i t m es rs k).1 ∧ (grw i t m es rs k).1.idx = i ∧ (grw i t m es rs k).1.trm = t ∧ (grw i t m es rs k).1.mem = m ∧ (grw i t m es rs k).1.es.length = k ∧ (grw i t m es rs k).2 ≤ t + 2 * k := by
  induction k with
  | zero => exact ⟨nil_ok i t m, rfl, rfl, rfl, rfl, Nat.le_refl _⟩
  | succ k ih =>
    obtain ⟨h1, h2, h3, h4, h5, h6⟩ := ih
    refine ⟨add_ok h1 _, h2, h3, h4, ?_, ?_⟩
    · show ((grw i t m es rs k).1.es ++ [_]).length = _
      rw [List.length_append, h5]; rfl
    · show (grw i t m es rs k).2 + rs.getD k 0 % 3 ≤ _
      have := Nat.mod_lt (rs.getD k 0) (show 0 < 3 by decide)
      omega
end Lg
theorem NewI.bel {w W W' : World} {p : Nat} {l : Lg.L} (h : NewI w W p l) (hb : Below W.heap.size W W') : NewI w W' p l := by
  obtain ⟨⟨S, h1, h2⟩, h3⟩ := h
  exact ⟨⟨S, h1.bel hb, h2⟩, bnext h3 hb⟩
theorem LNow.newI {w W W' : World} {p : Nat} {S : Nat → Prop} {l : Lg.L} (h : LNow W W' p S l) (hW : Below w.heap.size w W) (hS : ∀ k, S k → w.heap.size ≤ k) : NewI w W' p l := by
  obtain ⟨⟨S', h1, h2⟩, h3⟩ := h
  exact ⟨⟨S', h1, fun k hk => (h2 k hk).elim (hS k) (Nat.le_trans hW.size)⟩, h3.below hW hS⟩
theorem add_newI {w W : World} {p : Nat} {l : Lg.L} (h : NewI w W p l) (e : En.E) (he : En.Fits e ∧ e.body.size ≤ 1000) (hlast : (Lg.lst l).1 + 1 < Nm.top) (hfew : l.es.length + 1 ≤ 100000) :
    Calls Try.prog 51 #[.pointer (some ⟨p, 0, none⟩), .agg (entC e)] W fun r w' => r = .returned (.agg (entC (Lg.next l e))) ∧ NewI w w' p (Lg.add l e) := by
  obtain ⟨⟨S, h1, h2⟩, h3⟩ := h
  exact (add_any W h1 e he hlast (lst_top h1.fit).2 hfew).mono fun r w' hr => ⟨hr.1, hr.2.newI h3 h2⟩
set_option maxRecDepth 100000 in
set_option maxHeartbeats 4000000 in
theorem grown_any (w : World) (i t m : Nat) (hi : i ≤ 1152921504606846976) (ht : t ≤ 1152921504606846976) (hm : m < 256) (A : Option Addr) (cp : Nat) (es : List En.E) (hA : Lies w A (ec es)) (hn : es.length ≤ 40) (hf : ∀ e ∈ es, En.Fits e ∧ e.body.size ≤ 1000)
    (B : Option Addr) (cb : Nat) (rs : List Nat) (hB : Lies w B (bn rs)) (hr : ∀ n ∈ rs, n < 256) (hrl : rs.length ≤ maxLen) :
    Calls Try.prog 23 #[.int .u64 (i : Int), .int .u64 (t : Int), .int .u8 (m : Int), .slice A es.length cp, .slice B rs.length cb] w fun r w' => ∃ p, r = .returned (.pointer (some ⟨p, 0, none⟩)) ∧ NewI w w' p (Lg.grown i t m es rs) := by
  have HNw : Hid (Calls Try.prog 17 #[.int .u64 (i : Int), .int .u64 (t : Int), .int .u8 (m : Int), .slice none 0 0] w fun e w' => ∃ p, e = .returned (.tuple #[.pointer (some ⟨p, 0, none⟩), .int .i64 0]) ∧ NewI w w' p ⟨i, t, m, []⟩) :=
    Lib.hid ((new_any w i t m (by unfold Nm.top; omega) (by unfold Nm.top; omega) hm none 0 [] (.inl rfl) (fun g hg => by cases hg) (by simp) (by simp [vse])).mono fun e w' h => by
      unfold RetNew at h
      rw [if_pos (by rfl)] at h
      obtain ⟨p, S, h1, h2, h3, h4⟩ := h
      exact ⟨p, h1, ⟨S, h2, h3⟩, h4⟩)
  have HA := Lib.hid hA
  have HB := Lib.hid hB
  have HF := Lib.hid (fun j (hj : j < es.length) => hf _ (List.getElem_mem hj))
  have HR := Lib.hid (fun j (hj : j < rs.length) => hr _ (List.getElem_mem hj))
  have HAl := Lib.hid (Lg.grw_all i t m es rs)
  have HGs : Hid (∀ k, Lg.grw i t m es rs (k + 1) = (Lg.add (Lg.grw i t m es rs k).1 { es.getD k En.zero with trm := (Lg.grw i t m es rs k).2 + rs.getD k 0 % 3 }, (Lg.grw i t m es rs k).2 + rs.getD k 0 % 3)) := Lib.hid fun k => rfl
  have HG0 : Hid (Lg.grw i t m es rs 0 = (⟨i, t, m, []⟩, t)) := Lib.hid rfl
  unfold Lg.grown
  obtain ⟨G, hG⟩ : ∃ G, G = Lg.grw i t m es rs := ⟨_, rfl⟩
  rw [← hG] at HAl HGs HG0 ⊢
  obtain ⟨n, hnn⟩ : ∃ n, n = es.length := ⟨_, rfl⟩
  have Hn := Lib.hid hnn
  obtain ⟨q, hqq⟩ : ∃ q, q = rs.length := ⟨_, rfl⟩
  have Hq := Lib.hid hqq
  rw [← hnn] at hn ⊢
  rw [← hqq] at hrl ⊢
  simp only [maxLen] at hrl
  clear hA hB hf hr hnn hqq hG
  go_enter Try.func23, Try.ntmps23
  go_wp2_with (go_at_call 17; refine HNw.out.mono ?_; rintro r w2 ⟨p, rfl, hI⟩)
  have HI := Lib.hid hI
  clear hI HNw
  go_loopw [1, 13] (fun tv iv wr => ∃ (j : Nat), j ≤ n ∧ tv = .int .u64 ((G j).2 : Int) ∧ iv = .int .i64 (j : Int) ∧ NewI w wr p (G j).1) (fun _ iv _ => n - (intOf iv).toNat)
  case atStart => exact ⟨0, Nat.zero_le _, by rw [HG0.out], rfl, by rw [HG0.out]; exact HI.out⟩
  case round =>
    obtain ⟨j, hjn, rfl, rfl, hN⟩ := hrel
    have HN := Lib.hid hN
    by_cases hlt : j < n
    · have hje : j < es.length := by rw [← Hn.out]; exact hlt
      obtain ⟨bl, off, rfl, hE⟩ := (HA.out.below hN.bl).ent j hje
      obtain ⟨hx1, hx2⟩ := HF.out j hje
      obtain ⟨_, gi, gt, gm, gl, gu⟩ := HAl.out j
      obtain ⟨gok, _⟩ := HAl.out j
      have HGj := Lib.hid (HGs.out j)
      have hD : es.getD j En.zero = es[j] := by rw [List.getD_eq_getElem?_getD, List.getElem?_eq_getElem hje]; rfl
      rw [hD] at HGj
      obtain ⟨x, hx⟩ : ∃ x, x = es[j] := ⟨_, rfl⟩
      rw [← hx] at hE HGj hx1 hx2
      obtain ⟨u, hu⟩ : ∃ u, u = (G j).2 := ⟨_, rfl⟩
      rw [← hu] at HGj gu ⊢
      obtain ⟨d, hd⟩ : ∃ d, d = rs.getD j 0 % 3 := ⟨_, rfl⟩
      rw [← hd] at HGj
      have hd3 : d < 3 := by rw [hd]; exact Nat.mod_lt _ (by decide)
      have hlast : (Lg.lst (G j).1).1 + 1 < Nm.top := by rw [gok.lst, gi, gl]; unfold Nm.top; omega
      have HAd : Hid (∀ W', Below wr.heap.size wr W' → Calls Try.prog 51 #[.pointer (some ⟨p, 0, none⟩), .agg (entC { x with trm := u + d })] W' fun r w' => r = .returned (.agg (entC (Lg.next (G j).1 { x with trm := u + d }))) ∧ NewI w w' p (G (j + 1)).1) := Lib.hid fun W' hb =>
        (add_newI (hN.bel hb) { x with trm := u + d } ⟨⟨hx1.idx, by show u + d < Nm.top; unfold Nm.top; omega, hx1.kind, hx1.slot⟩, hx2⟩ hlast (by rw [gl]; omega)).mono fun r w' h => ⟨h.1, by rw [HGj.out]; exact h.2⟩
      have HU1 : Hid ((G (j + 1)).2 = u + d) := Lib.hid (by rw [HGj.out])
      have hut : u + d < 18446744073709551616 := by omega
      have HRg := Lib.hid hE.rng
      have HZ := sizeEntL x
      have HO := (entF x).one
      obtain ⟨X, hX⟩ : ∃ X, X = entC x := ⟨_, rfl⟩
      have HX := Lib.hid hX
      rw [← hX] at HZ HO HRg
      have hXs : X.size = 13 := by rw [hX]; rfl
      have HD : Hid (d = rs.getD j 0 % 3) := Lib.hid hd
      clear hx hE hX hN gi gt gm gl gok gu hlast hD hx1 hx2 hu hd
      go_upto_region 8 with (first
        | (refine wpList_load_rgL rfl 49 _ rfl bl (off + j * 13) rfl X _ HRg.out Try.underlying49 rfl HZ ?_)
        | (refine wpList_store_sub rfl 49 _ _ rfl wr.heap.size 0 rfl 49 (entC En.zero) X rfl (Rw.new wr (entC En.zero) 49) (by rw [hXs]; decide) HZ HO ?_))
      refine forget (fun W2 => Rw W2 wr.heap.size X 49 ∧ Bl wr W2 ∧ wr.heap.size ≤ wr.heap.size) ⟨(Rw.new wr (entC En.zero) 49).over (by rw [hXs]; rfl), ((Bl.refl wr).alloc _).puts (Nat.le_refl _) _ _, Nat.le_refl _⟩ ?_
      intro W2 H2
      obtain ⟨gb, hgb⟩ : ∃ gb, gb = wr.heap.size := ⟨_, rfl⟩
      have HGB : Hid (wr.heap.size ≤ gb) := Lib.hid (by omega)
      rw [← hgb] at H2 ⊢
      clear hgb
      have H2' := Lib.hid H2
      have c1 : W2.cell? ⟨gb, 1, none⟩ = some (.int .u64 (x.trm : Int)) := H2.1.cell 1 (by rw [HX.out]; rfl)
      have f1 := H2.1.free 1
      clear H2 HRg HZ HO hXs
      go_upto_region 9 with (fail)
      refine forget (fun W3 => Rw W3 gb (entC { x with trm := u }) 49 ∧ Bl wr W3) ⟨by have := H2'.out.1.put 1 (.int .u64 (u : Int)); rw [HX.out] at this; exact this, H2'.out.2.1.put HGB.out _ _⟩ ?_
      clear c1 f1
      intro W3 H3
      have H3' := Lib.hid H3
      clear H3 H2' HX
      have c1 : W3.cell? ⟨gb, 1, none⟩ = some (.int .u64 (u : Int)) := H3'.out.1.cell 1 rfl
      have f1 := H3'.out.1.free 1
      by_cases hq : j < q
      · have hjr : j < rs.length := by rw [← Hq.out]; exact hq
        have hrr := HR.out j hjr
        have hcell : ∃ vb vo, B = some ⟨vb, vo, none⟩ ∧ W3.cell? ⟨vb, vo + j, none⟩ = some (.int .u8 (rs[j] : Int)) := by
          have hb : (bn rs)[j]? = some (.int .u8 (rs[j] : Int)) := by unfold bn; rw [List.getElem?_map, List.getElem?_eq_getElem hjr]; rfl
          rcases HB.out with h | ⟨vb, vo, rfl, hlt2, hc⟩
          · rw [h] at hb; cases hb
          · exact ⟨vb, vo, rfl, ((bnext HN.out.bl H3'.out.2).cell (p := ⟨vb, vo + j, none⟩) hlt2).trans (hc j _ hb)⟩
        obtain ⟨vb, vo, rfl, hcl⟩ := hcell
        have hd2 : d = rs[j] % 3 := by rw [HD.out, List.getD_eq_getElem?_getD, List.getElem?_eq_getElem hjr]; rfl
        have HD2 := Lib.hid hd2
        obtain ⟨z, hz⟩ : ∃ z, z = rs[j] := ⟨_, rfl⟩
        rw [← hz] at hcl HD2 hrr
        have em : ((z : Int).tmod 3) = (d : Int) := by rw [HD2.out, Int.tmod_eq_emod_of_nonneg (by omega)]; omega
        have em2 : ((z : Int) % 3) = (d : Int) := by rw [HD2.out]; omega
        clear hd2 hz
        go_upto_region 10 with (fail)
        go_region
        refine forgetX (fun W4 => Rw W4 gb (entC { x with trm := u + d }) 49 ∧ Bl wr W4) ⟨by
          have := (H3'.out.1.put 1 (.int .u64 ((u : Int) + (d : Int)))).drew
          have e1 : ((u : Int) + (d : Int)) = ((u + d : Nat) : Int) := by omega
          rw [e1] at this ⊢
          exact this, below_drew (H3'.out.2.put HGB.out _ _)⟩ ?_
        intro W4 H4
        have H4' := Lib.hid H4
        clear H4 H3' c1 f1 hcl em em2 hrr HD2
        have c1 : W4.cell? ⟨gb, 1, none⟩ = some (.int .u64 ((u + d : Nat) : Int)) := H4'.out.1.cell 1 rfl
        have HZ := sizeEntL { x with trm := u + d }
        obtain ⟨ud, hud⟩ : ∃ ud, ud = u + d := ⟨_, rfl⟩
        rw [← hud] at c1 hut HU1 H4' HAd HZ
        obtain ⟨Y, hY⟩ : ∃ Y, Y = entC { x with trm := ud } := ⟨_, rfl⟩
        rw [← hY] at H4' HAd HZ
        clear hud hY HGj
        go_wp2_with (first
          | (refine wpList_load_sub rfl 49 _ rfl gb 0 rfl 49 Y Y (0, 0) _ H4'.out.1 (fun j hj => by rw [Nat.zero_add]) Try.underlying49 rfl HZ ?_)
          | (go_at_call 51; refine (HAd.out _ H4'.out.2).mono ?_; rintro r w9 ⟨rfl, hN9⟩))
        have HN9 := Lib.hid hN9
        clear hN9
        go_wp2_with fail
        go_roundw
        case rel => exact ⟨j + 1, by omega, by rw [HU1.out], by go_num, HN9.out⟩
        case measure => simp [intOf]; omega
      · have hd0 : d = 0 := by
          rw [HD.out, List.getD_eq_getElem?_getD, List.getElem?_eq_none (by rw [← Hq.out]; omega)]; rfl
        have q1 : decide ((j : Int) < (q : Int)) = false := by simp; omega
        have q2 : ((j : Int) < (q : Int)) = False := by simp; omega
        go_upto_region 11 with (fail)
        refine forget (fun W4 => Rw W4 gb (entC { x with trm := u + d }) 49 ∧ Bl wr W4) ⟨by
          rw [show u + d = u by omega]
          exact H3'.out.1, H3'.out.2⟩ ?_
        intro W4 H4
        have H4' := Lib.hid H4
        clear H4 H3' c1 f1 q1 q2 hd0
        have c1 : W4.cell? ⟨gb, 1, none⟩ = some (.int .u64 ((u + d : Nat) : Int)) := H4'.out.1.cell 1 rfl
        have HZ := sizeEntL { x with trm := u + d }
        obtain ⟨ud, hud⟩ : ∃ ud, ud = u + d := ⟨_, rfl⟩
        rw [← hud] at c1 hut HU1 H4' HAd HZ
        obtain ⟨Y, hY⟩ : ∃ Y, Y = entC { x with trm := ud } := ⟨_, rfl⟩
        rw [← hY] at H4' HAd HZ
        clear hud hY HGj
        go_wp2_with (first
          | (refine wpList_load_sub rfl 49 _ rfl gb 0 rfl 49 Y Y (0, 0) _ H4'.out.1 (fun j hj => by rw [Nat.zero_add]) Try.underlying49 rfl HZ ?_)
          | (go_at_call 51; refine (HAd.out _ H4'.out.2).mono ?_; rintro r w9 ⟨rfl, hN9⟩))
        have HN9 := Lib.hid hN9
        clear hN9
        go_wp2_with fail
        go_roundw
        case rel => exact ⟨j + 1, by omega, by rw [HU1.out], by go_num, HN9.out⟩
        case measure => simp [intOf]; omega
    · obtain rfl : j = n := by omega
      have HN := Lib.hid hN
      go_wp2_with fail
      go_ret
      exact ⟨p, rfl, HN.out⟩
end Go.Proofs.Ytlnohjboldenpaa
