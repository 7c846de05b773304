/-
  stable's after walked: what is behind records.
-/
import Derived.Test.YtjhbpcecdhdnoaaGreatDoorRStCloneZ
import Derived.Test.YtjhbpcecdhdnoaaGreatDoorRWwCZ
import Derived.Test.YtjhbpcecdhdnoaaGreatDoorRWlBaseZ
import Derived.Test.YtjhbpcecdhdnoaaGreatDoorRDmFZ
import Derived.Deep.RegionLaw
set_option linter.unusedSimpArgs false
set_option linter.unusedVariables false
namespace Go.Proofs.YtjhbpcecdhdnoaaGreatDoor
open Go.RowKit
def zK : Array Value := #[.int .u64 0, .int .u8 0, .int .u64 0, .int .u64 0, .int .u8 0, .string ⟨#[]⟩, .string ⟨#[]⟩, .string ⟨#[]⟩, .string ⟨#[]⟩, .string ⟨#[]⟩, .slice none 0 0]
theorem zK_one : zK.all (·.oneCell') = true := by simp [zK, Value.oneCell']
theorem zK_size : (Tryz.prog.info? 58).map (·.size) = some zK.size := sizeKept
def RetAf (o : Option St.K) (w : World) (e : Ending) (w' : World) : Prop := match o with
  | some k => ∃ A c, e = .returned (.tuple #[.agg (kC k (.slice A k.ents.length c)), .bool true]) ∧ w'.ownsRow w.heap.size 88 13 (.slice A k.ents.length c) k.ents.length (ec k.ents) ∧ Below w.heap.size w w'
  | none => e = .returned (.tuple #[.agg zK, .bool false]) ∧ Below w.heap.size w w'
structure Recs (l : List Wl.R) : Prop where
  fits : ∀ r ∈ l, Wl.Fits r ∧ r.ent.body.size ≤ 100000000
  len : l.length ≤ 1000000
theorem after_take_succ {k k1 : St.K} {l : List Wl.R} {i : Nat} (h : St.after k (l.take i) = some k1) (hi : i < l.length) : St.after k (l.take (i + 1)) = St.one k1 l[i] := by
  rw [List.take_add_one, List.getElem?_eq_getElem hi, Option.toList_some, St.after_append, h, Option.bind_some]
  show (St.one k1 l[i]).bind _ = _
  cases St.one k1 l[i] <;> rfl
theorem after_none {k k1 : St.K} {l : List Wl.R} {i : Nat} (h : St.after k (l.take i) = some k1) (hi : i < l.length) (h2 : St.one k1 l[i] = none) : St.after k l = none := by
  have e : St.after k (l.take (i + 1) ++ l.drop (i + 1)) = St.after k l := by rw [List.take_append_drop]
  rw [← e, St.after_append, after_take_succ h hi, h2]; rfl
theorem own_pref13 {w : World} {B : Nat} {A : Option Addr} {n c : Nat} {es : List En.E} (h : w.ownsRow B 88 13 (.slice A n c) n (ec es)) (hn : n = es.length) (i : Nat) (hi : i ≤ n) : w.ownsRow B 88 13 (.slice A i c) i (ec (es.take i)) := by
  have hle : (es.take i).length = i := by rw [List.length_take]; omega
  refine ⟨by rw [ec_length, hle, Nat.mul_comm], ?_⟩
  rcases h.2 with ⟨hv, h0⟩ | ⟨g, cap, cur, hv, hb, hg, h1, h2, h3, h4⟩
  · injection hv with e1 e2 e3
    subst e1 e3
    have : i = 0 := by omega
    subst this
    exact .inl ⟨rfl, rfl⟩
  · injection hv with e1 e2 e3
    subst e1 e3
    refine .inr ⟨g, c, cur, rfl, hb, hg, by omega, h2, h3, ?_⟩
    have e : ec es = ec (es.take i) ++ ec (es.drop i) := by
      unfold ec
      rw [← List.flatten_append, ← List.map_append, List.take_append_drop]
    have : cur.toList.take (i * 13) = (cur.toList.take (n * 13)).take (i * 13) := by
      rw [List.take_take, Nat.min_eq_left (Nat.mul_le_mul_right _ hi)]
    rw [this, h4, e, List.take_append_of_le_length (by rw [ec_length, hle]; omega), List.take_of_length_le (by rw [ec_length, hle]; omega)]
theorem rec_cells {W : World} {gb : Nat} {r : Wl.R} (h : Rw W gb (recC r) 90) :
    W.cell? ⟨gb, 0, none⟩ = some (.int .u8 (r.kind : Int)) ∧ W.cell? ⟨gb, 1, none⟩ = some (.int .u64 (r.trm : Int)) ∧ W.cell? ⟨gb, 2, none⟩ = some (.int .u8 (r.vote : Int)) ∧
    W.cell? ⟨gb, 3, none⟩ = some (.int .u64 (r.ent.idx : Int)) ∧ W.cell? ⟨gb, 4, none⟩ = some (.int .u64 (r.ent.trm : Int)) ∧ W.cell? ⟨gb, 5, none⟩ = some (.int .u8 (r.ent.kind : Int)) ∧ W.cell? ⟨gb, 6, none⟩ = some (.int .u8 (r.ent.slot : Int)) ∧
    W.cell? ⟨gb, 7, none⟩ = some (.int .u8 (r.ent.tok.a0.toNat : Int)) ∧ W.cell? ⟨gb, 8, none⟩ = some (.int .u8 (r.ent.tok.a1.toNat : Int)) ∧ W.cell? ⟨gb, 9, none⟩ = some (.int .u8 (r.ent.tok.a2.toNat : Int)) ∧ W.cell? ⟨gb, 10, none⟩ = some (.int .u8 (r.ent.tok.a3.toNat : Int)) ∧
    W.cell? ⟨gb, 11, none⟩ = some (.int .u8 (r.ent.tok.a4.toNat : Int)) ∧ W.cell? ⟨gb, 12, none⟩ = some (.int .u8 (r.ent.tok.a5.toNat : Int)) ∧ W.cell? ⟨gb, 13, none⟩ = some (.int .u8 (r.ent.tok.a6.toNat : Int)) ∧ W.cell? ⟨gb, 14, none⟩ = some (.int .u8 (r.ent.tok.a7.toNat : Int)) ∧ W.cell? ⟨gb, 15, none⟩ = some (.string r.ent.body) :=
  ⟨h.cell 0 rfl, h.cell 1 rfl, h.cell 2 rfl, h.cell 3 rfl, h.cell 4 rfl, h.cell 5 rfl, h.cell 6 rfl, h.cell 7 rfl, h.cell 8 rfl, h.cell 9 rfl, h.cell 10 rfl, h.cell 11 rfl, h.cell 12 rfl, h.cell 13 rfl, h.cell 14 rfl, h.cell 15 rfl⟩
theorem lies_own13 {w : World} {B : Nat} {A : Option Addr} {n c : Nat} {l : List Value} (h : w.ownsRow B 88 13 (.slice A n c) n l) : Lies w A l := by
  rcases h.2 with ⟨hv, hn⟩ | ⟨g, cap, cur, hv, _, hg, _, _, _, ht⟩
  · exact .inl (List.eq_nil_of_length_eq_zero (by have := h.1; omega))
  · injection hv with a b c2
    subst a
    refine .inr ⟨g, 0, rfl, (Array.getElem?_eq_some_iff.1 hg).1, fun i u hu => ?_⟩
    rw [Nat.zero_add, cell_of_row w g i _ _ _ hg]
    have hi : i < l.length := (List.getElem?_eq_some_iff.1 hu).1
    have h1 := h.1
    rw [← ht, List.getElem?_take_of_lt (by omega)] at hu
    simpa using hu
theorem g_lt9 {w8 w9 : World} {g : Nat} {X : Array Value} {T : TypeId} (h : Rw w8 g X T) (hb : Below w8.drew.heap.size w8.drew w9) : g < w9.heap.size := Nat.lt_of_lt_of_le h.lt hb.size
set_option maxRecDepth 100000 in
set_option maxHeartbeats 8000000 in
theorem after_any (k : St.K) (A : Option Addr) (c : Nat) (l : List Wl.R) (AR : Option Addr) (cr : Nat) (w : World) (hA : Lies w A (ec k.ents)) (hz : (∃ b off, A = some ⟨b, off, none⟩) ∨ (A = none ∧ c = 0)) (hR : Lies w AR (wrs l)) (hk : k.snap.idx < Nm.top) (hn : k.ents.length + l.length ≤ 1000000) (hl : Recs l) :
    Calls Tryz.prog 64 #[.agg (kC k (.slice A k.ents.length c)), .slice AR l.length cr] w (RetAf (St.after k l) w) := by
  have HA := Lib.hid hA
  have HRc := Lib.hid hR
  have HC := Lib.hid (fun W hb => cloneE_any W A c k.ents (hA.below (w' := W) hb) hz (by omega))
  have HEn := Lib.hid (fun i (hi : i < l.length) W => ownEntry_any l[i].ent W (Nat.le_trans (hl.fits _ (List.getElem_mem hi)).2 (by decide)))
  have HIs := Lib.hid (fun i (hi : i < l.length) W => isRecord_any l[i] W)
  have HPl := Lib.hid place_any
  have HTb := Lib.hid termBefore_any
  have HFt := Lib.hid hl.fits
  have Hk := Lib.hid hk
  obtain ⟨X, hX⟩ : ∃ X, X = kC k (.slice A k.ents.length c) := ⟨_, rfl⟩
  have HX : Hid (X.size = 11 ∧ X[10]? = some (.slice A k.ents.length c) ∧ (∀ v, X.setIfInBounds 10 v = kC k v)) := Lib.hid (by
    rw [hX]; exact ⟨rfl, rfl, fun v => by rw [kC_put]⟩)
  rw [← hX]
  clear hX hA hz hR hl hk
  go_enter Tryz.func64, Tryz.ntmps64
  go_upto_region 1 with (fail)
  refine forget (fun W => Rw W w.heap.size X 58 ∧ Rw W (w.heap.size + 1) zK 58 ∧ Bl w W ∧ w.heap.size ≤ w.heap.size) ⟨(Rw.new w X _).alloc _, by have := Rw.new (w.alloc (.cells X 58)) zK 58; rw [World.size_alloc] at this; exact this, ((Bl.refl w).alloc _).alloc _, Nat.le_refl _⟩ ?_
  intro W1 H1
  obtain ⟨g, hg⟩ : ∃ g, g = w.heap.size := ⟨_, rfl⟩
  have hg2 : w.heap.size ≤ g := by omega
  have Hg3 : Hid (g = w.heap.size) := Lib.hid hg
  rw [← hg] at H1 ⊢
  clear hg
  have HI := Lib.hid H1
  have c10 := H1.1.cell 10 HX.out.2.1
  clear H1
  go_wp2_with fail
  refine (HC.out W1 HI.out.2.2.1.bel).mono ?_
  rintro r w3 ⟨A', c', rfl, ho, hb3⟩
  have H3 : Hid (Rw (w3.setCell ⟨g, 10, none⟩ (.slice A' k.ents.length c')) g (kC k (.slice A' k.ents.length c')) 58 ∧ Rw (w3.setCell ⟨g, 10, none⟩ (.slice A' k.ents.length c')) (g + 1) zK 58 ∧ Bl w (w3.setCell ⟨g, 10, none⟩ (.slice A' k.ents.length c')) ∧ (w3.setCell ⟨g, 10, none⟩ (.slice A' k.ents.length c')).ownsRow (g + 2) 88 13 (.slice A' k.ents.length c') k.ents.length (ec k.ents)) := Lib.hid (by
    have r3 := (HI.out.1.bel hb3)
    refine ⟨?_, (HI.out.2.1.bel hb3).oput (by omega) _ _, (HI.out.2.2.1.next hb3).put hg2 _ _, ?_⟩
    · have := r3.put 10 (.slice A' k.ents.length c')
      rwa [HX.out.2.2] at this
    · have hg3 := HI.out.2.1.lt
      have ho2 := own_mono (B' := g + 2) ho (by omega)
      refine own_kept ho2 fun j hj => heap_setCell_other w3 ⟨g, 10, none⟩ j _ ?_
      have := (own_lt ho2 hj).2
      show j ≠ g
      omega)
  have c10b := (HI.out.1.bel hb3).cell 10 HX.out.2.1
  have f10 := (HI.out.1.bel hb3).free 10
  clear ho hb3 c10
  go_upto_region 3 with (fail)
  refine forget (fun W => Rw W g (kC k (.slice A' k.ents.length c')) 58 ∧ Rw W (g + 1) zK 58 ∧ Bl w W ∧ W.ownsRow (g + 2) 88 13 (.slice A' k.ents.length c') k.ents.length (ec k.ents)) H3.out ?_
  intro W4 H4
  have HJ4 := Lib.hid H4
  clear H4 c10b f10 H3 HI HC
  obtain ⟨m, hm⟩ : ∃ m, m = l.length := ⟨_, rfl⟩
  have Hm := Lib.hid hm
  rw [← hm] at hn ⊢
  clear hm
  go_loopw [16] (fun v wr => ∃ (i : Nat) (k1 : St.K) (B : Option Addr) (cb : Nat), i ≤ m ∧ v = .int .i64 (i : Int) ∧ St.after k (l.take i) = some k1 ∧ k1.snap = k.snap ∧ k1.ents.length ≤ k.ents.length + i ∧ Rw wr g (kC k1 (.slice B k1.ents.length cb)) 58 ∧ Rw wr (g + 1) zK 58 ∧ Bl w wr ∧ wr.ownsRow (g + 2) 88 13 (.slice B k1.ents.length cb) k1.ents.length (ec k1.ents)) (fun v _ => m - (intOf v).toNat)
  case atStart => exact ⟨0, k, A', c', by omega, rfl, rfl, rfl, by omega, HJ4.out⟩
  case round =>
    obtain ⟨i, k1, B, cb, hi, rfl, hk1, hks, hkl, h1, h2, h3, h4⟩ := hrel
    have HJ := Lib.hid (And.intro h1 (And.intro h2 (And.intro h3 h4)))
    have HK1 := Lib.hid (And.intro hk1 (And.intro hks hkl))
    clear h1 h2 h3 h4 hk1 hks hkl
    by_cases hlt : i < m
    · have hin : i < l.length := by rw [← Hm.out]; exact hlt
      obtain ⟨b, off, rfl, hE⟩ := (HRc.out.below HJ.out.2.2.1.bel).recd i hin
      have hbl := hE.lt
      have hrng := hE.rng
      have hfr := HFt.out _ (List.getElem_mem hin)
      have HIsi := Lib.hid (HIs.out i hin)
      have HEni := Lib.hid (HEn.out i hin)
      have HAf := Lib.hid (after_take_succ HK1.out.1 hin)
      have HNo := Lib.hid (after_none HK1.out.1 hin)
      obtain ⟨r, hr⟩ : ∃ r, r = l[i] := ⟨_, rfl⟩
      rw [← hr] at hrng hfr HIsi HEni HAf HNo
      have FR := recF r
      have hsz := sizeRec
      obtain ⟨Y, hY⟩ : ∃ Y, Y = recC r := ⟨_, rfl⟩
      rw [← hY] at hrng HIsi FR
      have HYe := Lib.hid hY
      have HY : Hid (Y.size = 16 ∧ Y.all (·.oneCell') = true ∧ (Tryz.prog.info? 90).map (·.size) = some Y.size) := Lib.hid ⟨FR.size, FR.one, by rw [FR.size]; exact sizeRec⟩
      have Hrng := Lib.hid hrng
      have HN : Hid (Rw (wr.alloc (.cells (recC Wl.rzero) 90)) wr.heap.size (recC Wl.rzero) 90) := Lib.hid (Rw.new wr _ _)
      clear hE hr hY hrng FR
      go_upto_region 5 with (first
        | (refine wpList_load_rng rfl 90 _ rfl b (off + i * 16) rfl Y _ Hrng.out Tryz.underlying90 rfl HY.out.2.2 ?_)
        | (refine wpList_store_sub rfl 90 _ _ rfl wr.heap.size 0 rfl 90 (recC Wl.rzero) Y rfl HN.out (by rw [HY.out.1]; exact Nat.le_refl 16) HY.out.2.2 HY.out.2.1 ?_))
      refine forget (fun W => Rw W g (kC k1 (.slice B k1.ents.length cb)) 58 ∧ Rw W (g + 1) zK 58 ∧ Bl w W ∧ W.ownsRow (g + 2) 88 13 (.slice B k1.ents.length cb) k1.ents.length (ec k1.ents) ∧ Rw W wr.heap.size Y 90 ∧ g + 1 < wr.heap.size) ?_ ?_
      · have hl := HJ.out.2.1.lt
        refine ⟨(HJ.out.1.alloc _).oputs (by omega) _ _, (HJ.out.2.1.alloc _).oputs (by omega) _ _, (HJ.out.2.2.1.alloc _).puts HJ.out.2.2.1.le _ _, ?_, HN.out.over (by rw [HY.out.1]; rfl), hl⟩
        refine own_kept HJ.out.2.2.2 fun j hj => ?_
        have hj2 := (own_lt HJ.out.2.2.2 hj).1
        exact (setCells_other (by omega) _ _ _).trans (Below.heap_alloc wr _ j (by omega))
      intro W5 H5
      obtain ⟨gb, hgb5⟩ : ∃ gb, gb = wr.heap.size := ⟨_, rfl⟩
      rw [← hgb5] at H5 ⊢
      have hgb1 := H5.2.2.2.2.2
      have HK := Lib.hid H5
      clear hgb5 H5 HN HJ hbl
      go_wp2_with (refine wpList_load_sub rfl 90 _ rfl gb 0 rfl 90 Y Y (0, 0) _ HK.out.2.2.2.2.1 (fun j hj => by rw [Nat.zero_add]) Tryz.underlying90 rfl HY.out.2.2 ?_)
      refine (HIsi.out _).mono ?_
      rintro e w6 ⟨rfl, hb6⟩
      have H6 : Hid (Rw w6 g (kC k1 (.slice B k1.ents.length cb)) 58 ∧ Rw w6 (g + 1) zK 58 ∧ Bl w w6 ∧ w6.ownsRow (g + 2) 88 13 (.slice B k1.ents.length cb) k1.ents.length (ec k1.ents) ∧ Rw w6 gb (recC r) 90) := Lib.hid
        ⟨HK.out.1.bel hb6, HK.out.2.1.bel hb6, HK.out.2.2.1.next hb6, own_kept HK.out.2.2.2.1 (fun j hj => hb6.block j (own_lt HK.out.2.2.2.1 hj).1), by rw [← HYe.out]; exact HK.out.2.2.2.2.1.bel hb6⟩
      clear hb6
      have HRf := Lib.hid hfr
      clear hfr
      rcases hrt : Wl.right r with _ | _
      · have E6 : Hid (St.after k l = none) := Lib.hid (HNo.out (by unfold St.one; rw [hrt, if_pos rfl]))
        have HX6 : Hid (Rw w6 (g + 1) zK 58 ∧ Bl w w6) := Lib.hid ⟨H6.out.2.1, H6.out.2.2.1⟩
        clear hrt
        go_wp2_with (refine wpList_store_sub rfl 58 _ _ rfl (g + 1) 0 rfl 58 zK zK rfl HX6.out.1 (Nat.le_refl 11) zK_size zK_one ?_)
        refine bodyPost_ret (results_ct (P := Tryz.prog) (fn := Tryz.f64) rfl _ _ (g + 1) 58 zK (0, 0) _ rfl (HX6.out.1.over rfl) Tryz.underlying58 rfl zK_size) rfl ?_
        rw [E6.out]
        exact ⟨rfl, HX6.out.2.puts (by omega) _ _⟩
      obtain ⟨c0, c1, c2, c3, c4, c5, c6, c7, c8, c9, c10, c11, c12, c13, c14, c15⟩ := rec_cells H6.out.2.2.2.2
      by_cases hk2 : r.kind = 2
      · have E6 : Hid (St.after k (l.take (i + 1)) = some ⟨r.trm, r.vote, k1.snap, k1.ents⟩) := Lib.hid (by rw [HAf.out, St.one_state hrt hk2])
        have d1 : ((r.kind : Int) == 2) = true := by simp; omega
        have d2 : ((r.kind : Int) = 2) = True := by simp; omega
        have q0 : w6.cell? ⟨g, 0, none⟩ = some (.int .u64 (k1.trm : Int)) := H6.out.1.cell 0 rfl
        have q1 : w6.cell? ⟨g, 1, none⟩ = some (.int .u8 (k1.vote : Int)) := H6.out.1.cell 1 rfl
        have f0 := H6.out.1.free 0
        have f1 := H6.out.1.free 1
        have hgg : gb ≠ g := by omega
        have hgg2 : g ≠ gb := by omega
        have HP : ∀ W', (W' = ((w6.drew.setCell ⟨g, 0, none⟩ (.int .u64 (r.trm : Int))).setCell ⟨g, 1, none⟩ (.int .u8 (r.vote : Int))) ∨ W' = ((w6.drew.setCell ⟨g, 1, none⟩ (.int .u8 (r.vote : Int))).setCell ⟨g, 0, none⟩ (.int .u64 (r.trm : Int)))) →
            Rw W' g (kC ⟨r.trm, r.vote, k1.snap, k1.ents⟩ (.slice B k1.ents.length cb)) 58 ∧ Rw W' (g + 1) zK 58 ∧ Bl w W' ∧ W'.ownsRow (g + 2) 88 13 (.slice B k1.ents.length cb) k1.ents.length (ec k1.ents) := fun W' h => by
          have ow : ∀ (i j : Nat) (u v : Value), ((w6.drew.setCell ⟨g, i, none⟩ u).setCell ⟨g, j, none⟩ v).ownsRow (g + 2) 88 13 (.slice B k1.ents.length cb) k1.ents.length (ec k1.ents) := fun i j u v => own_kept H6.out.2.2.2.1 fun m hm => by
            have := (own_lt H6.out.2.2.2.1 hm).2
            exact (heap_setCell_other _ ⟨g, j, none⟩ m v (by show m ≠ g; omega)).trans (heap_setCell_other w6.drew ⟨g, i, none⟩ m u (by show m ≠ g; omega))
          rcases h with rfl | rfl
          · exact ⟨((H6.out.1.drew).put 0 _).put 1 _, ((H6.out.2.1.drew).oput (by omega) _ _).oput (by omega) _ _, ((show Bl w w6.drew from below_drew H6.out.2.2.1).put hg2 _ _).put hg2 _ _, ow _ _ _ _⟩
          · exact ⟨((H6.out.1.drew).put 1 _).put 0 _, ((H6.out.2.1.drew).oput (by omega) _ _).oput (by omega) _ _, ((show Bl w w6.drew from below_drew H6.out.2.2.1).put hg2 _ _).put hg2 _ _, ow _ _ _ _⟩
        have HPP := Lib.hid HP
        clear hk2 hrt HP c3 c4 c5 c6 c7 c8 c9 c10 c11 c12 c13 c14 c15
        go_upto_region 8 with (fail)
        go_region
        all_goals (
          go_wp2_with fail
          go_roundw
          case rel => exact ⟨i + 1, ⟨r.trm, r.vote, k1.snap, k1.ents⟩, B, cb, by omega, by go_num, E6.out, HK1.out.2.1, Nat.le_trans HK1.out.2.2 (by omega), HPP.out _ (by first | exact .inl rfl | exact .inr rfl)⟩
          case measure => simp [intOf]; omega)
      have d1 : ((r.kind : Int) == 2) = false := by simp; omega
      have d2 : ((r.kind : Int) = 2) = False := by simp; omega
      have hit : r.ent.idx < Nm.top := HRf.out.1.ent.idx
      have hks : k1.snap.idx < Nm.top := by rw [HK1.out.2.1]; exact Hk.out
      have hkl := HK1.out.2.2
      have HPx := Lib.hid (HPl.out k1 B cb r.ent.idx w6 hit hks (by omega))
      by_cases hp : k1.snap.idx < r.ent.idx ∧ St.pl k1 r.ent.idx ≤ k1.ents.length
      case neg =>
        have E6 : Hid (St.after k l = none) := Lib.hid (HNo.out (by unfold St.one; rw [hrt, if_neg (by decide), if_neg hk2, if_neg fun h => hp ⟨h.1, h.2.1⟩]))
        have hpv : placeV k1.snap.idx k1.ents.length r.ent.idx = .tuple #[.int .i64 0, .bool false] := if_neg hp
        rw [hpv] at HPx
        clear hp hpv hk2 hrt hks
        go_wp2_with (refine wpList_load_sub rfl 58 _ rfl g 0 rfl 58 (kC k1 (.slice B k1.ents.length cb)) (kC k1 (.slice B k1.ents.length cb)) (0, 0) _ H6.out.1 (fun j hj => by rw [Nat.zero_add]) Tryz.underlying58 rfl (sizeKept' _ _) ?_)
        refine HPx.out.mono ?_
        rintro e w7 ⟨rfl, hb7⟩
        have H7 : Hid (Rw w7 (g + 1) zK 58 ∧ Bl w w7) := Lib.hid ⟨H6.out.2.1.bel hb7, H6.out.2.2.1.next hb7⟩
        clear hb7 H6 c0 c1 c2 c3 c4 c5 c6 c7 c8 c9 c10 c11 c12 c13 c14 c15
        go_upto_region 10 with (fail)
        refine wp_region_quiet_below (by kernel_rfl) (by kernel_rfl) ?_
        repeat (go_big_quiet_step (fail))
        refine wpQuiet_nil ?_
        intro _ hw'
        obtain ⟨pq, hw''⟩ := hw'
        subst hw''
        have hb8 := below_regrown w7 pq.d pq.os
        generalize Go.Sort.grow (redrawn w7 pq.d) pq.os = w8 at *
        have HX6 : Hid (Rw w8 (g + 1) zK 58 ∧ Bl w w8) := Lib.hid ⟨H7.out.1.bel hb8, H7.out.2.next hb8⟩
        clear hb8 H7
        go_wp2_with (refine wpList_store_sub rfl 58 _ _ rfl (g + 1) 0 rfl 58 zK zK rfl HX6.out.1 (Nat.le_refl 11) zK_size zK_one ?_)
        refine bodyPost_ret (results_ct (P := Tryz.prog) (fn := Tryz.f64) rfl _ _ (g + 1) 58 zK (0, 0) _ rfl (HX6.out.1.over rfl) Tryz.underlying58 rfl zK_size) rfl ?_
        rw [E6.out]
        exact ⟨rfl, HX6.out.2.puts (by omega) _ _⟩
      have hpv : placeV k1.snap.idx k1.ents.length r.ent.idx = .tuple #[.int .i64 ((St.pl k1 r.ent.idx : Nat) : Int), .bool true] := if_pos hp
      rw [hpv] at HPx
      obtain ⟨at_, hat⟩ : ∃ at_, at_ = St.pl k1 r.ent.idx := ⟨_, rfl⟩
      have HOne : Hid (St.one k1 r = if St.before k1 at_ ≤ r.ent.trm then some ⟨k1.trm, k1.vote, k1.snap, k1.ents.take at_ ++ [r.ent]⟩ else none) := Lib.hid (by
        unfold St.one
        rw [hrt, if_neg (by decide), if_neg hk2, ← hat]
        by_cases hb : St.before k1 at_ ≤ r.ent.trm
        · rw [if_pos ⟨hp.1, by rw [hat]; exact hp.2, hb⟩, if_pos hb]
        · rw [if_neg fun h => hb h.2.2, if_neg hb])
      rw [← hat] at HPx
      have hatl : at_ ≤ k1.ents.length := by rw [hat]; exact hp.2
      clear hp hpv hk2 hrt hks hat
      go_wp2_with (refine wpList_load_sub rfl 58 _ rfl g 0 rfl 58 (kC k1 (.slice B k1.ents.length cb)) (kC k1 (.slice B k1.ents.length cb)) (0, 0) _ H6.out.1 (fun j hj => by rw [Nat.zero_add]) Tryz.underlying58 rfl (sizeKept' _ _) ?_)
      refine HPx.out.mono ?_
      rintro e w7 ⟨rfl, hb7⟩
      have H7 : Hid (Rw w7 g (kC k1 (.slice B k1.ents.length cb)) 58 ∧ Rw w7 (g + 1) zK 58 ∧ Bl w w7 ∧ w7.ownsRow (g + 2) 88 13 (.slice B k1.ents.length cb) k1.ents.length (ec k1.ents) ∧ Rw w7 gb (recC r) 90) := Lib.hid
        ⟨H6.out.1.bel hb7, H6.out.2.1.bel hb7, H6.out.2.2.1.next hb7, own_kept H6.out.2.2.2.1 (fun j hj => hb7.block j (own_lt H6.out.2.2.2.1 hj).1), H6.out.2.2.2.2.bel hb7⟩
      clear hb7 H6 c0 c1 c2 c3 c4 c5 c6 c7 c8 c9 c10 c11 c12 c13 c14 c15
      have hgl := H7.out.1.lt
      have hgbl := H7.out.2.2.2.2.lt
      have hkk := H7.out.1
      have HTi : Hid (∀ d os, Calls Tryz.prog 125 #[.agg (kC k1 (.slice B k1.ents.length cb)), .int .i64 (at_ : Int)] (Go.Sort.grow (redrawn w7 d) os) fun r w' => r = .returned (.int .u64 ((St.before k1 at_ : Nat) : Int)) ∧ Below (Go.Sort.grow (redrawn w7 d) os).heap.size (Go.Sort.grow (redrawn w7 d) os) w') := Lib.hid fun d os =>
        HTb.out k1 B cb at_ _ (by
          have hb := below_regrown w7 d os
          have := own_kept (W' := Go.Sort.grow (redrawn w7 d) os) H7.out.2.2.2.1 (fun j hj => hb.block j (own_lt H7.out.2.2.2.1 hj).1)
          exact lies_own13 this) hatl (by omega)
      have c4 : w7.cell? ⟨gb, 4, none⟩ = some (.int .u64 (r.ent.trm : Int)) := H7.out.2.2.2.2.cell 4 rfl
      have c4r := fun d os => ((below_regrown w7 d os).cell (p := ⟨gb, 4, none⟩) hgbl).trans c4
      have HKK := Lib.hid hkk
      have HS7 := Lib.hid (sizeKept' k1 (.slice B k1.ents.length cb))
      obtain ⟨Z, hZ⟩ : ∃ Z, Z = kC k1 (.slice B k1.ents.length cb) := ⟨_, rfl⟩
      rw [← hZ] at HTi HKK HS7
      clear hZ hkk
      obtain ⟨tb, htb⟩ : ∃ tb, tb = St.before k1 at_ := ⟨_, rfl⟩
      rw [← htb] at HTi HOne
      clear htb
      have HKw := Lib.hid (And.intro hkl hatl)
      by_cases hbt : tb ≤ r.ent.trm
      case neg =>
        have E6 : Hid (St.after k l = none) := Lib.hid (HNo.out (by rw [HOne.out, if_neg hbt]))
        have d3 : decide ((r.ent.trm : Int) < (tb : Int)) = true := by simp; omega
        have d4 : ((r.ent.trm : Int) < (tb : Int)) = True := by simp; omega
        clear hbt hkl hatl
        go_upto_region 10 with (fail)
        refine wp_region_quiet_below (by kernel_rfl) (by kernel_rfl) ?_
        repeat (first | (refine wpQuiet_load_sub rfl 58 _ rfl g 0 rfl 58 Z Z (0, 0) _ HKK.out (fun j hj => by rw [Nat.zero_add]) Tryz.underlying58 rfl HS7.out ?_; (conv => arg 6; simp [Act.put])) | (go_big_quiet_step ((go_at_call 125; exact Calls.regrown_of (HTi.out _ _)))))
        refine wpQuiet_nil ?_
        intro _ hw'
        obtain ⟨pq, hw''⟩ := hw'
        subst hw''
        have hb8 := below_regrown w7 pq.d pq.os
        generalize Go.Sort.grow (redrawn w7 pq.d) pq.os = w8 at *
        have HX6 : Hid (Rw w8 (g + 1) zK 58 ∧ Bl w w8) := Lib.hid ⟨H7.out.2.1.bel hb8, H7.out.2.2.1.next hb8⟩
        clear hb8 H7 HTi c4r HKK
        go_wp2_with (refine wpList_store_sub rfl 58 _ _ rfl (g + 1) 0 rfl 58 zK zK rfl HX6.out.1 (Nat.le_refl 11) zK_size zK_one ?_)
        refine bodyPost_ret (results_ct (P := Tryz.prog) (fn := Tryz.f64) rfl _ _ (g + 1) 58 zK (0, 0) _ rfl (HX6.out.1.over rfl) Tryz.underlying58 rfl zK_size) rfl ?_
        rw [E6.out]
        exact ⟨rfl, HX6.out.2.puts (by omega) _ _⟩
      have E6 : Hid (St.after k (l.take (i + 1)) = some ⟨k1.trm, k1.vote, k1.snap, k1.ents.take at_ ++ [r.ent]⟩) := Lib.hid (by rw [HAf.out, HOne.out, if_pos hbt])
      have d3 : decide ((r.ent.trm : Int) < (tb : Int)) = false := by simp; omega
      have d4 : ((r.ent.trm : Int) < (tb : Int)) = False := by simp; omega
      clear hbt
      go_upto_region 10 with (fail)
      refine wp_region_quiet_below (by kernel_rfl) (by kernel_rfl) ?_
      repeat (first | (refine wpQuiet_load_sub rfl 58 _ rfl g 0 rfl 58 Z Z (0, 0) _ HKK.out (fun j hj => by rw [Nat.zero_add]) Tryz.underlying58 rfl HS7.out ?_; (conv => arg 6; simp [Act.put])) | (go_big_quiet_step ((go_at_call 125; exact Calls.regrown_of (HTi.out _ _)))))
      refine wpQuiet_nil ?_
      intro _ hw'
      obtain ⟨pq, hw''⟩ := hw'
      subst hw''
      have hb8 := below_regrown w7 pq.d pq.os
      generalize Go.Sort.grow (redrawn w7 pq.d) pq.os = w8 at *
      have H8 : Hid (Rw w8 g (kC k1 (.slice B k1.ents.length cb)) 58 ∧ Rw w8 (g + 1) zK 58 ∧ Bl w w8 ∧ w8.ownsRow (g + 2) 88 13 (.slice B at_ cb) at_ (ec (k1.ents.take at_)) ∧ Rw w8 gb (recC r) 90) := Lib.hid
        ⟨H7.out.1.bel hb8, H7.out.2.1.bel hb8, H7.out.2.2.1.next hb8, own_pref13 (own_kept H7.out.2.2.2.1 (fun j hj => hb8.block j (own_lt H7.out.2.2.2.1 hj).1)) rfl at_ HKw.out.2, H7.out.2.2.2.2.bel hb8⟩
      clear hb8 H7 HTi c4r HKK HS7 c4 d3 d4
      obtain ⟨_, _, _, c3, c4, c5, c6, c7, c8, c9, c10, c11, c12, c13, c14, c15⟩ := rec_cells H8.out.2.2.2.2
      have x10 : w8.cell? ⟨g, 10, none⟩ = some (.slice B k1.ents.length cb) := H8.out.1.cell 10 rfl
      obtain ⟨n1, hn1⟩ : ∃ n1, n1 = k1.ents.length := ⟨_, rfl⟩
      rw [← hn1] at x10 hatl hkl
      have hai : (at_ : Int) ≤ (n1 : Int) := by omega
      have hac : at_ ≤ cb := by
        have ho := H8.out.2.2.2.1
        rcases ho.2 with ⟨hv, h0⟩ | ⟨_, _, _, hv, _, _, h1, _⟩
        · omega
        · injection hv with _ _ e3
          omega
      have haci : (at_ : Int) ≤ (cb : Int) := by omega
      have HEl : Hid (∀ W, Calls Tryz.prog 122 #[.agg (entC r.ent)] W fun r_1 w' => r_1 = .returned (.agg (entC r.ent)) ∧ Below W.heap.size W w') := HEni
      unfold entC at HEl
      have HF : Hid (∀ w9, Below w8.heap.size w8 w9 → (w9.alloc (.cells (ec1 r.ent).toArray 88)).ownsRow (g + 2) 88 13 (.slice B at_ cb) at_ (ec (k1.ents.take at_)) ∧ g + 2 ≤ (w9.alloc (.cells (ec1 r.ent).toArray 88)).heap.size ∧ (∀ j u, (ec1 r.ent)[j]? = some u → (w9.alloc (.cells (ec1 r.ent).toArray 88)).cell? ((⟨w9.heap.size, 0, none⟩ : Addr).add j) = some u) ∧
          Rw (w9.alloc (.cells (ec1 r.ent).toArray 88)) g (kC k1 (.slice B k1.ents.length cb)) 58 ∧ Rw (w9.alloc (.cells (ec1 r.ent).toArray 88)) (g + 1) zK 58 ∧ Bl w (w9.alloc (.cells (ec1 r.ent).toArray 88)) ∧ w9.cell? ⟨g, 10, none⟩ = some (.slice B n1 cb)) := Lib.hid fun w9 hb => by
        have hb' : Below w8.heap.size w8 (w9.alloc (.cells (ec1 r.ent).toArray 88)) := bnew hb _
        have hl2 := H8.out.2.1.lt
        exact ⟨own_kept H8.out.2.2.2.1 fun j hj => hb'.block j (own_lt H8.out.2.2.2.1 hj).1, by have := hb'.size; omega, news_fl w9 (ec1 r.ent) 88, H8.out.1.bel hb', H8.out.2.1.bel hb', H8.out.2.2.1.next hb', later hb x10⟩
      have hones : ∀ u ∈ ec1 r.ent, u.oneCell' = true := fun u hu => ecs_one [r.ent] u (by simpa [ec] using hu)
      have Hones := Lib.hid hones
      obtain ⟨i0, hi0, hz0, hz1, hz2⟩ := info_parts infoEn
      have HI0 := Lib.hid (And.intro hi0 (And.intro hz0 (And.intro hz1 hz2)))
      have hab : at_ + 1 ≤ 1000000 := by omega
      clear hones hi0 hz0 hz1 hz2
      have hel : (k1.ents.take at_ ++ [r.ent]).length = at_ + 1 := by rw [List.length_append, List.length_take, List.length_singleton]; omega
      have hee : ec (k1.ents.take at_ ++ [r.ent]) = ec (k1.ents.take at_) ++ ec1 r.ent := by simp [ec]
      have HFin : Hid (∀ w9 w11 A2 c2', Below w8.heap.size w8 w9 → w11.ownsRow (g + 2) 88 13 (.slice A2 (at_ + 1) c2') (at_ + 1) (ec (k1.ents.take at_) ++ ec1 r.ent) → (w9.alloc (.cells (ec1 r.ent).toArray 88)).grownBy w11 (Value.slice B at_ cb).ownBlock →
          w11.cell? ⟨g, 10, none⟩ = some (.slice B n1 cb) ∧ w11.frozen? ⟨g, 10, none⟩ = false ∧
          Rw (w11.setCell ⟨g, 10, none⟩ (.slice A2 (at_ + 1) c2')) g (kC ⟨k1.trm, k1.vote, k1.snap, k1.ents.take at_ ++ [r.ent]⟩ (.slice A2 (k1.ents.take at_ ++ [r.ent]).length c2')) 58 ∧ Rw (w11.setCell ⟨g, 10, none⟩ (.slice A2 (at_ + 1) c2')) (g + 1) zK 58 ∧ Bl w (w11.setCell ⟨g, 10, none⟩ (.slice A2 (at_ + 1) c2')) ∧
          (w11.setCell ⟨g, 10, none⟩ (.slice A2 (at_ + 1) c2')).ownsRow (g + 2) 88 13 (.slice A2 (k1.ents.take at_ ++ [r.ent]).length c2') (k1.ents.take at_ ++ [r.ent]).length (ec (k1.ents.take at_ ++ [r.ent]))) := Lib.hid fun w9 w11 A2 c2' hb ho hg => by
        have hX := HF.out w9 hb
        have hB : Below (g + 2) (w9.alloc (.cells (ec1 r.ent).toArray 88)) w11 := (Below.refl _ _).grown hg hX.2.1 (fun j hj => (own_lt hX.1 hj).2)
        have r11 : Rw w11 g (kC k1 (.slice B k1.ents.length cb)) 58 := (hB.block g (by omega)).trans hX.2.2.2.1
        have z11 : Rw w11 (g + 1) zK 58 := (hB.block (g + 1) (by omega)).trans hX.2.2.2.2.1
        have b11 : Bl w w11 := hX.2.2.2.2.2.1.bel.trans (hB.mono (by omega))
        rw [hel, hee]
        refine ⟨by rw [hn1]; exact r11.cell 10 rfl, r11.free 10, ?_, z11.oput (by omega) _ _, b11.put hg2 _ _, own_kept ho fun m hm => heap_setCell_other w11 ⟨g, 10, none⟩ m _ (by have := (own_lt ho hm).2; show m ≠ g; omega)⟩
        have := r11.put 10 (.slice A2 (at_ + 1) c2')
        rw [kC_put] at this
        exact this
      clear hel hee
      go_upto_region 12 with (fail)
      go_region_law (first
        | (refine step_app_own rfl (.tmp 56) (.tmp 60) 56 rfl (g + 2) 88 i0 (.agg (entC En.zero)) 13 48 Tryz.underlying56 HI0.out.1 HI0.out.2.1 HI0.out.2.2.1 HI0.out.2.2.2 rfl (by decide) _ at_ _ rfl HX.1 ⟨w9.heap.size, 0, none⟩ 1 1 (ec1 r.ent) rfl rfl HX.2.2.1 Hones.out (by simp only [maxLen]; omega) (by omega) HX.2.1 ?_; intro v' w11 ho hg hn; obtain ⟨A2, c2', rfl, _⟩ := own_slice ho; have hFin := HFin.out w9 w11 A2 c2' (bnext (below_drew (Below.refl _ _)) hb9) ho hg; have x11 := hFin.1; have f11 := hFin.2.1; have HFz := Lib.hid hFin.2.2; clear hFin ho hg hn)
        | (go_simp; go_at_call 122; refine (HEl.out _).mono ?_; rintro r_6 w9 ⟨rfl, hb9⟩; have HX := HF.out w9 (bnext (below_drew (Below.refl _ _)) hb9); have x10b := HX.2.2.2.2.2.2; have hgl9 := g_lt9 H8.out.1 hb9; have hgn9 : g ≠ w9.heap.size := Nat.ne_of_lt hgl9))
      all_goals (
        go_wp2_with fail
        go_roundw
        case rel => exact ⟨i + 1, ⟨k1.trm, k1.vote, k1.snap, k1.ents.take at_ ++ [r.ent]⟩, A2, c2', by omega, by go_num, E6.out, HK1.out.2.1, by show (k1.ents.take at_ ++ [r.ent]).length ≤ _; rw [List.length_append, List.length_take, List.length_singleton]; have := HKw.out; omega, HFz.out⟩
        case measure => simp [intOf]; omega)
    · obtain rfl : i = m := by omega
      have E6 : Hid (St.after k l = some k1) := Lib.hid (by have := HK1.out.1; rwa [Hm.out, List.take_of_length_le (Nat.le_refl _)] at this)
      obtain ⟨Z, hZ⟩ : ∃ Z, Z = kC k1 (.slice B k1.ents.length cb) := ⟨_, rfl⟩
      have HZZ : Hid (Z.size = 11 ∧ Z.all (·.oneCell') = true ∧ (Tryz.prog.info? 58).map (·.size) = some Z.size) := Lib.hid (by rw [hZ]; exact ⟨rfl, kC_one _ _ _ _, sizeKept' _ _⟩)
      rw [← hZ] at HJ
      have hZ2 := Lib.hid hZ
      clear hZ
      go_wp2_with (first
        | (refine wpList_load_sub rfl 58 _ rfl g 0 rfl 58 Z Z (0, 0) _ HJ.out.1 (fun j hj => by rw [Nat.zero_add]) Tryz.underlying58 rfl HZZ.out.2.2 ?_)
        | (refine wpList_store_sub rfl 58 _ _ rfl (g + 1) 0 rfl 58 zK Z rfl HJ.out.2.1 (by rw [HZZ.out.1]; exact Nat.le_refl 11) HZZ.out.2.2 HZZ.out.2.1 ?_))
      refine bodyPost_ret (results_ct (P := Tryz.prog) (fn := Tryz.f64) rfl _ _ (g + 1) 58 Z (0, 0) _ rfl (HJ.out.2.1.over (by rw [HZZ.out.1]; rfl)) Tryz.underlying58 rfl HZZ.out.2.2) rfl ?_
      rw [E6.out]
      refine ⟨B, cb, by rw [hZ2.out]; rfl, ?_, HJ.out.2.2.1.puts (by omega) _ _⟩
      exact own_mono (own_kept HJ.out.2.2.2 fun j hj => setCells_other (by have := (own_lt HJ.out.2.2.2 hj).2; omega) _ _ _) (by omega)
end Go.Proofs.YtjhbpcecdhdnoaaGreatDoor
