/-
  stable's readSnap walked.
-/
import Derived.Test.YtjhbpcecdhdnoaaGreatDoorRWwNumbZ
import Derived.Test.YtjhbpcecdhdnoaaGreatDoorRWwX
set_option linter.unusedSimpArgs false
set_option linter.unusedVariables false
namespace Go.Proofs.YtjhbpcecdhdnoaaGreatDoor
open Go.RowKit
def SnV (o : Option St.Sn) : Value := match o with
  | some s => .tuple #[.agg (snC s), .bool true]
  | none => .tuple #[.agg (snC St.zs), .bool false]
theorem snC_set (a b c : Nat) (L : List ByteArray) (hL : L.length = 5) (k : Nat) (hk : k < 5) (x : ByteArray) : (snC ⟨a, b, c, L⟩).setIfInBounds (3 + k) (.string x) = snC ⟨a, b, c, L.set k x⟩ := by
  match L, hL with
  | [l0, l1, l2, l3, l4], _ =>
    match k, hk with
    | 0, _ => rfl
    | 1, _ => rfl
    | 2, _ => rfl
    | 3, _ => rfl
    | 4, _ => rfl
theorem snC_at (s : St.Sn) (k : Nat) (hk : k < 5) : (snC s)[3 + k]? = some (.string (St.sx s k)) := by
  match k, hk with
  | 0, _ => rfl
  | 1, _ => rfl
  | 2, _ => rfl
  | 3, _ => rfl
  | 4, _ => rfl
def St.fins (i a b c : Nat) (R : List (List UInt8)) : Option St.Sn := if a = i ∧ 5 ≤ R.length then some ⟨a, b, c, (R.take 5).map Wl.ba⟩ else none
theorem rdSnap_cons (i : Nat) (h : List UInt8) (R : List (List UInt8)) : St.rdSnap i (h :: R) = match St.headP h with | some (a, b, c) => St.fins i a b c R | none => none := by
  unfold St.rdSnap
  simp only []
  rcases St.headP h with _ | ⟨a, b, c⟩
  · rfl
  · rfl
theorem take_set_succ {α : Type} : ∀ (L : List α) (k : Nat) (x : α), k < L.length → (L.set k x).take (k + 1) = L.take k ++ [x]
  | [], k, x, h => by simp at h
  | y :: L, 0, x, _ => by simp
  | y :: L, k + 1, x, h => by
    rw [List.set_cons_succ, List.take_succ_cons, take_set_succ L k x (by simpa using h)]; rfl
theorem rows_len_le {x : ByteArray} (m : Nat) (h : x.size ≤ 100000000) : (x.extract m x.size).size ≤ 100000000 := by rw [ByteArray.size_extract]; omega
section
variable {At : DkAt}
set_option maxRecDepth 100000 in
set_option maxHeartbeats 8000000 in
theorem readSnap_any (K : DiskK At) (W : World) (p g o i : Nat) (S : Nat → Prop) (d : Dk.D) (hA : At W p S d) (hE : EnvT W) (hT : TabO W g o Cr.tab) (hi : i < Nm.top) :
    Calls Tryz.prog 182 #[.pointer (some ⟨p, 0, none⟩), .pointer (some ⟨g, o, none⟩), .int .u64 (i : Int)] W fun e w' => e = .returned (SnV (St.readSnap d i)) ∧ Below W.heap.size W w' := by
  have HA := Lib.hid (fun W2 (hb : Below W.heap.size W W2) => K.below hA hb)
  have HTb := Lib.hid (fun W2 (hb : Below W.heap.size W W2) => hT.below hb)
  have HSn := Lib.hid (fun W2 (hb : Below W.heap.size W W2) => snapName_any i W2 hi (hE.below hb (Nat.le_refl _)))
  have HRd := Lib.hid (fun W2 (hb : Below W.heap.size W W2) n hn => K.read W2 p S d n (K.below hA hb) hn)
  have hld := K.load hA
  have hrl := Dk.read_len8 d (St.sname i)
  have hnz := (St.sname_size hi).2
  have hi2 : i ≤ 18446744073709551615 := by unfold Nm.top at hi; omega
  have hdef : St.readSnap d i = if i = 0 then some St.zs else if (Dk.read d (St.sname i)).2 = .ok then St.rdSnap i (Wl.rows (Dk.read d (St.sname i)).1) else none := rfl
  obtain ⟨nm, hnm⟩ : ∃ nm, nm = St.sname i := ⟨_, rfl⟩
  rw [← hnm] at HSn hdef hrl hnz
  obtain ⟨er, her⟩ : ∃ er, er = Dk.read d nm := ⟨_, rfl⟩
  rw [← her] at hdef hrl
  have HRd2 : Hid (∀ W2, Below W.heap.size W W2 → Calls Tryz.prog 96 #[.pointer (some ⟨p, 0, none⟩), .string nm] W2 fun e w' => e = .returned (.tuple #[.string ⟨er.1.toArray⟩, .int .i64 (eno er.2)]) ∧ Below W2.heap.size W2 w') := Lib.hid fun W2 hb => by
    rw [her]; exact HRd.out W2 hb nm (by omega)
  have Hdef := Lib.hid hdef
  clear hdef her hnm hA hE hT hi K HRd
  by_cases h0 : i = 0
  · have E : Hid (St.readSnap d i = some St.zs) := Lib.hid (by rw [Hdef.out, if_pos h0])
    subst h0
    have hz2 : Hid (∀ W : World, Rw (W.alloc (.cells zl 55)) W.heap.size zl 55) := Lib.hid fun W => Rw.new W _ _
    go_enter Tryz.func182, Tryz.ntmps182
    go_wp2_with (refine wpList_store_sub rfl 55 _ _ rfl W.heap.size 0 rfl 55 zl zl rfl (hz2.out W) (Nat.le_refl 8) sizeSnap zl_one ?_)
    refine bodyPost_ret (results_ct (P := Tryz.prog) (fn := Tryz.f182) rfl _ _ W.heap.size 55 (snC St.zs) (0, 0) _ rfl ((hz2.out W).over rfl) Tryz.underlying55 rfl sizeSnap) rfl ?_
    exact ⟨by rw [E.out]; rfl, ((Bl.refl W).alloc _).puts (Nat.le_refl _) _ _⟩
  rw [if_neg h0] at Hdef
  have z0 : ((i : Int) == 0) = false := by simp; omega
  have z1 : ((i : Int) = 0) = False := by simp; omega
  obtain ⟨l, e⟩ := er
  simp only at Hdef hrl HRd2
  clear h0
  by_cases hok : e = .ok
  case neg =>
    obtain ⟨y1, y2, y3⟩ := eno_ne hok
    have E : Hid (St.readSnap d i = none) := Lib.hid (by rw [Hdef.out, if_neg hok])
    obtain ⟨v, hv⟩ : ∃ v, v = eno e := ⟨_, rfl⟩
    rw [← hv] at y1 y2 y3 HRd2
    clear hok hv
    go_enter Tryz.func182, Tryz.ntmps182
    go_upto_region 1 with (fail)
    refine forget (fun W1 => Rw W1 W.heap.size zl 55 ∧ Bl W W1 ∧ W.heap.size ≤ W.heap.size) ⟨Rw.new W _ _, (Bl.refl W).alloc _, Nat.le_refl _⟩ ?_
    intro W1 H1
    obtain ⟨gr, hgr⟩ : ∃ gr, gr = W.heap.size := ⟨_, rfl⟩
    have hgr2 : W.heap.size ≤ gr := by omega
    rw [← hgr] at H1 ⊢
    clear hgr
    have HI := Lib.hid H1
    clear H1
    go_wp2_with fail
    refine (HSn.out _ HI.out.2.1.bel).mono ?_
    rintro e1 w1 ⟨rfl, hb1⟩
    have H2 := Lib.hid (And.intro (HI.out.1.bel hb1) (HI.out.2.1.next hb1))
    clear hb1
    go_wp2_with fail
    refine (HRd2.out _ H2.out.2.bel).mono ?_
    rintro e1 w2 ⟨rfl, hb2⟩
    have H3 := Lib.hid (And.intro (H2.out.1.bel hb2) (H2.out.2.next hb2))
    clear hb2
    have HX := H3
    go_wp2_with (refine wpList_store_sub rfl 55 _ _ rfl gr 0 rfl 55 zl zl rfl HX.out.1 (Nat.le_refl 8) sizeSnap zl_one ?_)
    refine bodyPost_ret (results_ct (P := Tryz.prog) (fn := Tryz.f182) rfl _ _ gr 55 (snC St.zs) (0, 0) _ rfl (HX.out.1.over rfl) Tryz.underlying55 rfl sizeSnap) rfl ?_
    exact ⟨by rw [E.out]; rfl, HX.out.2.puts hgr2 _ _⟩
  subst hok
  rw [if_pos rfl] at Hdef
  simp only [eno] at HRd2
  obtain ⟨sb, hsb⟩ : ∃ sb : ByteArray, sb = ⟨l.toArray⟩ := ⟨_, rfl⟩
  have hsd : sb.data.toList = l := by rw [hsb]
  have hsz : sb.size ≤ 100000000 := by rw [Lib.size_eq, hsd]; omega
  rw [← hsb] at HRd2
  have HRow := Lib.hid (fun W2 hb => readRow_any W2 g o sb (HTb.out W2 hb) hsz)
  rw [hsd] at HRow
  clear hsb
  rcases h1 : Wl.row1 l with _ | ⟨t, r⟩
  · have E : Hid (St.readSnap d i = none) := Lib.hid (by rw [Hdef.out, Wl.rows_none h1]; rfl)
    rw [h1] at HRow
    unfold RowV at HRow
    clear h1
    go_enter Tryz.func182, Tryz.ntmps182
    go_upto_region 1 with (fail)
    refine forget (fun W1 => Rw W1 W.heap.size zl 55 ∧ Bl W W1 ∧ W.heap.size ≤ W.heap.size) ⟨Rw.new W _ _, (Bl.refl W).alloc _, Nat.le_refl _⟩ ?_
    intro W1 H1
    obtain ⟨gr, hgr⟩ : ∃ gr, gr = W.heap.size := ⟨_, rfl⟩
    have hgr2 : W.heap.size ≤ gr := by omega
    rw [← hgr] at H1 ⊢
    clear hgr
    have HI := Lib.hid H1
    clear H1
    go_wp2_with fail
    refine (HSn.out _ HI.out.2.1.bel).mono ?_
    rintro e1 w1 ⟨rfl, hb1⟩
    have H2 := Lib.hid (And.intro (HI.out.1.bel hb1) (HI.out.2.1.next hb1))
    clear hb1
    go_wp2_with fail
    refine (HRd2.out _ H2.out.2.bel).mono ?_
    rintro e1 w2 ⟨rfl, hb2⟩
    have H3 := Lib.hid (And.intro (H2.out.1.bel hb2) (H2.out.2.next hb2))
    clear hb2
    go_wp2_with fail
    refine (HRow.out _ H3.out.2.bel).mono ?_
    rintro e1 w3 ⟨rfl, hb3⟩
    have H4 := Lib.hid (And.intro (H3.out.1.bel hb3) (H3.out.2.next hb3))
    clear hb3
    have HX := H4
    go_wp2_with (refine wpList_store_sub rfl 55 _ _ rfl gr 0 rfl 55 zl zl rfl HX.out.1 (Nat.le_refl 8) sizeSnap zl_one ?_)
    refine bodyPost_ret (results_ct (P := Tryz.prog) (fn := Tryz.f182) rfl _ _ gr 55 (snC St.zs) (0, 0) _ rfl (HX.out.1.over rfl) Tryz.underlying55 rfl sizeSnap) rfl ?_
    exact ⟨by rw [E.out]; rfl, HX.out.2.puts hgr2 _ _⟩
  obtain ⟨hml, hme⟩ := row1_drop (x := sb) (by rw [hsd]; exact h1)
  have hrl := row1_len h1
  have hrows : Wl.rows l = t :: Wl.rows r := by
    obtain ⟨h2, h3⟩ := (Wl.row1_iff _ _ _).1 h1
    rw [h3, Wl.rows_cons h2]
  rw [h1] at HRow
  unfold RowV at HRow
  rw [hrows, rdSnap_cons] at Hdef
  obtain ⟨tx, htx⟩ : ∃ tx, tx = Wl.ba t := ⟨_, rfl⟩
  have htd : tx.data.toList = t := by rw [htx, Wl.ba_data]
  have htz : tx.size ≤ 100000000 := by rw [htx, Wl.ba_size]; rw [← hsd, ← Lib.size_eq] at hrl; omega
  obtain ⟨m0, hm0⟩ : ∃ m0, m0 = (Wl.row t).length := ⟨_, rfl⟩
  rw [← hm0] at hml hme
  simp only [← htx, ← hm0] at HRow
  have HH := Lib.hid (fun W2 => readHeadS_any tx W2 htz)
  rw [htd] at HH
  have hmi : (m0 : Int) ≤ (sb.size : Int) := by omega
  have Hme := Lib.hid (And.intro hml hme)
  clear h1 htx hm0 hrows hrl hml hme
  rcases h2 : St.headP t with _ | ⟨a, b, c⟩
  · rw [h2] at HH Hdef
    have E : Hid (St.readSnap d i = none) := Lib.hid Hdef.out
    replace HH : Hid (∀ W2, Calls Tryz.prog 227 #[.string tx] W2 fun e w' => e = .returned (.tuple #[.agg (snC St.zs), .bool false]) ∧ Below W2.heap.size W2 w') := HH
    clear h2
    obtain ⟨Z, hZ⟩ : ∃ Z, Z = snC St.zs := ⟨_, rfl⟩
    have HZ : Hid (Z.size = 8 ∧ Z.all (·.oneCell') = true ∧ (Tryz.prog.info? 55).map (·.size) = some Z.size) := Lib.hid (by rw [hZ]; exact ⟨rfl, snC_one _, sizeSnap⟩)
    rw [← hZ] at HH
    clear hZ
    go_enter Tryz.func182, Tryz.ntmps182
    go_upto_region 1 with (fail)
    refine forget (fun W1 => Rw W1 W.heap.size zl 55 ∧ Bl W W1 ∧ W.heap.size ≤ W.heap.size) ⟨Rw.new W _ _, (Bl.refl W).alloc _, Nat.le_refl _⟩ ?_
    intro W1 H1
    obtain ⟨gr, hgr⟩ : ∃ gr, gr = W.heap.size := ⟨_, rfl⟩
    have hgr2 : W.heap.size ≤ gr := by omega
    rw [← hgr] at H1 ⊢
    clear hgr
    have HI := Lib.hid H1
    clear H1
    go_wp2_with fail
    refine (HSn.out _ HI.out.2.1.bel).mono ?_
    rintro e1 w1 ⟨rfl, hb1⟩
    have H2 := Lib.hid (And.intro (HI.out.1.bel hb1) (HI.out.2.1.next hb1))
    clear hb1
    go_wp2_with fail
    refine (HRd2.out _ H2.out.2.bel).mono ?_
    rintro e1 w2 ⟨rfl, hb2⟩
    have H3 := Lib.hid (And.intro (H2.out.1.bel hb2) (H2.out.2.next hb2))
    clear hb2
    go_wp2_with fail
    refine (HRow.out _ H3.out.2.bel).mono ?_
    rintro e1 w3 ⟨rfl, hb3⟩
    have H4 := Lib.hid (And.intro (H3.out.1.bel hb3) (H3.out.2.next hb3))
    clear hb3
    go_wp2_with fail
    refine (HH.out _).mono ?_
    rintro e1 w4 ⟨rfl, hb4⟩
    have H5 := Lib.hid (And.intro (H4.out.1.bel hb4) (H4.out.2.next hb4))
    clear hb4
    have HN : Hid (Rw (w4.alloc (.cells zl 55)) w4.heap.size zl 55) := Lib.hid (Rw.new w4 _ _)
    have HX : Hid (Rw ((w4.alloc (.cells zl 55)).setCells w4.heap.size 0 Z.toList) gr zl 55 ∧ Bl W ((w4.alloc (.cells zl 55)).setCells w4.heap.size 0 Z.toList)) := Lib.hid ⟨(H5.out.1.alloc _).oputs (by have := H5.out.1.lt; omega) _ _, (H5.out.2.alloc _).puts H5.out.2.le _ _⟩
    go_wp2_with (first
      | (refine wpList_store_sub rfl 55 _ _ rfl w4.heap.size 0 rfl 55 zl Z rfl HN.out (by rw [HZ.out.1]; exact Nat.le_refl 8) HZ.out.2.2 HZ.out.2.1 ?_)
      | (refine wpList_store_sub rfl 55 _ _ rfl gr 0 rfl 55 zl zl rfl HX.out.1 (Nat.le_refl 8) sizeSnap zl_one ?_))
    refine bodyPost_ret (results_ct (P := Tryz.prog) (fn := Tryz.f182) rfl _ _ gr 55 (snC St.zs) (0, 0) _ rfl (HX.out.1.over rfl) Tryz.underlying55 rfl sizeSnap) rfl ?_
    exact ⟨by rw [E.out]; rfl, HX.out.2.puts hgr2 _ _⟩
  rw [h2] at HH Hdef
  have Hdef2 : Hid (St.readSnap d i = St.fins i a b c (Wl.rows r)) := Lib.hid Hdef.out
  clear Hdef
  have hab := h2
  replace HH : Hid (∀ W2, Calls Tryz.prog 227 #[.string tx] W2 fun e w' => e = .returned (.tuple #[.agg (snC ⟨a, b, c, St.zs.sec⟩), .bool true]) ∧ Below W2.heap.size W2 w') := HH
  obtain ⟨Z, hZ⟩ : ∃ Z, Z = snC ⟨a, b, c, St.zs.sec⟩ := ⟨_, rfl⟩
  have HZ : Hid (Z.size = 8 ∧ Z.all (·.oneCell') = true ∧ (Tryz.prog.info? 55).map (·.size) = some Z.size ∧ Z[0]? = some (.int .u64 (a : Int))) := Lib.hid (by rw [hZ]; exact ⟨rfl, snC_one _, sizeSnap, rfl⟩)
  rw [← hZ] at HH
  have HZe := Lib.hid hZ
  clear hZ h2 hab
  by_cases hai : a = i
  case neg =>
    have E : Hid (St.readSnap d i = none) := Lib.hid (by rw [Hdef2.out]; unfold St.fins; rw [if_neg fun h => hai h.1])
    have v1 : ((a : Int) != (i : Int)) = true := by simp; omega
    have v2 : ((a : Int) = (i : Int)) = False := by simp; omega
    clear hai
    go_enter Tryz.func182, Tryz.ntmps182
    go_upto_region 1 with (fail)
    refine forget (fun W1 => Rw W1 W.heap.size zl 55 ∧ Bl W W1 ∧ W.heap.size ≤ W.heap.size) ⟨Rw.new W _ _, (Bl.refl W).alloc _, Nat.le_refl _⟩ ?_
    intro W1 H1
    obtain ⟨gr, hgr⟩ : ∃ gr, gr = W.heap.size := ⟨_, rfl⟩
    have hgr2 : W.heap.size ≤ gr := by omega
    rw [← hgr] at H1 ⊢
    clear hgr
    have HI := Lib.hid H1
    clear H1
    go_wp2_with fail
    refine (HSn.out _ HI.out.2.1.bel).mono ?_
    rintro e1 w1 ⟨rfl, hb1⟩
    have H2 := Lib.hid (And.intro (HI.out.1.bel hb1) (HI.out.2.1.next hb1))
    clear hb1
    go_wp2_with fail
    refine (HRd2.out _ H2.out.2.bel).mono ?_
    rintro e1 w2 ⟨rfl, hb2⟩
    have H3 := Lib.hid (And.intro (H2.out.1.bel hb2) (H2.out.2.next hb2))
    clear hb2
    go_wp2_with fail
    refine (HRow.out _ H3.out.2.bel).mono ?_
    rintro e1 w3 ⟨rfl, hb3⟩
    have H4 := Lib.hid (And.intro (H3.out.1.bel hb3) (H3.out.2.next hb3))
    clear hb3
    go_wp2_with fail
    refine (HH.out _).mono ?_
    rintro e1 w4 ⟨rfl, hb4⟩
    have H5 := Lib.hid (And.intro (H4.out.1.bel hb4) (H4.out.2.next hb4))
    clear hb4
    have HN : Hid (Rw (w4.alloc (.cells zl 55)) w4.heap.size zl 55) := Lib.hid (Rw.new w4 _ _)
    go_upto_region 10 with (refine wpList_store_sub rfl 55 _ _ rfl w4.heap.size 0 rfl 55 zl Z rfl HN.out (by rw [HZ.out.1]; exact Nat.le_refl 8) HZ.out.2.2.1 HZ.out.2.1 ?_)
    refine forget (fun W5 => Rw W5 gr zl 55 ∧ Rw W5 w4.heap.size Z 55 ∧ Bl W W5) ⟨(H5.out.1.alloc _).oputs (by have := H5.out.1.lt; omega) _ _, HN.out.over (by rw [HZ.out.1]; rfl), (H5.out.2.alloc _).puts H5.out.2.le _ _⟩ ?_
    intro W5 H6
    obtain ⟨gb, hgb⟩ : ∃ gb, gb = w4.heap.size := ⟨_, rfl⟩
    have hgb2 : gr < gb := by rw [hgb]; exact H5.out.1.lt
    rw [← hgb] at H6 ⊢
    have c0 := H6.2.1.cell 0 HZ.out.2.2.2
    have HX : Hid (Rw W5 gr zl 55 ∧ Bl W W5) := Lib.hid ⟨H6.1, H6.2.2⟩
    clear H6 HN hgb
    go_wp2_with (refine wpList_store_sub rfl 55 _ _ rfl gr 0 rfl 55 zl zl rfl HX.out.1 (Nat.le_refl 8) sizeSnap zl_one ?_)
    refine bodyPost_ret (results_ct (P := Tryz.prog) (fn := Tryz.f182) rfl _ _ gr 55 (snC St.zs) (0, 0) _ rfl (HX.out.1.over rfl) Tryz.underlying55 rfl sizeSnap) rfl ?_
    exact ⟨by rw [E.out]; rfl, HX.out.2.puts hgr2 _ _⟩
  have v1 : ((a : Int) != (i : Int)) = false := by simp; omega
  have v2 : ((a : Int) = (i : Int)) = True := by simp; omega
  have Hai := Lib.hid hai
  clear hai
  go_enter Tryz.func182, Tryz.ntmps182
  go_upto_region 1 with (fail)
  refine forget (fun W1 => Rw W1 W.heap.size zl 55 ∧ Bl W W1 ∧ W.heap.size ≤ W.heap.size) ⟨Rw.new W _ _, (Bl.refl W).alloc _, Nat.le_refl _⟩ ?_
  intro W1 H1
  obtain ⟨gr, hgr⟩ : ∃ gr, gr = W.heap.size := ⟨_, rfl⟩
  have hgr2 : W.heap.size ≤ gr := by omega
  rw [← hgr] at H1 ⊢
  clear hgr
  have HI := Lib.hid H1
  clear H1
  go_wp2_with fail
  refine (HSn.out _ HI.out.2.1.bel).mono ?_
  rintro e1 w1 ⟨rfl, hb1⟩
  have H2 := Lib.hid (And.intro (HI.out.1.bel hb1) (HI.out.2.1.next hb1))
  clear hb1
  go_wp2_with fail
  refine (HRd2.out _ H2.out.2.bel).mono ?_
  rintro e1 w2 ⟨rfl, hb2⟩
  have H3 := Lib.hid (And.intro (H2.out.1.bel hb2) (H2.out.2.next hb2))
  clear hb2
  go_wp2_with fail
  refine (HRow.out _ H3.out.2.bel).mono ?_
  rintro e1 w3 ⟨rfl, hb3⟩
  have H4 := Lib.hid (And.intro (H3.out.1.bel hb3) (H3.out.2.next hb3))
  clear hb3
  go_wp2_with fail
  refine (HH.out _).mono ?_
  rintro e1 w4 ⟨rfl, hb4⟩
  have H5 := Lib.hid (And.intro (H4.out.1.bel hb4) (H4.out.2.next hb4))
  clear hb4
  have HN : Hid (Rw (w4.alloc (.cells zl 55)) w4.heap.size zl 55) := Lib.hid (Rw.new w4 _ _)
  go_upto_region 10 with (refine wpList_store_sub rfl 55 _ _ rfl w4.heap.size 0 rfl 55 zl Z rfl HN.out (by rw [HZ.out.1]; exact Nat.le_refl 8) HZ.out.2.2.1 HZ.out.2.1 ?_)
  refine forget (fun W5 => Rw W5 gr zl 55 ∧ Rw W5 w4.heap.size Z 55 ∧ Bl W W5) ⟨(H5.out.1.alloc _).oputs (by have := H5.out.1.lt; omega) _ _, HN.out.over (by rw [HZ.out.1]; rfl), (H5.out.2.alloc _).puts H5.out.2.le _ _⟩ ?_
  intro W5 H6
  obtain ⟨gb, hgb⟩ : ∃ gb, gb = w4.heap.size := ⟨_, rfl⟩
  have hgb2 : gr < gb := by rw [hgb]; exact H5.out.1.lt
  rw [← hgb] at H6 ⊢
  have c0 := H6.2.1.cell 0 HZ.out.2.2.2
  clear hgb
  go_upto_region 13 with (fail)
  rw [HZe.out] at H6
  have H7 := Lib.hid H6
  clear H6 c0 HN H5 H4 H3 H2 HI HH HRow HRd2
  go_loopw [8, 11, 52] (fun u v z wr => ∃ (k : Nat) (L : List ByteArray) (x : ByteArray) (m : Nat), k ≤ 5 ∧ u = .string x ∧ v = .int .i64 (m : Int) ∧ z = .int .i64 (k : Int) ∧ x.size ≤ 100000000 ∧ m ≤ x.size ∧ L.length = 5 ∧ Wl.rows r = (L.take k).map (·.data.toList) ++ Wl.rows (x.extract m x.size).data.toList ∧ Rw wr gr zl 55 ∧ Rw wr gb (snC ⟨a, b, c, L⟩) 55 ∧ Bl W wr) (fun _ _ z _ => 5 - (intOf z).toNat)
  case atStart => exact ⟨0, St.zs.sec, sb, m0, by omega, rfl, rfl, rfl, hsz, Hme.out.1, rfl, by rw [Hme.out.2, Wl.ba_data]; rfl, H7.out.1, H7.out.2.1, H7.out.2.2⟩
  case round =>
    obtain ⟨k, L, x, m, hk, rfl, rfl, rfl, hx, hm, hL, hR, h1, h2, h3⟩ := hrel
    have HJ := Lib.hid (And.intro h1 (And.intro h2 h3))
    have HLL := Lib.hid hL
    clear h1 h2 h3 hL
    by_cases hlt : k < 5
    · obtain ⟨y, hy⟩ : ∃ y, y = x.extract m x.size := ⟨_, rfl⟩
      have hyz : y.size ≤ 100000000 := by rw [hy]; exact rows_len_le m hx
      have HRy := Lib.hid (readRow_any wr g o y (HTb.out wr HJ.out.2.2.bel) hyz)
      have hmx : (m : Int) ≤ (x.size : Int) := by omega
      have q1 : (k : Int) < 5 := by omega
      rw [← hy] at hR
      have Hy := Lib.hid hy
      clear hy
      rcases h1 : Wl.row1 y.data.toList with _ | ⟨t1, r1⟩
      · have E : Hid (St.readSnap d i = none) := Lib.hid (by
          rw [Hdef2.out, hR, Wl.rows_none h1, List.append_nil]
          unfold St.fins
          rw [if_neg]
          rintro ⟨_, h5⟩
          rw [List.length_map, List.length_take] at h5
          omega)
        rw [h1] at HRy
        unfold RowV at HRy
        have ck := HJ.out.2.1.cell (3 + k) (snC_at _ k hlt)
        have fk := HJ.out.2.1.free (3 + k)
        clear h1 hR hm
        go_wp2_with fail
        rw [← Hy.out]
        refine HRy.out.mono ?_
        rintro e1 w6 ⟨rfl, hb6⟩
        have ck6 := later hb6 ck
        have fk6 := (HJ.out.2.1.bel hb6).free (3 + k)
        have HX : Hid (Rw (w6.setCell ⟨gb, 3 + k, none⟩ (.string ⟨#[]⟩)) gr zl 55 ∧ Bl W (w6.setCell ⟨gb, 3 + k, none⟩ (.string ⟨#[]⟩))) := Lib.hid ⟨(HJ.out.1.bel hb6).oput (by omega) _ _, (HJ.out.2.2.next hb6).put (by omega) _ _⟩
        clear hb6 ck fk
        go_wp2_with (refine wpList_store_sub rfl 55 _ _ rfl gr 0 rfl 55 zl zl rfl HX.out.1 (Nat.le_refl 8) sizeSnap zl_one ?_)
        refine bodyPost_ret (results_ct (P := Tryz.prog) (fn := Tryz.f182) rfl _ _ gr 55 (snC St.zs) (0, 0) _ rfl (HX.out.1.over rfl) Tryz.underlying55 rfl sizeSnap) rfl ?_
        exact ⟨by rw [E.out]; rfl, HX.out.2.puts hgr2 _ _⟩
      · obtain ⟨hml, hme⟩ := row1_drop h1
        have hrws : Wl.rows y.data.toList = t1 :: Wl.rows r1 := by
          obtain ⟨h2, h3⟩ := (Wl.row1_iff _ _ _).1 h1
          rw [h3, Wl.rows_cons h2]
        rw [h1] at HRy
        unfold RowV at HRy
        obtain ⟨tx1, htx1⟩ : ∃ tx1, tx1 = Wl.ba t1 := ⟨_, rfl⟩
        have htd1 : tx1.data.toList = t1 := by rw [htx1, Wl.ba_data]
        obtain ⟨m1, hm1⟩ : ∃ m1, m1 = (Wl.row t1).length := ⟨_, rfl⟩
        rw [← hm1] at hml hme
        simp only [← htx1, ← hm1] at HRy
        have HF : Hid (m1 ≤ y.size ∧ Wl.rows r = ((L.set k tx1).take (k + 1)).map (·.data.toList) ++ Wl.rows (y.extract m1 y.size).data.toList) := Lib.hid ⟨hml, by rw [hR, hrws, hme, Wl.ba_data, take_set_succ L k tx1 (by rw [HLL.out]; exact hlt), List.map_append, List.append_assoc]; simp only [List.map_cons, List.map_nil, htd1, List.singleton_append]⟩
        have ck := HJ.out.2.1.cell (3 + k) (snC_at _ k hlt)
        clear h1 hR hm hml hme hrws htx1 htd1 hm1
        go_wp2_with fail
        rw [← Hy.out]
        refine HRy.out.mono ?_
        rintro e1 w6 ⟨rfl, hb6⟩
        have ck6 := later hb6 ck
        have fk6 := (HJ.out.2.1.bel hb6).free (3 + k)
        have HX : Hid (Rw (w6.setCell ⟨gb, 3 + k, none⟩ (.string tx1)) gr zl 55 ∧ Rw (w6.setCell ⟨gb, 3 + k, none⟩ (.string tx1)) gb (snC ⟨a, b, c, L.set k tx1⟩) 55 ∧ Bl W (w6.setCell ⟨gb, 3 + k, none⟩ (.string tx1))) := Lib.hid ⟨(HJ.out.1.bel hb6).oput (by omega) _ _, by
          have := (HJ.out.2.1.bel hb6).put (3 + k) (.string tx1)
          rwa [snC_set a b c L HLL.out k hlt tx1] at this, (HJ.out.2.2.next hb6).put (by omega) _ _⟩
        clear hb6 ck
        go_wp2_with fail
        go_roundw
        case rel => exact ⟨k + 1, L.set k tx1, y, m1, by omega, rfl, rfl, by go_num, hyz, HF.out.1, by rw [List.length_set]; exact HLL.out, HF.out.2, HX.out.1, HX.out.2.1, HX.out.2.2⟩
        case measure => simp [intOf]; omega
    · obtain rfl : k = 5 := by omega
      have E : Hid (St.readSnap d i = some ⟨a, b, c, L⟩) := Lib.hid (by
        rw [Hdef2.out, hR]
        unfold St.fins
        have h5 : (L.take 5).length = 5 := by rw [List.length_take, HLL.out]; rfl
        rw [if_pos ⟨Hai.out, by rw [List.length_append, List.length_map, h5]; omega⟩, List.take_append_of_le_length (by rw [List.length_map, h5]; exact Nat.le_refl _), List.take_of_length_le (by rw [List.length_map, h5]; exact Nat.le_refl _), List.map_map, List.take_of_length_le (by rw [HLL.out]; exact Nat.le_refl _)]
        have : (Wl.ba ∘ fun x : ByteArray => x.data.toList) = id := funext fun x => St.ba_of x
        rw [this, List.map_id])
      obtain ⟨Y, hY⟩ : ∃ Y, Y = snC ⟨a, b, c, L⟩ := ⟨_, rfl⟩
      have HY : Hid (Y.size = 8 ∧ Y.all (·.oneCell') = true ∧ (Tryz.prog.info? 55).map (·.size) = some Y.size) := Lib.hid (by rw [hY]; exact ⟨rfl, snC_one _, sizeSnap⟩)
      rw [← hY] at HJ
      have HYe := Lib.hid hY
      clear hR hY hx hm
      go_wp2_with (first
        | (refine wpList_load_sub rfl 55 _ rfl gb 0 rfl 55 Y Y (0, 0) _ HJ.out.2.1 (fun j hj => by rw [Nat.zero_add]) Tryz.underlying55 rfl HY.out.2.2 ?_)
        | (refine wpList_store_sub rfl 55 _ _ rfl gr 0 rfl 55 zl Y rfl HJ.out.1 (by rw [HY.out.1]; exact Nat.le_refl 8) HY.out.2.2 HY.out.2.1 ?_))
      refine bodyPost_ret (results_ct (P := Tryz.prog) (fn := Tryz.f182) rfl _ _ gr 55 Y (0, 0) _ rfl (HJ.out.1.over (by rw [HY.out.1]; rfl)) Tryz.underlying55 rfl HY.out.2.2) rfl ?_
      exact ⟨by rw [E.out, HYe.out]; rfl, HJ.out.2.2.puts hgr2 _ _⟩
end
end Go.Proofs.YtjhbpcecdhdnoaaGreatDoor
