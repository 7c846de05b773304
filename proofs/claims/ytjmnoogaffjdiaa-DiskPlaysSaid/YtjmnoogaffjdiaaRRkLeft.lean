/-
  The document's disk: Left walked. WRITTEN BY wip/tools/gen_rkleft.py.
-/
import Derived.Test.YtjmnoogaffjdiaaRRkPut
import Derived.Test.YtjmnoogaffjdiaaRDkMore
import Derived.Test.YtjmnoogaffjdiaaRDkSame
import Derived.IntWalk
import Derived.Deep.DeepCutAuto
import Derived.Deep.CutBlock
set_option linter.unusedSimpArgs false
set_option linter.unusedVariables false
namespace Go.Proofs.Ytjmnoogaffjdiaa
open Go.RowKit
/-- A beginning of a slice of strings, appended to an empty one of one's own. -/
theorem kept_val {f : Dk.Fl} {ks : List Int} {k m : Nat} (h : m = min (f.syn + (ks.getD k 0).toNat) f.recs.length) : m = Dk.kept f ks k := h
structure LeftEnd (W Wz : World) (nm : ByteArray) (ra : Option Addr) (rs : List ByteArray) (rc sy : Nat) (ct : Bool) (tn : ByteArray) : Prop where
  b : Below W.heap.size W Wz
  r : Wz.heap[W.heap.size]? = some (.cells #[.string nm, .slice ra rs.length rc, .int .i64 (sy : Int), .bool ct, .string tn] 65 (0, 0))
  z : Wz.heap[W.heap.size + 2]? = some (.cells #[.string ⟨#[]⟩, .slice none 0 0, .int .i64 0, .bool false, .string ⟨#[]⟩] 65 (0, 0))
theorem LeftEnd.drew {W Wz : World} {nm : ByteArray} {ra : Option Addr} {rs : List ByteArray} {rc sy : Nat} {ct : Bool} {tn : ByteArray} (h : LeftEnd W Wz nm ra rs rc sy ct tn) (n : Nat) : LeftEnd W (Wz.drewN n) nm ra rs rc sy ct tn := by
  have hb := below_drewN (Below.refl Wz.heap.size Wz) n
  exact ⟨bnext h.b hb, (hb.block _ (Array.getElem?_eq_some_iff.1 h.r).1).trans h.r, (hb.block _ (Array.getElem?_eq_some_iff.1 h.z).1).trans h.z⟩
theorem LeftEnd.set {W Wz : World} {nm : ByteArray} {ra : Option Addr} {rs : List ByteArray} {rc sy : Nat} {ct : Bool} {tn : ByteArray} (h : LeftEnd W Wz nm ra rs rc sy ct tn) (i : Nat) (v : Value) (ct' : Bool) (tn' : ByteArray)
    (he : (#[.string nm, .slice ra rs.length rc, .int .i64 (sy : Int), .bool ct, .string tn] : Array Value).setIfInBounds i v = #[.string nm, .slice ra rs.length rc, .int .i64 (sy : Int), .bool ct', .string tn']) : LeftEnd W (Wz.setCell ⟨W.heap.size, i, none⟩ v) nm ra rs rc sy ct' tn' :=
  ⟨h.b.setCell (p := ⟨W.heap.size, i, none⟩) (Nat.le_refl _) v, (heap_setCell_same Wz _ i _ _ v h.r).trans (by rw [he]), (Below.heap_setCell _ _ _ _ (by simp)).trans h.z⟩
/-- What is left answers a file. -/
def RetLeft (x : Fx) (ks ts : List Int) (k : Nat) (W : World) (e : Ending) (w' : World) : Prop :=
  ∃ ra' rc', e = .returned (.agg (flC ⟨Dk.leave x.f ks ts k, ra', rc'⟩)) ∧ Lies w' ra' (sc (Dk.leave x.f ks ts k).recs) ∧ Below W.heap.size W w' ∧ (∀ b o, (Dk.leave x.f ks ts k).recs ≠ [] → ra' = some ⟨b, o, none⟩ → W.heap.size ≤ b) ∧ (Dk.leave x.f ks ts k).recs.length ≤ rc'

theorem LeftEnd.below {W Wz Wy : World} {nm : ByteArray} {ra : Option Addr} {rs : List ByteArray} {rc sy : Nat} {ct : Bool} {tn : ByteArray} (h : LeftEnd W Wz nm ra rs rc sy ct tn) (hb : Below Wz.heap.size Wz Wy) : LeftEnd W Wy nm ra rs rc sy ct tn :=
  ⟨bnext h.b hb, (hb.block _ (Array.getElem?_eq_some_iff.1 h.r).1).trans h.r, (hb.block _ (Array.getElem?_eq_some_iff.1 h.z).1).trans h.z⟩
def leftW (W w2 : World) (A' : Option Addr) (m c' : Nat) : World := (w2.setCell ⟨W.heap.size, 1, none⟩ (.slice A' m c')).setCell ⟨W.heap.size, 2, none⟩ (.int .i64 (m : Int))
theorem left_fin {W w2 : World} {base : Nat} {nm : ByteArray} {ra : Option Addr} {rs : List ByteArray} {rc sy : Nat} {ct : Bool} {tn : ByteArray} {A' : Option Addr} {m c' : Nat} (hl : LeftEnd W w2 nm ra rs rc sy ct tn)
    (ho : w2.ownsRow base 9 1 (.slice A' m c') m (sc (rs.take m))) (hm : m ≤ rs.length) (hbase : W.heap.size + 2 < base) (hA : ∀ b off, A' = some ⟨b, off, none⟩ → base ≤ b) :
    (leftW W w2 A' m c').heap[W.heap.size]? = some (.cells (flC ⟨⟨nm, rs.take m, m, ct, tn⟩, A', c'⟩) 65 (0, 0)) ∧
    (leftW W w2 A' m c').heap[W.heap.size + 1 + 1]? = some (.cells #[.string ⟨#[]⟩, .slice none 0 0, .int .i64 0, .bool false, .string ⟨#[]⟩] 65 (0, 0)) ∧
    ((leftW W w2 A' m c').setCells (W.heap.size + 1 + 1) 0 (flC ⟨⟨nm, rs.take m, m, ct, tn⟩, A', c'⟩).toList).heap[W.heap.size + 1 + 1]? = some (.cells (flC ⟨⟨nm, rs.take m, m, ct, tn⟩, A', c'⟩) 65 (0, 0)) ∧
    Lies ((leftW W w2 A' m c').setCells (W.heap.size + 1 + 1) 0 (flC ⟨⟨nm, rs.take m, m, ct, tn⟩, A', c'⟩).toList) A' (sc (rs.take m)) ∧
    Below W.heap.size W ((leftW W w2 A' m c').setCells (W.heap.size + 1 + 1) 0 (flC ⟨⟨nm, rs.take m, m, ct, tn⟩, A', c'⟩).toList) := by
  have hlen : (rs.take m).length = m := by rw [List.length_take]; omega
  have h1 : (leftW W w2 A' m c').heap[W.heap.size]? = some (.cells (flC ⟨⟨nm, rs.take m, m, ct, tn⟩, A', c'⟩) 65 (0, 0)) := by
    have h := heap_setCell_same _ W.heap.size 2 _ _ (.int .i64 (m : Int)) (heap_setCell_same w2 W.heap.size 1 _ _ (.slice A' m c') hl.r)
    refine h.trans ?_
    simp [flC, hlen]
  have h2 : (leftW W w2 A' m c').heap[W.heap.size + 1 + 1]? = some (.cells #[.string ⟨#[]⟩, .slice none 0 0, .int .i64 0, .bool false, .string ⟨#[]⟩] 65 (0, 0)) :=
    (Below.heap_setCell _ _ _ _ (by simp; omega)).trans ((Below.heap_setCell _ _ _ _ (by simp; omega)).trans hl.z)
  refine ⟨h1, h2, (row_setCells _ 0 _ _ h2).trans (by simp [lay, flC]), ?_, ?_⟩
  · refine (lies_own ho).ko (S := fun k => k = W.heap.size ∨ k = W.heap.size + 1 + 1) (fun b off _ he hs => ?_) ⟨?_, ?_, ?_, ?_, ?_⟩
    · have := hA b off he
      rcases hs with hs | hs <;> omega
    · exact (setCells_below (Nat.zero_le _) _ _ _ (Below.refl 0 (leftW W w2 A' m c'))).os
    · exact (setCells_below (Nat.zero_le _) _ _ _ (Below.refl 0 (leftW W w2 A' m c'))).tape
    · exact (setCells_below (Nat.zero_le _) _ _ _ (Below.refl 0 (leftW W w2 A' m c'))).output
    · have := (setCells_below (g := W.heap.size + 1 + 1) (Nat.zero_le _) (flC ⟨⟨nm, rs.take m, m, ct, tn⟩, A', c'⟩).toList 0 _ (Below.refl 0 (leftW W w2 A' m c'))).size
      simpa [leftW] using this
    · intro k _ hn
      have hn1 : k ≠ W.heap.size := fun h => hn (.inl h)
      have hn2 : k ≠ W.heap.size + 1 + 1 := fun h => hn (.inr h)
      exact (setCells_other hn2 _ _ _).trans ((Below.heap_setCell _ _ _ _ hn1).trans (Below.heap_setCell _ _ _ _ hn1))
  · exact setCells_below (by omega) _ _ _ ((hl.b.setCell (p := ⟨W.heap.size, 1, none⟩) (Nat.le_refl _) _).setCell (p := ⟨W.heap.size, 2, none⟩) (Nat.le_refl _) _)
set_option maxRecDepth 100000 in
set_option maxHeartbeats 16000000 in
theorem left_any (W : World) (x : Fx) (hx : Lies W x.ra (sc x.f.recs)) (hxc : x.f.recs.length ≤ x.rc) (ho : Dk.Okf x.f) (hz : Dk.flLoad x.f ≤ 100000000) (hs : x.f.syn < x.f.recs.length) (ks ts : List Int) (KA TA : Option Addr) (kc tc : Nat) (gc : GivenC W ks ts KA TA) (k : Nat) (hk : k ≤ 100000000) :
    Calls Try.prog 58 #[.agg (flC x), .agg #[.slice KA ks.length kc, .slice TA ts.length tc], .int .i64 (k : Int)] W (RetLeft x ks ts k W) := by
  have hlen : x.f.recs.length ≤ 100000000 := by unfold Dk.flLoad at hz; omega
  have HSz : Hid (∀ m, (hm : m < x.f.recs.length) → x.f.recs[m].size ≠ 0 ∧ x.f.recs[m].size ≤ 100000000) := Lib.hid fun m hm => ⟨ho.recs _ (List.getElem_mem hm), by
    have h1 := Dk.sz_mem (List.getElem_mem hm)
    unfold Dk.flLoad at hz; omega⟩
  obtain ⟨⟨nm, rs, sy, ct, tn⟩, ra, rc⟩ := x
  simp only at hx hxc hs hlen HSz
  -- where it comes to, by how many are kept
  have HKp : Hid (∀ m ct' tn', m = min (sy + (ks.getD k 0).toNat) rs.length → ct' = (ct || decide (m < rs.length)) → tn' = (if m < rs.length ∧ k < ts.length then (rs.getD m Dk.e0).extract 0 (ts.getD k 0 % ((rs.getD m Dk.e0).size : Int)).toNat else tn) → Dk.leave ⟨nm, rs, sy, ct, tn⟩ ks ts k = ⟨nm, rs.take m, m, ct', tn'⟩) := Lib.hid fun m ct' tn' h1 h2 h3 => by
    subst h1 h2 h3; rfl
  have HX := Lib.hid hx
  have HK := Lib.hid gc.kl
  have HT := Lib.hid gc.tl
  have hkm := gc.km
  have htm := gc.tm
  unfold maxLen at hkm htm
  have HTn : Hid (∀ n ∈ ts, -9223372036854775808 ≤ n ∧ n ≤ 9223372036854775807) := Lib.hid gc.tn
  have HKn : Hid (∀ n ∈ ks, -9223372036854775808 ≤ n ∧ n ≤ 9223372036854775807) := Lib.hid gc.kn
  obtain ⟨i0, hi, hz0, hz1, hz2⟩ := info_parts infoStr
  have HI := Lib.hid (And.intro hi (And.intro hz0 (And.intro hz1 hz2)))
  have H0 : Hid (LeftEnd W (((W.alloc (.cells #[.string nm, .slice ra rs.length rc, .int .i64 (sy : Int), .bool ct, .string tn] 65)).alloc (.cells #[.slice KA ks.length kc, .slice TA ts.length tc] 36)).alloc (.cells #[.string ⟨#[]⟩, .slice none 0 0, .int .i64 0, .bool false, .string ⟨#[]⟩] 65)) nm ra rs rc sy ct tn ∧ (((W.alloc (.cells #[.string nm, .slice ra rs.length rc, .int .i64 (sy : Int), .bool ct, .string tn] 65)).alloc (.cells #[.slice KA ks.length kc, .slice TA ts.length tc] 36)).alloc (.cells #[.string ⟨#[]⟩, .slice none 0 0, .int .i64 0, .bool false, .string ⟨#[]⟩] 65)).heap[W.heap.size + 1]? = some (.cells #[.slice KA ks.length kc, .slice TA ts.length tc] 36 (0, 0))) := Lib.hid (by
    refine ⟨⟨bnew (bnew (bnew (Below.refl _ _) _) _) _, ?_, ?_⟩, ?_⟩
    · exact (Below.heap_alloc _ _ _ (by simp; omega)).trans ((Below.heap_alloc _ _ _ (by simp)).trans (heap_alloc_new W _))
    · have := heap_alloc_new ((W.alloc (.cells #[.string nm, .slice ra rs.length rc, .int .i64 (sy : Int), .bool ct, .string tn] 65)).alloc (.cells #[.slice KA ks.length kc, .slice TA ts.length tc] 36)) (.cells #[.string ⟨#[]⟩, .slice none 0 0, .int .i64 0, .bool false, .string ⟨#[]⟩] 65)
      simp only [World.size_alloc] at this
      exact this
    · have := heap_alloc_new (W.alloc (.cells #[.string nm, .slice ra rs.length rc, .int .i64 (sy : Int), .bool ct, .string tn] 65)) (.cells #[.slice KA ks.length kc, .slice TA ts.length tc] 36)
      simp only [World.size_alloc] at this
      exact (Below.heap_alloc _ _ _ (by simp)).trans this)
  unfold flC
  simp only
  clear hx ho hz gc hi hz0 hz1 hz2
  by_cases hkl : k < ks.length
  case neg =>
    have p1 : decide (k < ks.length) = false := by simpa using hkl
    have HKept : Hid (sy = min (sy + (ks.getD k 0).toNat) rs.length) := Lib.hid (by rw [List.getD_eq_getElem?_getD, List.getElem?_eq_none (by omega)]; simp; omega)
    have hml : sy < rs.length := hs
    go_enter Try.func58, Try.ntmps58
    go_upto_region 6 with (fail)
    refine forget (fun Wz => LeftEnd W Wz nm ra rs rc sy ct tn ∧ Wz.heap[W.heap.size + 1]? = some (.cells #[.slice KA ks.length kc, .slice TA ts.length tc] 36 (0, 0))) H0.out ?_
    intro Wz hz
    have c0 := cell_of_row Wz W.heap.size 0 _ _ _ hz.1.r
    have c1 := cell_of_row Wz W.heap.size 1 _ _ _ hz.1.r
    have c2 := cell_of_row Wz W.heap.size 2 _ _ _ hz.1.r
    have c3 := cell_of_row Wz W.heap.size 3 _ _ _ hz.1.r
    have c4 := cell_of_row Wz W.heap.size 4 _ _ _ hz.1.r
    have k0 := cell_of_row Wz (W.heap.size + 1) 0 _ _ _ hz.2
    have k1 := cell_of_row Wz (W.heap.size + 1) 1 _ _ _ hz.2
    have f3 := frozen_of_row Wz W.heap.size 3 _ _ hz.1.r
    have f4 := frozen_of_row Wz W.heap.size 4 _ _ hz.1.r
    have Hz := Lib.hid hz
    clear hz
    
    have q1 : decide (sy < rs.length) = true := by simpa using hml
    by_cases ht : k < ts.length
    case neg =>
      have q2 : decide (k < ts.length) = false := by simpa using ht
      go_upto_region 14 with (fail)
      refine forget (fun Wy => LeftEnd W Wy nm ra rs rc sy true tn) (Hz.out.1.set 3 (.bool true) true tn rfl) ?_
      clear c0 c1 c2 c3 c4 k0 k1 f3 f4
      intro Wy hy
      have Hy := Lib.hid hy
      obtain ⟨rb, ro, hra, hrb, hrc⟩ := HX.out.resolve_left (by intro h; have := sc_length rs; rw [h] at this; simp at this; omega)
      have hsrc : ∀ j u, (sc (rs.take sy))[j]? = some u → (Wy.alloc (.cells #[] 9)).cell? ((⟨rb, ro, none⟩ : Addr).add j) = some u := fun j u hu => by
        have e : (⟨rb, ro, none⟩ : Addr).add j = ⟨rb, ro + j, none⟩ := by unfold Addr.add; split <;> simp_all
        rw [e]
        refine ((bnew Hy.out.b _).cell (p := ⟨rb, ro + j, none⟩) hrb).trans (hrc j u ?_)
        have hj : j < (rs.take sy).length := by have := (List.getElem?_eq_some_iff.1 hu).1; rwa [sc_length] at this
        rw [← hu]; unfold sc
        rw [List.getElem?_map, List.getElem?_map, List.getElem?_take, if_pos (by rw [List.length_take] at hj; omega)]
      have hown := own_empty Wy 9
      have c1 : (Wy.alloc (.cells #[] 9)).cell? ⟨W.heap.size, 1, none⟩ = some (.slice ra rs.length rc) := ((bnew (Below.refl _ _) _).cell (p := ⟨W.heap.size, 1, none⟩) (Array.getElem?_eq_some_iff.1 hy.r).1).trans (cell_of_row Wy W.heap.size 1 _ _ _ hy.r)
      obtain ⟨hi, hz0, hz1, hz2⟩ := HI.out
      have Hsrc := Lib.hid hsrc
      have HL := Lib.hid (HKp.out sy true tn HKept.out (by simp [hml]) (by rw [if_neg (fun h => ht h.2)]))
      cases hra
      clear hy hsrc hrc
      go_upto_region 15 with (at_builtin; refine wpList_app_own rfl (.tmp 92) (.tmp 96) 52 rfl Wy.heap.size 9 i0 (.string ⟨#[]⟩) 1 16 Try.underlying52 hi hz0 hz1 hz2 rfl (by decide) _ _ _ rfl hown ⟨rb, ro, none⟩ sy rc (sc (rs.take sy)) rfl (by rw [sc_length, List.length_take]; omega) Hsrc.out (fun u hu => by obtain ⟨s, _, rfl⟩ := List.mem_map.1 hu; rfl) (by simp only [maxLen]; omega) (by omega) (by simp) ?_; intro v' w2 ho hg hn; obtain ⟨A', c', rfl, hA'⟩ := own_slice ho; have HO := Lib.hid ho; have HA := Lib.hid hA'; have HB2 : Hid (Below Wy.heap.size Wy w2) := Lib.hid ((bnew (Below.refl _ _) _).grown hg (by simp) (fun j hj => (own_lt hown hj).2)); have hl2 := Hy.out.below HB2.out; have d1 := cell_of_row w2 W.heap.size 1 _ _ _ hl2.r; have e1 := frozen_of_row w2 W.heap.size 1 _ _ hl2.r; have d2 := cell_of_row w2 W.heap.size 2 _ _ _ hl2.r; have e2 := frozen_of_row w2 W.heap.size 2 _ _ hl2.r; have Hl2 := Lib.hid hl2; clear ho hg hn hl2 hA' c1 hown)
      go_upto_region 16 with (fail)
      have hfin := left_fin (m := sy) Hl2.out (by have := HO.out; simpa using this) (by omega) (by have := (Array.getElem?_eq_some_iff.1 Hy.out.z).1; omega) (fun b off he => (HA.out b off he).1)
      have Hf := Lib.hid hfin
      have HZY := Lib.hid (sizeFl ⟨⟨nm, rs.take sy, sy, true, tn⟩, A', c'⟩)
      have HYY : Hid (∀ j, j < (flC ⟨⟨nm, rs.take sy, sy, true, tn⟩, A', c'⟩).size → (flC ⟨⟨nm, rs.take sy, sy, true, tn⟩, A', c'⟩)[0 + j]? = (flC ⟨⟨nm, rs.take sy, sy, true, tn⟩, A', c'⟩)[j]?) := Lib.hid fun j _ => by rw [Nat.zero_add]
      have HO5 := Lib.hid (flOne ⟨⟨nm, rs.take sy, sy, true, tn⟩, A', c'⟩)
      have HS5 : Hid ((flC ⟨⟨nm, rs.take sy, sy, true, tn⟩, A', c'⟩).size = 5) := Lib.hid rfl
      have HRet : Hid (flC ⟨Dk.leave ⟨nm, rs, sy, ct, tn⟩ ks ts k, A', c'⟩ = flC ⟨⟨nm, rs.take sy, sy, true, tn⟩, A', c'⟩) := Lib.hid (by rw [HL.out])
      clear hfin
      unfold leftW at Hf
      generalize flC ⟨⟨nm, rs.take sy, sy, true, tn⟩, A', c'⟩ = Y at Hf HZY HYY HO5 HS5 HRet
      go_wp2_with (first
        | (refine wpList_load_sub rfl 65 _ rfl W.heap.size 0 rfl 65 Y Y (0, 0) _ Hf.out.1 HYY.out Try.underlying65 rfl HZY.out ?_)
        | (refine wpList_store_sub rfl 65 _ _ rfl (W.heap.size + 1 + 1) 0 rfl 65 #[.string ⟨#[]⟩, .slice none 0 0, .int .i64 0, .bool false, .string ⟨#[]⟩] Y rfl Hf.out.2.1 (by rw [HS5.out]; exact Nat.le_refl _) HZY.out HO5.out ?_))
      refine bodyPost_ret (results_cell_row (P := Try.prog) (fn := Try.f58) rfl _ _ (W.heap.size + 1 + 1) 65 Y (0, 0) _ rfl Hf.out.2.2.1 Try.underlying65 rfl HZY.out) rfl ?_
      exact ⟨A', c', by rw [HRet.out], by rw [HL.out]; exact Hf.out.2.2.2.1, Hf.out.2.2.2.2, fun b off _ he => by have h1 := (HA.out b off he).1; have h2 := Hy.out.b.size; omega, by rw [HL.out]; show (rs.take sy).length ≤ c'; rw [List.length_take]; have := own_room HO.out; omega⟩
    have q2 : decide (k < ts.length) = true := by simpa using ht
    obtain ⟨tb, t0, hTA, htb, htc⟩ := ic_cell HT.out k ht
    have htc2 := (Hz.out.1.b.cell (p := ⟨tb, t0 + k, none⟩) htb).trans htc
    obtain ⟨rb0, ro0, hra0, hrb0, hrc0⟩ := HX.out.str sy hml
    have hrc2 := (Hz.out.1.b.cell (p := ⟨rb0, ro0 + sy, none⟩) hrb0).trans hrc0
    obtain ⟨hs1, hs2⟩ := HSz.out sy hml
    have hgd : rs.getD sy Dk.e0 = rs[sy] := by rw [List.getD_eq_getElem?_getD, List.getElem?_eq_getElem hml]; rfl
    obtain ⟨r, hr⟩ : ∃ r, r = rs[sy] := ⟨_, rfl⟩
    rw [← hr] at hrc2 hs1 hs2 hgd
    obtain ⟨tz, htz⟩ : ∃ z, z = ts.getD k 0 := ⟨_, rfl⟩
    rw [← htz] at htc2
    have htzb : -9223372036854775808 ≤ tz ∧ tz ≤ 9223372036854775807 := by
      rw [htz, List.getD_eq_getElem?_getD, List.getElem?_eq_getElem ht]; exact HTn.out _ (List.getElem_mem ht)
    have hem := emod_tmod tz r.size hs1
    have hbd := tmod_bounds tz r.size hs1
    have hu0 := Int.emod_nonneg tz (show (r.size : Int) ≠ 0 by omega)
    have hu1 := Int.emod_lt_of_pos tz (show (0 : Int) < (r.size : Int) by omega)
    obtain ⟨u, hu⟩ := Int.eq_ofNat_of_zero_le hu0
    have hul : u < r.size := by rw [hu] at hu1; omega
    have htn : (if sy < rs.length ∧ k < ts.length then (rs.getD sy Dk.e0).extract 0 (ts.getD k 0 % ((rs.getD sy Dk.e0).size : Int)).toNat else tn) = r.extract 0 u := by
      rw [if_pos ⟨hml, ht⟩, hgd, ← htz, hu]; simp
    have HTN := Lib.hid htn
    have hrp : (0 : Int) < (r.size : Int) := by omega
    rw [hu] at hem
    obtain ⟨z, hzz⟩ : ∃ z, z = tz.tmod (r.size : Int) := ⟨_, rfl⟩
    rw [← hzz] at hem hbd
    have hzr : tz.tmod (r.size : Int) = z := hzz.symm
    have hr0 : ((r.size : Int) == 0) = false := beq_eq_false_iff_ne.2 (by omega)
    have HML : Hid (decide (sy < rs.length) = true) := Lib.hid q1
    cases hra0
    subst hTA
    clear htc hrc0 hgd hr htz hzz hu hu0 hu1 htn
    by_cases hneg : z < 0
    case neg =>
      rw [if_neg hneg] at hem
      subst hem
      have q3 : decide ((u : Int) < 0) = false := by simp
      clear hneg
      go_upto_region 14 with (fail)
      refine forget (fun Wy => LeftEnd W Wy nm (some ⟨rb0, ro0, none⟩) rs rc sy true (r.extract 0 u)) ((Hz.out.1.set 3 (.bool true) true tn rfl).set 4 (.string (r.extract 0 u)) true (r.extract 0 u) rfl) ?_
      clear c0 c1 c2 c3 c4 k0 k1 f3 f4
      intro Wy hy
      have Hy := Lib.hid hy
      obtain ⟨rb, ro, hra, hrb, hrc⟩ := HX.out.resolve_left (by intro h; have := sc_length rs; rw [h] at this; simp at this; omega)
      have hsrc : ∀ j u, (sc (rs.take sy))[j]? = some u → (Wy.alloc (.cells #[] 9)).cell? ((⟨rb, ro, none⟩ : Addr).add j) = some u := fun j u hu => by
        have e : (⟨rb, ro, none⟩ : Addr).add j = ⟨rb, ro + j, none⟩ := by unfold Addr.add; split <;> simp_all
        rw [e]
        refine ((bnew Hy.out.b _).cell (p := ⟨rb, ro + j, none⟩) hrb).trans (hrc j u ?_)
        have hj : j < (rs.take sy).length := by have := (List.getElem?_eq_some_iff.1 hu).1; rwa [sc_length] at this
        rw [← hu]; unfold sc
        rw [List.getElem?_map, List.getElem?_map, List.getElem?_take, if_pos (by rw [List.length_take] at hj; omega)]
      have hown := own_empty Wy 9
      have c1 : (Wy.alloc (.cells #[] 9)).cell? ⟨W.heap.size, 1, none⟩ = some (.slice (some ⟨rb0, ro0, none⟩) rs.length rc) := ((bnew (Below.refl _ _) _).cell (p := ⟨W.heap.size, 1, none⟩) (Array.getElem?_eq_some_iff.1 hy.r).1).trans (cell_of_row Wy W.heap.size 1 _ _ _ hy.r)
      obtain ⟨hi, hz0, hz1, hz2⟩ := HI.out
      have Hsrc := Lib.hid hsrc
      have HL := Lib.hid (HKp.out sy true (r.extract 0 u) HKept.out (by rw [HML.out]; simp) HTN.out.symm)
      cases hra
      clear hy hsrc hrc
      go_upto_region 15 with (at_builtin; refine wpList_app_own rfl (.tmp 92) (.tmp 96) 52 rfl Wy.heap.size 9 i0 (.string ⟨#[]⟩) 1 16 Try.underlying52 hi hz0 hz1 hz2 rfl (by decide) _ _ _ rfl hown ⟨rb0, ro0, none⟩ sy rc (sc (rs.take sy)) rfl (by rw [sc_length, List.length_take]; omega) Hsrc.out (fun u hu => by obtain ⟨s, _, rfl⟩ := List.mem_map.1 hu; rfl) (by simp only [maxLen]; omega) (by omega) (by simp) ?_; intro v' w2 ho hg hn; obtain ⟨A', c', rfl, hA'⟩ := own_slice ho; have HO := Lib.hid ho; have HA := Lib.hid hA'; have HB2 : Hid (Below Wy.heap.size Wy w2) := Lib.hid ((bnew (Below.refl _ _) _).grown hg (by simp) (fun j hj => (own_lt hown hj).2)); have hl2 := Hy.out.below HB2.out; have d1 := cell_of_row w2 W.heap.size 1 _ _ _ hl2.r; have e1 := frozen_of_row w2 W.heap.size 1 _ _ hl2.r; have d2 := cell_of_row w2 W.heap.size 2 _ _ _ hl2.r; have e2 := frozen_of_row w2 W.heap.size 2 _ _ hl2.r; have Hl2 := Lib.hid hl2; clear ho hg hn hl2 hA' c1 hown)
      go_upto_region 16 with (fail)
      have hfin := left_fin (m := sy) Hl2.out (by have := HO.out; simpa using this) (by omega) (by have := (Array.getElem?_eq_some_iff.1 Hy.out.z).1; omega) (fun b off he => (HA.out b off he).1)
      have Hf := Lib.hid hfin
      have HZY := Lib.hid (sizeFl ⟨⟨nm, rs.take sy, sy, true, (r.extract 0 u)⟩, A', c'⟩)
      have HYY : Hid (∀ j, j < (flC ⟨⟨nm, rs.take sy, sy, true, (r.extract 0 u)⟩, A', c'⟩).size → (flC ⟨⟨nm, rs.take sy, sy, true, (r.extract 0 u)⟩, A', c'⟩)[0 + j]? = (flC ⟨⟨nm, rs.take sy, sy, true, (r.extract 0 u)⟩, A', c'⟩)[j]?) := Lib.hid fun j _ => by rw [Nat.zero_add]
      have HO5 := Lib.hid (flOne ⟨⟨nm, rs.take sy, sy, true, (r.extract 0 u)⟩, A', c'⟩)
      have HS5 : Hid ((flC ⟨⟨nm, rs.take sy, sy, true, (r.extract 0 u)⟩, A', c'⟩).size = 5) := Lib.hid rfl
      have HRet : Hid (flC ⟨Dk.leave ⟨nm, rs, sy, ct, tn⟩ ks ts k, A', c'⟩ = flC ⟨⟨nm, rs.take sy, sy, true, (r.extract 0 u)⟩, A', c'⟩) := Lib.hid (by rw [HL.out])
      clear hfin
      unfold leftW at Hf
      generalize flC ⟨⟨nm, rs.take sy, sy, true, (r.extract 0 u)⟩, A', c'⟩ = Y at Hf HZY HYY HO5 HS5 HRet
      go_wp2_with (first
        | (refine wpList_load_sub rfl 65 _ rfl W.heap.size 0 rfl 65 Y Y (0, 0) _ Hf.out.1 HYY.out Try.underlying65 rfl HZY.out ?_)
        | (refine wpList_store_sub rfl 65 _ _ rfl (W.heap.size + 1 + 1) 0 rfl 65 #[.string ⟨#[]⟩, .slice none 0 0, .int .i64 0, .bool false, .string ⟨#[]⟩] Y rfl Hf.out.2.1 (by rw [HS5.out]; exact Nat.le_refl _) HZY.out HO5.out ?_))
      refine bodyPost_ret (results_cell_row (P := Try.prog) (fn := Try.f58) rfl _ _ (W.heap.size + 1 + 1) 65 Y (0, 0) _ rfl Hf.out.2.2.1 Try.underlying65 rfl HZY.out) rfl ?_
      exact ⟨A', c', by rw [HRet.out], by rw [HL.out]; exact Hf.out.2.2.2.1, Hf.out.2.2.2.2, fun b off _ he => by have h1 := (HA.out b off he).1; have h2 := Hy.out.b.size; omega, by rw [HL.out]; show (rs.take sy).length ≤ c'; rw [List.length_take]; have := own_room HO.out; omega⟩
    rw [if_pos hneg] at hem
    have hsum : z + (r.size : Int) = (u : Int) := hem.symm
    have q3 : decide (z < 0) = true := by simpa using hneg
    clear hneg hem
    go_upto_region 14 with (fail)
    refine forget (fun Wy => LeftEnd W Wy nm (some ⟨rb0, ro0, none⟩) rs rc sy true (r.extract 0 u)) ((Hz.out.1.set 3 (.bool true) true tn rfl).set 4 (.string (r.extract 0 u)) true (r.extract 0 u) rfl) ?_
    clear c0 c1 c2 c3 c4 k0 k1 f3 f4
    intro Wy hy
    have Hy := Lib.hid hy
    obtain ⟨rb, ro, hra, hrb, hrc⟩ := HX.out.resolve_left (by intro h; have := sc_length rs; rw [h] at this; simp at this; omega)
    have hsrc : ∀ j u, (sc (rs.take sy))[j]? = some u → (Wy.alloc (.cells #[] 9)).cell? ((⟨rb, ro, none⟩ : Addr).add j) = some u := fun j u hu => by
      have e : (⟨rb, ro, none⟩ : Addr).add j = ⟨rb, ro + j, none⟩ := by unfold Addr.add; split <;> simp_all
      rw [e]
      refine ((bnew Hy.out.b _).cell (p := ⟨rb, ro + j, none⟩) hrb).trans (hrc j u ?_)
      have hj : j < (rs.take sy).length := by have := (List.getElem?_eq_some_iff.1 hu).1; rwa [sc_length] at this
      rw [← hu]; unfold sc
      rw [List.getElem?_map, List.getElem?_map, List.getElem?_take, if_pos (by rw [List.length_take] at hj; omega)]
    have hown := own_empty Wy 9
    have c1 : (Wy.alloc (.cells #[] 9)).cell? ⟨W.heap.size, 1, none⟩ = some (.slice (some ⟨rb0, ro0, none⟩) rs.length rc) := ((bnew (Below.refl _ _) _).cell (p := ⟨W.heap.size, 1, none⟩) (Array.getElem?_eq_some_iff.1 hy.r).1).trans (cell_of_row Wy W.heap.size 1 _ _ _ hy.r)
    obtain ⟨hi, hz0, hz1, hz2⟩ := HI.out
    have Hsrc := Lib.hid hsrc
    have HL := Lib.hid (HKp.out sy true (r.extract 0 u) HKept.out (by rw [HML.out]; simp) HTN.out.symm)
    cases hra
    clear hy hsrc hrc
    go_upto_region 15 with (at_builtin; refine wpList_app_own rfl (.tmp 92) (.tmp 96) 52 rfl Wy.heap.size 9 i0 (.string ⟨#[]⟩) 1 16 Try.underlying52 hi hz0 hz1 hz2 rfl (by decide) _ _ _ rfl hown ⟨rb0, ro0, none⟩ sy rc (sc (rs.take sy)) rfl (by rw [sc_length, List.length_take]; omega) Hsrc.out (fun u hu => by obtain ⟨s, _, rfl⟩ := List.mem_map.1 hu; rfl) (by simp only [maxLen]; omega) (by omega) (by simp) ?_; intro v' w2 ho hg hn; obtain ⟨A', c', rfl, hA'⟩ := own_slice ho; have HO := Lib.hid ho; have HA := Lib.hid hA'; have HB2 : Hid (Below Wy.heap.size Wy w2) := Lib.hid ((bnew (Below.refl _ _) _).grown hg (by simp) (fun j hj => (own_lt hown hj).2)); have hl2 := Hy.out.below HB2.out; have d1 := cell_of_row w2 W.heap.size 1 _ _ _ hl2.r; have e1 := frozen_of_row w2 W.heap.size 1 _ _ hl2.r; have d2 := cell_of_row w2 W.heap.size 2 _ _ _ hl2.r; have e2 := frozen_of_row w2 W.heap.size 2 _ _ hl2.r; have Hl2 := Lib.hid hl2; clear ho hg hn hl2 hA' c1 hown)
    go_upto_region 16 with (fail)
    have hfin := left_fin (m := sy) Hl2.out (by have := HO.out; simpa using this) (by omega) (by have := (Array.getElem?_eq_some_iff.1 Hy.out.z).1; omega) (fun b off he => (HA.out b off he).1)
    have Hf := Lib.hid hfin
    have HZY := Lib.hid (sizeFl ⟨⟨nm, rs.take sy, sy, true, (r.extract 0 u)⟩, A', c'⟩)
    have HYY : Hid (∀ j, j < (flC ⟨⟨nm, rs.take sy, sy, true, (r.extract 0 u)⟩, A', c'⟩).size → (flC ⟨⟨nm, rs.take sy, sy, true, (r.extract 0 u)⟩, A', c'⟩)[0 + j]? = (flC ⟨⟨nm, rs.take sy, sy, true, (r.extract 0 u)⟩, A', c'⟩)[j]?) := Lib.hid fun j _ => by rw [Nat.zero_add]
    have HO5 := Lib.hid (flOne ⟨⟨nm, rs.take sy, sy, true, (r.extract 0 u)⟩, A', c'⟩)
    have HS5 : Hid ((flC ⟨⟨nm, rs.take sy, sy, true, (r.extract 0 u)⟩, A', c'⟩).size = 5) := Lib.hid rfl
    have HRet : Hid (flC ⟨Dk.leave ⟨nm, rs, sy, ct, tn⟩ ks ts k, A', c'⟩ = flC ⟨⟨nm, rs.take sy, sy, true, (r.extract 0 u)⟩, A', c'⟩) := Lib.hid (by rw [HL.out])
    clear hfin
    unfold leftW at Hf
    generalize flC ⟨⟨nm, rs.take sy, sy, true, (r.extract 0 u)⟩, A', c'⟩ = Y at Hf HZY HYY HO5 HS5 HRet
    go_wp2_with (first
      | (refine wpList_load_sub rfl 65 _ rfl W.heap.size 0 rfl 65 Y Y (0, 0) _ Hf.out.1 HYY.out Try.underlying65 rfl HZY.out ?_)
      | (refine wpList_store_sub rfl 65 _ _ rfl (W.heap.size + 1 + 1) 0 rfl 65 #[.string ⟨#[]⟩, .slice none 0 0, .int .i64 0, .bool false, .string ⟨#[]⟩] Y rfl Hf.out.2.1 (by rw [HS5.out]; exact Nat.le_refl _) HZY.out HO5.out ?_))
    refine bodyPost_ret (results_cell_row (P := Try.prog) (fn := Try.f58) rfl _ _ (W.heap.size + 1 + 1) 65 Y (0, 0) _ rfl Hf.out.2.2.1 Try.underlying65 rfl HZY.out) rfl ?_
    exact ⟨A', c', by rw [HRet.out], by rw [HL.out]; exact Hf.out.2.2.2.1, Hf.out.2.2.2.2, fun b off _ he => by have h1 := (HA.out b off he).1; have h2 := Hy.out.b.size; omega, by rw [HL.out]; show (rs.take sy).length ≤ c'; rw [List.length_take]; have := own_room HO.out; omega⟩
  have p1 : decide (k < ks.length) = true := by simpa using hkl
  obtain ⟨kb, ko, hKA, hkb, hkc⟩ := ic_cell HK.out k hkl
  obtain ⟨z0, hz0⟩ : ∃ z, z = ks.getD k 0 := ⟨_, rfl⟩
  have hz0b : -9223372036854775808 ≤ z0 ∧ z0 ≤ 9223372036854775807 := by
    rw [hz0, List.getD_eq_getElem?_getD, List.getElem?_eq_getElem hkl]; exact HKn.out _ (List.getElem_mem hkl)
  rw [← hz0] at hkc
  have HZ0 := Lib.hid hz0
  have hkc2 := ((bnew (bnew (bnew (Below.refl _ _) (.cells #[.string nm, .slice ra rs.length rc, .int .i64 (sy : Int), .bool ct, .string tn] 65)) (.cells #[.slice KA ks.length kc, .slice TA ts.length tc] 36)) (.cells #[.string ⟨#[]⟩, .slice none 0 0, .int .i64 0, .bool false, .string ⟨#[]⟩] 65)).cell (p := ⟨kb, ko + k, none⟩) hkb).trans hkc
  subst hKA
  clear hkc hz0
  by_cases hpos : 0 < z0
  case neg =>
    have p2 : decide (0 < z0) = false := by simpa using hpos
    have HKept : Hid (sy = min (sy + (ks.getD k 0).toNat) rs.length) := Lib.hid (by rw [← HZ0.out]; omega)
    have hml : sy < rs.length := hs
    clear hpos
    go_enter Try.func58, Try.ntmps58
    go_upto_region 6 with (fail)
    clear hkc2
    refine forget (fun Wz => LeftEnd W Wz nm ra rs rc sy ct tn ∧ Wz.heap[W.heap.size + 1]? = some (.cells #[.slice (some ⟨kb, ko, none⟩) ks.length kc, .slice TA ts.length tc] 36 (0, 0))) H0.out ?_
    intro Wz hz
    have c0 := cell_of_row Wz W.heap.size 0 _ _ _ hz.1.r
    have c1 := cell_of_row Wz W.heap.size 1 _ _ _ hz.1.r
    have c2 := cell_of_row Wz W.heap.size 2 _ _ _ hz.1.r
    have c3 := cell_of_row Wz W.heap.size 3 _ _ _ hz.1.r
    have c4 := cell_of_row Wz W.heap.size 4 _ _ _ hz.1.r
    have k0 := cell_of_row Wz (W.heap.size + 1) 0 _ _ _ hz.2
    have k1 := cell_of_row Wz (W.heap.size + 1) 1 _ _ _ hz.2
    have f3 := frozen_of_row Wz W.heap.size 3 _ _ hz.1.r
    have f4 := frozen_of_row Wz W.heap.size 4 _ _ hz.1.r
    have Hz := Lib.hid hz
    clear hz
    
    have q1 : decide (sy < rs.length) = true := by simpa using hml
    by_cases ht : k < ts.length
    case neg =>
      have q2 : decide (k < ts.length) = false := by simpa using ht
      go_upto_region 14 with (fail)
      refine forget (fun Wy => LeftEnd W Wy nm ra rs rc sy true tn) (Hz.out.1.set 3 (.bool true) true tn rfl) ?_
      clear c0 c1 c2 c3 c4 k0 k1 f3 f4
      intro Wy hy
      have Hy := Lib.hid hy
      obtain ⟨rb, ro, hra, hrb, hrc⟩ := HX.out.resolve_left (by intro h; have := sc_length rs; rw [h] at this; simp at this; omega)
      have hsrc : ∀ j u, (sc (rs.take sy))[j]? = some u → (Wy.alloc (.cells #[] 9)).cell? ((⟨rb, ro, none⟩ : Addr).add j) = some u := fun j u hu => by
        have e : (⟨rb, ro, none⟩ : Addr).add j = ⟨rb, ro + j, none⟩ := by unfold Addr.add; split <;> simp_all
        rw [e]
        refine ((bnew Hy.out.b _).cell (p := ⟨rb, ro + j, none⟩) hrb).trans (hrc j u ?_)
        have hj : j < (rs.take sy).length := by have := (List.getElem?_eq_some_iff.1 hu).1; rwa [sc_length] at this
        rw [← hu]; unfold sc
        rw [List.getElem?_map, List.getElem?_map, List.getElem?_take, if_pos (by rw [List.length_take] at hj; omega)]
      have hown := own_empty Wy 9
      have c1 : (Wy.alloc (.cells #[] 9)).cell? ⟨W.heap.size, 1, none⟩ = some (.slice ra rs.length rc) := ((bnew (Below.refl _ _) _).cell (p := ⟨W.heap.size, 1, none⟩) (Array.getElem?_eq_some_iff.1 hy.r).1).trans (cell_of_row Wy W.heap.size 1 _ _ _ hy.r)
      obtain ⟨hi, hz0, hz1, hz2⟩ := HI.out
      have Hsrc := Lib.hid hsrc
      have HL := Lib.hid (HKp.out sy true tn HKept.out (by simp [hml]) (by rw [if_neg (fun h => ht h.2)]))
      cases hra
      clear hy hsrc hrc
      go_upto_region 15 with (at_builtin; refine wpList_app_own rfl (.tmp 92) (.tmp 96) 52 rfl Wy.heap.size 9 i0 (.string ⟨#[]⟩) 1 16 Try.underlying52 hi hz0 hz1 hz2 rfl (by decide) _ _ _ rfl hown ⟨rb, ro, none⟩ sy rc (sc (rs.take sy)) rfl (by rw [sc_length, List.length_take]; omega) Hsrc.out (fun u hu => by obtain ⟨s, _, rfl⟩ := List.mem_map.1 hu; rfl) (by simp only [maxLen]; omega) (by omega) (by simp) ?_; intro v' w2 ho hg hn; obtain ⟨A', c', rfl, hA'⟩ := own_slice ho; have HO := Lib.hid ho; have HA := Lib.hid hA'; have HB2 : Hid (Below Wy.heap.size Wy w2) := Lib.hid ((bnew (Below.refl _ _) _).grown hg (by simp) (fun j hj => (own_lt hown hj).2)); have hl2 := Hy.out.below HB2.out; have d1 := cell_of_row w2 W.heap.size 1 _ _ _ hl2.r; have e1 := frozen_of_row w2 W.heap.size 1 _ _ hl2.r; have d2 := cell_of_row w2 W.heap.size 2 _ _ _ hl2.r; have e2 := frozen_of_row w2 W.heap.size 2 _ _ hl2.r; have Hl2 := Lib.hid hl2; clear ho hg hn hl2 hA' c1 hown)
      go_upto_region 16 with (fail)
      have hfin := left_fin (m := sy) Hl2.out (by have := HO.out; simpa using this) (by omega) (by have := (Array.getElem?_eq_some_iff.1 Hy.out.z).1; omega) (fun b off he => (HA.out b off he).1)
      have Hf := Lib.hid hfin
      have HZY := Lib.hid (sizeFl ⟨⟨nm, rs.take sy, sy, true, tn⟩, A', c'⟩)
      have HYY : Hid (∀ j, j < (flC ⟨⟨nm, rs.take sy, sy, true, tn⟩, A', c'⟩).size → (flC ⟨⟨nm, rs.take sy, sy, true, tn⟩, A', c'⟩)[0 + j]? = (flC ⟨⟨nm, rs.take sy, sy, true, tn⟩, A', c'⟩)[j]?) := Lib.hid fun j _ => by rw [Nat.zero_add]
      have HO5 := Lib.hid (flOne ⟨⟨nm, rs.take sy, sy, true, tn⟩, A', c'⟩)
      have HS5 : Hid ((flC ⟨⟨nm, rs.take sy, sy, true, tn⟩, A', c'⟩).size = 5) := Lib.hid rfl
      have HRet : Hid (flC ⟨Dk.leave ⟨nm, rs, sy, ct, tn⟩ ks ts k, A', c'⟩ = flC ⟨⟨nm, rs.take sy, sy, true, tn⟩, A', c'⟩) := Lib.hid (by rw [HL.out])
      clear hfin
      unfold leftW at Hf
      generalize flC ⟨⟨nm, rs.take sy, sy, true, tn⟩, A', c'⟩ = Y at Hf HZY HYY HO5 HS5 HRet
      go_wp2_with (first
        | (refine wpList_load_sub rfl 65 _ rfl W.heap.size 0 rfl 65 Y Y (0, 0) _ Hf.out.1 HYY.out Try.underlying65 rfl HZY.out ?_)
        | (refine wpList_store_sub rfl 65 _ _ rfl (W.heap.size + 1 + 1) 0 rfl 65 #[.string ⟨#[]⟩, .slice none 0 0, .int .i64 0, .bool false, .string ⟨#[]⟩] Y rfl Hf.out.2.1 (by rw [HS5.out]; exact Nat.le_refl _) HZY.out HO5.out ?_))
      refine bodyPost_ret (results_cell_row (P := Try.prog) (fn := Try.f58) rfl _ _ (W.heap.size + 1 + 1) 65 Y (0, 0) _ rfl Hf.out.2.2.1 Try.underlying65 rfl HZY.out) rfl ?_
      exact ⟨A', c', by rw [HRet.out], by rw [HL.out]; exact Hf.out.2.2.2.1, Hf.out.2.2.2.2, fun b off _ he => by have h1 := (HA.out b off he).1; have h2 := Hy.out.b.size; omega, by rw [HL.out]; show (rs.take sy).length ≤ c'; rw [List.length_take]; have := own_room HO.out; omega⟩
    have q2 : decide (k < ts.length) = true := by simpa using ht
    obtain ⟨tb, t0, hTA, htb, htc⟩ := ic_cell HT.out k ht
    have htc2 := (Hz.out.1.b.cell (p := ⟨tb, t0 + k, none⟩) htb).trans htc
    obtain ⟨rb0, ro0, hra0, hrb0, hrc0⟩ := HX.out.str sy hml
    have hrc2 := (Hz.out.1.b.cell (p := ⟨rb0, ro0 + sy, none⟩) hrb0).trans hrc0
    obtain ⟨hs1, hs2⟩ := HSz.out sy hml
    have hgd : rs.getD sy Dk.e0 = rs[sy] := by rw [List.getD_eq_getElem?_getD, List.getElem?_eq_getElem hml]; rfl
    obtain ⟨r, hr⟩ : ∃ r, r = rs[sy] := ⟨_, rfl⟩
    rw [← hr] at hrc2 hs1 hs2 hgd
    obtain ⟨tz, htz⟩ : ∃ z, z = ts.getD k 0 := ⟨_, rfl⟩
    rw [← htz] at htc2
    have htzb : -9223372036854775808 ≤ tz ∧ tz ≤ 9223372036854775807 := by
      rw [htz, List.getD_eq_getElem?_getD, List.getElem?_eq_getElem ht]; exact HTn.out _ (List.getElem_mem ht)
    have hem := emod_tmod tz r.size hs1
    have hbd := tmod_bounds tz r.size hs1
    have hu0 := Int.emod_nonneg tz (show (r.size : Int) ≠ 0 by omega)
    have hu1 := Int.emod_lt_of_pos tz (show (0 : Int) < (r.size : Int) by omega)
    obtain ⟨u, hu⟩ := Int.eq_ofNat_of_zero_le hu0
    have hul : u < r.size := by rw [hu] at hu1; omega
    have htn : (if sy < rs.length ∧ k < ts.length then (rs.getD sy Dk.e0).extract 0 (ts.getD k 0 % ((rs.getD sy Dk.e0).size : Int)).toNat else tn) = r.extract 0 u := by
      rw [if_pos ⟨hml, ht⟩, hgd, ← htz, hu]; simp
    have HTN := Lib.hid htn
    have hrp : (0 : Int) < (r.size : Int) := by omega
    rw [hu] at hem
    obtain ⟨z, hzz⟩ : ∃ z, z = tz.tmod (r.size : Int) := ⟨_, rfl⟩
    rw [← hzz] at hem hbd
    have hzr : tz.tmod (r.size : Int) = z := hzz.symm
    have hr0 : ((r.size : Int) == 0) = false := beq_eq_false_iff_ne.2 (by omega)
    have HML : Hid (decide (sy < rs.length) = true) := Lib.hid q1
    cases hra0
    subst hTA
    clear htc hrc0 hgd hr htz hzz hu hu0 hu1 htn
    by_cases hneg : z < 0
    case neg =>
      rw [if_neg hneg] at hem
      subst hem
      have q3 : decide ((u : Int) < 0) = false := by simp
      clear hneg
      go_upto_region 14 with (fail)
      refine forget (fun Wy => LeftEnd W Wy nm (some ⟨rb0, ro0, none⟩) rs rc sy true (r.extract 0 u)) ((Hz.out.1.set 3 (.bool true) true tn rfl).set 4 (.string (r.extract 0 u)) true (r.extract 0 u) rfl) ?_
      clear c0 c1 c2 c3 c4 k0 k1 f3 f4
      intro Wy hy
      have Hy := Lib.hid hy
      obtain ⟨rb, ro, hra, hrb, hrc⟩ := HX.out.resolve_left (by intro h; have := sc_length rs; rw [h] at this; simp at this; omega)
      have hsrc : ∀ j u, (sc (rs.take sy))[j]? = some u → (Wy.alloc (.cells #[] 9)).cell? ((⟨rb, ro, none⟩ : Addr).add j) = some u := fun j u hu => by
        have e : (⟨rb, ro, none⟩ : Addr).add j = ⟨rb, ro + j, none⟩ := by unfold Addr.add; split <;> simp_all
        rw [e]
        refine ((bnew Hy.out.b _).cell (p := ⟨rb, ro + j, none⟩) hrb).trans (hrc j u ?_)
        have hj : j < (rs.take sy).length := by have := (List.getElem?_eq_some_iff.1 hu).1; rwa [sc_length] at this
        rw [← hu]; unfold sc
        rw [List.getElem?_map, List.getElem?_map, List.getElem?_take, if_pos (by rw [List.length_take] at hj; omega)]
      have hown := own_empty Wy 9
      have c1 : (Wy.alloc (.cells #[] 9)).cell? ⟨W.heap.size, 1, none⟩ = some (.slice (some ⟨rb0, ro0, none⟩) rs.length rc) := ((bnew (Below.refl _ _) _).cell (p := ⟨W.heap.size, 1, none⟩) (Array.getElem?_eq_some_iff.1 hy.r).1).trans (cell_of_row Wy W.heap.size 1 _ _ _ hy.r)
      obtain ⟨hi, hz0, hz1, hz2⟩ := HI.out
      have Hsrc := Lib.hid hsrc
      have HL := Lib.hid (HKp.out sy true (r.extract 0 u) HKept.out (by rw [HML.out]; simp) HTN.out.symm)
      cases hra
      clear hy hsrc hrc
      go_upto_region 15 with (at_builtin; refine wpList_app_own rfl (.tmp 92) (.tmp 96) 52 rfl Wy.heap.size 9 i0 (.string ⟨#[]⟩) 1 16 Try.underlying52 hi hz0 hz1 hz2 rfl (by decide) _ _ _ rfl hown ⟨rb0, ro0, none⟩ sy rc (sc (rs.take sy)) rfl (by rw [sc_length, List.length_take]; omega) Hsrc.out (fun u hu => by obtain ⟨s, _, rfl⟩ := List.mem_map.1 hu; rfl) (by simp only [maxLen]; omega) (by omega) (by simp) ?_; intro v' w2 ho hg hn; obtain ⟨A', c', rfl, hA'⟩ := own_slice ho; have HO := Lib.hid ho; have HA := Lib.hid hA'; have HB2 : Hid (Below Wy.heap.size Wy w2) := Lib.hid ((bnew (Below.refl _ _) _).grown hg (by simp) (fun j hj => (own_lt hown hj).2)); have hl2 := Hy.out.below HB2.out; have d1 := cell_of_row w2 W.heap.size 1 _ _ _ hl2.r; have e1 := frozen_of_row w2 W.heap.size 1 _ _ hl2.r; have d2 := cell_of_row w2 W.heap.size 2 _ _ _ hl2.r; have e2 := frozen_of_row w2 W.heap.size 2 _ _ hl2.r; have Hl2 := Lib.hid hl2; clear ho hg hn hl2 hA' c1 hown)
      go_upto_region 16 with (fail)
      have hfin := left_fin (m := sy) Hl2.out (by have := HO.out; simpa using this) (by omega) (by have := (Array.getElem?_eq_some_iff.1 Hy.out.z).1; omega) (fun b off he => (HA.out b off he).1)
      have Hf := Lib.hid hfin
      have HZY := Lib.hid (sizeFl ⟨⟨nm, rs.take sy, sy, true, (r.extract 0 u)⟩, A', c'⟩)
      have HYY : Hid (∀ j, j < (flC ⟨⟨nm, rs.take sy, sy, true, (r.extract 0 u)⟩, A', c'⟩).size → (flC ⟨⟨nm, rs.take sy, sy, true, (r.extract 0 u)⟩, A', c'⟩)[0 + j]? = (flC ⟨⟨nm, rs.take sy, sy, true, (r.extract 0 u)⟩, A', c'⟩)[j]?) := Lib.hid fun j _ => by rw [Nat.zero_add]
      have HO5 := Lib.hid (flOne ⟨⟨nm, rs.take sy, sy, true, (r.extract 0 u)⟩, A', c'⟩)
      have HS5 : Hid ((flC ⟨⟨nm, rs.take sy, sy, true, (r.extract 0 u)⟩, A', c'⟩).size = 5) := Lib.hid rfl
      have HRet : Hid (flC ⟨Dk.leave ⟨nm, rs, sy, ct, tn⟩ ks ts k, A', c'⟩ = flC ⟨⟨nm, rs.take sy, sy, true, (r.extract 0 u)⟩, A', c'⟩) := Lib.hid (by rw [HL.out])
      clear hfin
      unfold leftW at Hf
      generalize flC ⟨⟨nm, rs.take sy, sy, true, (r.extract 0 u)⟩, A', c'⟩ = Y at Hf HZY HYY HO5 HS5 HRet
      go_wp2_with (first
        | (refine wpList_load_sub rfl 65 _ rfl W.heap.size 0 rfl 65 Y Y (0, 0) _ Hf.out.1 HYY.out Try.underlying65 rfl HZY.out ?_)
        | (refine wpList_store_sub rfl 65 _ _ rfl (W.heap.size + 1 + 1) 0 rfl 65 #[.string ⟨#[]⟩, .slice none 0 0, .int .i64 0, .bool false, .string ⟨#[]⟩] Y rfl Hf.out.2.1 (by rw [HS5.out]; exact Nat.le_refl _) HZY.out HO5.out ?_))
      refine bodyPost_ret (results_cell_row (P := Try.prog) (fn := Try.f58) rfl _ _ (W.heap.size + 1 + 1) 65 Y (0, 0) _ rfl Hf.out.2.2.1 Try.underlying65 rfl HZY.out) rfl ?_
      exact ⟨A', c', by rw [HRet.out], by rw [HL.out]; exact Hf.out.2.2.2.1, Hf.out.2.2.2.2, fun b off _ he => by have h1 := (HA.out b off he).1; have h2 := Hy.out.b.size; omega, by rw [HL.out]; show (rs.take sy).length ≤ c'; rw [List.length_take]; have := own_room HO.out; omega⟩
    rw [if_pos hneg] at hem
    have hsum : z + (r.size : Int) = (u : Int) := hem.symm
    have q3 : decide (z < 0) = true := by simpa using hneg
    clear hneg hem
    go_upto_region 14 with (fail)
    refine forget (fun Wy => LeftEnd W Wy nm (some ⟨rb0, ro0, none⟩) rs rc sy true (r.extract 0 u)) ((Hz.out.1.set 3 (.bool true) true tn rfl).set 4 (.string (r.extract 0 u)) true (r.extract 0 u) rfl) ?_
    clear c0 c1 c2 c3 c4 k0 k1 f3 f4
    intro Wy hy
    have Hy := Lib.hid hy
    obtain ⟨rb, ro, hra, hrb, hrc⟩ := HX.out.resolve_left (by intro h; have := sc_length rs; rw [h] at this; simp at this; omega)
    have hsrc : ∀ j u, (sc (rs.take sy))[j]? = some u → (Wy.alloc (.cells #[] 9)).cell? ((⟨rb, ro, none⟩ : Addr).add j) = some u := fun j u hu => by
      have e : (⟨rb, ro, none⟩ : Addr).add j = ⟨rb, ro + j, none⟩ := by unfold Addr.add; split <;> simp_all
      rw [e]
      refine ((bnew Hy.out.b _).cell (p := ⟨rb, ro + j, none⟩) hrb).trans (hrc j u ?_)
      have hj : j < (rs.take sy).length := by have := (List.getElem?_eq_some_iff.1 hu).1; rwa [sc_length] at this
      rw [← hu]; unfold sc
      rw [List.getElem?_map, List.getElem?_map, List.getElem?_take, if_pos (by rw [List.length_take] at hj; omega)]
    have hown := own_empty Wy 9
    have c1 : (Wy.alloc (.cells #[] 9)).cell? ⟨W.heap.size, 1, none⟩ = some (.slice (some ⟨rb0, ro0, none⟩) rs.length rc) := ((bnew (Below.refl _ _) _).cell (p := ⟨W.heap.size, 1, none⟩) (Array.getElem?_eq_some_iff.1 hy.r).1).trans (cell_of_row Wy W.heap.size 1 _ _ _ hy.r)
    obtain ⟨hi, hz0, hz1, hz2⟩ := HI.out
    have Hsrc := Lib.hid hsrc
    have HL := Lib.hid (HKp.out sy true (r.extract 0 u) HKept.out (by rw [HML.out]; simp) HTN.out.symm)
    cases hra
    clear hy hsrc hrc
    go_upto_region 15 with (at_builtin; refine wpList_app_own rfl (.tmp 92) (.tmp 96) 52 rfl Wy.heap.size 9 i0 (.string ⟨#[]⟩) 1 16 Try.underlying52 hi hz0 hz1 hz2 rfl (by decide) _ _ _ rfl hown ⟨rb0, ro0, none⟩ sy rc (sc (rs.take sy)) rfl (by rw [sc_length, List.length_take]; omega) Hsrc.out (fun u hu => by obtain ⟨s, _, rfl⟩ := List.mem_map.1 hu; rfl) (by simp only [maxLen]; omega) (by omega) (by simp) ?_; intro v' w2 ho hg hn; obtain ⟨A', c', rfl, hA'⟩ := own_slice ho; have HO := Lib.hid ho; have HA := Lib.hid hA'; have HB2 : Hid (Below Wy.heap.size Wy w2) := Lib.hid ((bnew (Below.refl _ _) _).grown hg (by simp) (fun j hj => (own_lt hown hj).2)); have hl2 := Hy.out.below HB2.out; have d1 := cell_of_row w2 W.heap.size 1 _ _ _ hl2.r; have e1 := frozen_of_row w2 W.heap.size 1 _ _ hl2.r; have d2 := cell_of_row w2 W.heap.size 2 _ _ _ hl2.r; have e2 := frozen_of_row w2 W.heap.size 2 _ _ hl2.r; have Hl2 := Lib.hid hl2; clear ho hg hn hl2 hA' c1 hown)
    go_upto_region 16 with (fail)
    have hfin := left_fin (m := sy) Hl2.out (by have := HO.out; simpa using this) (by omega) (by have := (Array.getElem?_eq_some_iff.1 Hy.out.z).1; omega) (fun b off he => (HA.out b off he).1)
    have Hf := Lib.hid hfin
    have HZY := Lib.hid (sizeFl ⟨⟨nm, rs.take sy, sy, true, (r.extract 0 u)⟩, A', c'⟩)
    have HYY : Hid (∀ j, j < (flC ⟨⟨nm, rs.take sy, sy, true, (r.extract 0 u)⟩, A', c'⟩).size → (flC ⟨⟨nm, rs.take sy, sy, true, (r.extract 0 u)⟩, A', c'⟩)[0 + j]? = (flC ⟨⟨nm, rs.take sy, sy, true, (r.extract 0 u)⟩, A', c'⟩)[j]?) := Lib.hid fun j _ => by rw [Nat.zero_add]
    have HO5 := Lib.hid (flOne ⟨⟨nm, rs.take sy, sy, true, (r.extract 0 u)⟩, A', c'⟩)
    have HS5 : Hid ((flC ⟨⟨nm, rs.take sy, sy, true, (r.extract 0 u)⟩, A', c'⟩).size = 5) := Lib.hid rfl
    have HRet : Hid (flC ⟨Dk.leave ⟨nm, rs, sy, ct, tn⟩ ks ts k, A', c'⟩ = flC ⟨⟨nm, rs.take sy, sy, true, (r.extract 0 u)⟩, A', c'⟩) := Lib.hid (by rw [HL.out])
    clear hfin
    unfold leftW at Hf
    generalize flC ⟨⟨nm, rs.take sy, sy, true, (r.extract 0 u)⟩, A', c'⟩ = Y at Hf HZY HYY HO5 HS5 HRet
    go_wp2_with (first
      | (refine wpList_load_sub rfl 65 _ rfl W.heap.size 0 rfl 65 Y Y (0, 0) _ Hf.out.1 HYY.out Try.underlying65 rfl HZY.out ?_)
      | (refine wpList_store_sub rfl 65 _ _ rfl (W.heap.size + 1 + 1) 0 rfl 65 #[.string ⟨#[]⟩, .slice none 0 0, .int .i64 0, .bool false, .string ⟨#[]⟩] Y rfl Hf.out.2.1 (by rw [HS5.out]; exact Nat.le_refl _) HZY.out HO5.out ?_))
    refine bodyPost_ret (results_cell_row (P := Try.prog) (fn := Try.f58) rfl _ _ (W.heap.size + 1 + 1) 65 Y (0, 0) _ rfl Hf.out.2.2.1 Try.underlying65 rfl HZY.out) rfl ?_
    exact ⟨A', c', by rw [HRet.out], by rw [HL.out]; exact Hf.out.2.2.2.1, Hf.out.2.2.2.2, fun b off _ he => by have h1 := (HA.out b off he).1; have h2 := Hy.out.b.size; omega, by rw [HL.out]; show (rs.take sy).length ≤ c'; rw [List.length_take]; have := own_room HO.out; omega⟩
  have p2 : decide (0 < z0) = true := by simpa using hpos
  obtain ⟨zn, rfl⟩ : ∃ zn : Nat, z0 = (zn : Int) := ⟨z0.toNat, by omega⟩
  have p2' : decide (0 < zn) = true := by simp; omega
  have w1s : IntKind.i64.wrap ((rs.length : Int) - (sy : Int)) = (rs.length : Int) - (sy : Int) := IntWalk.i64_in _ (by omega)
  by_cases hlt : (zn : Int) < (rs.length : Int) - (sy : Int)
  case neg =>
    have p3 : decide ((zn : Int) < (rs.length : Int) - (sy : Int)) = false := by simpa using hlt
    have HKept : Hid (rs.length = min (sy + (ks.getD k 0).toNat) rs.length) := Lib.hid (by rw [← HZ0.out]; omega)
    clear hpos hlt
    go_enter Try.func58, Try.ntmps58
    go_wp2_with fail
    go_quiet (fail)
    go_upto_region 6 with (fail)
    clear hkc2 w1s
    refine forget (fun Wz => LeftEnd W Wz nm ra rs rc sy ct tn ∧ Wz.heap[W.heap.size + 1]? = some (.cells #[.slice (some ⟨kb, ko, none⟩) ks.length kc, .slice TA ts.length tc] 36 (0, 0))) ⟨H0.out.1.drew _, row_drewN _ H0.out.2⟩ ?_
    intro Wz hz
    have c0 := cell_of_row Wz W.heap.size 0 _ _ _ hz.1.r
    have c1 := cell_of_row Wz W.heap.size 1 _ _ _ hz.1.r
    have c2 := cell_of_row Wz W.heap.size 2 _ _ _ hz.1.r
    have c3 := cell_of_row Wz W.heap.size 3 _ _ _ hz.1.r
    have c4 := cell_of_row Wz W.heap.size 4 _ _ _ hz.1.r
    have k0 := cell_of_row Wz (W.heap.size + 1) 0 _ _ _ hz.2
    have k1 := cell_of_row Wz (W.heap.size + 1) 1 _ _ _ hz.2
    have f3 := frozen_of_row Wz W.heap.size 3 _ _ hz.1.r
    have f4 := frozen_of_row Wz W.heap.size 4 _ _ hz.1.r
    have Hz := Lib.hid hz
    clear hz
    
    have q1 : decide (rs.length < rs.length) = false := by simp
    go_upto_region 14 with (fail)
    refine forget (fun Wy => LeftEnd W Wy nm ra rs rc sy ct tn) Hz.out.1 ?_
    clear c0 c1 c2 c3 c4 k0 k1 f3 f4
    intro Wy hy
    have Hy := Lib.hid hy
    obtain ⟨rb, ro, hra, hrb, hrc⟩ := HX.out.resolve_left (by intro h; have := sc_length rs; rw [h] at this; simp at this; omega)
    have hsrc : ∀ j u, (sc (rs.take rs.length))[j]? = some u → (Wy.alloc (.cells #[] 9)).cell? ((⟨rb, ro, none⟩ : Addr).add j) = some u := fun j u hu => by
      have e : (⟨rb, ro, none⟩ : Addr).add j = ⟨rb, ro + j, none⟩ := by unfold Addr.add; split <;> simp_all
      rw [e]
      refine ((bnew Hy.out.b _).cell (p := ⟨rb, ro + j, none⟩) hrb).trans (hrc j u ?_)
      have hj : j < (rs.take rs.length).length := by have := (List.getElem?_eq_some_iff.1 hu).1; rwa [sc_length] at this
      rw [← hu]; unfold sc
      rw [List.getElem?_map, List.getElem?_map, List.getElem?_take, if_pos (by rw [List.length_take] at hj; omega)]
    have hown := own_empty Wy 9
    have c1 : (Wy.alloc (.cells #[] 9)).cell? ⟨W.heap.size, 1, none⟩ = some (.slice ra rs.length rc) := ((bnew (Below.refl _ _) _).cell (p := ⟨W.heap.size, 1, none⟩) (Array.getElem?_eq_some_iff.1 hy.r).1).trans (cell_of_row Wy W.heap.size 1 _ _ _ hy.r)
    obtain ⟨hi, hz0, hz1, hz2⟩ := HI.out
    have Hsrc := Lib.hid hsrc
    have HL := Lib.hid (HKp.out rs.length ct tn HKept.out (by simp) (by simp))
    cases hra
    clear hy hsrc hrc
    go_upto_region 15 with (at_builtin; refine wpList_app_own rfl (.tmp 92) (.tmp 96) 52 rfl Wy.heap.size 9 i0 (.string ⟨#[]⟩) 1 16 Try.underlying52 hi hz0 hz1 hz2 rfl (by decide) _ _ _ rfl hown ⟨rb, ro, none⟩ rs.length rc (sc (rs.take rs.length)) rfl (by rw [sc_length, List.length_take]; omega) Hsrc.out (fun u hu => by obtain ⟨s, _, rfl⟩ := List.mem_map.1 hu; rfl) (by simp only [maxLen]; omega) (by omega) (by simp) ?_; intro v' w2 ho hg hn; obtain ⟨A', c', rfl, hA'⟩ := own_slice ho; have HO := Lib.hid ho; have HA := Lib.hid hA'; have HB2 : Hid (Below Wy.heap.size Wy w2) := Lib.hid ((bnew (Below.refl _ _) _).grown hg (by simp) (fun j hj => (own_lt hown hj).2)); have hl2 := Hy.out.below HB2.out; have d1 := cell_of_row w2 W.heap.size 1 _ _ _ hl2.r; have e1 := frozen_of_row w2 W.heap.size 1 _ _ hl2.r; have d2 := cell_of_row w2 W.heap.size 2 _ _ _ hl2.r; have e2 := frozen_of_row w2 W.heap.size 2 _ _ hl2.r; have Hl2 := Lib.hid hl2; clear ho hg hn hl2 hA' c1 hown)
    go_upto_region 16 with (fail)
    have hfin := left_fin (m := rs.length) Hl2.out (by have := HO.out; simpa using this) (by omega) (by have := (Array.getElem?_eq_some_iff.1 Hy.out.z).1; omega) (fun b off he => (HA.out b off he).1)
    have Hf := Lib.hid hfin
    have HZY := Lib.hid (sizeFl ⟨⟨nm, rs.take rs.length, rs.length, ct, tn⟩, A', c'⟩)
    have HYY : Hid (∀ j, j < (flC ⟨⟨nm, rs.take rs.length, rs.length, ct, tn⟩, A', c'⟩).size → (flC ⟨⟨nm, rs.take rs.length, rs.length, ct, tn⟩, A', c'⟩)[0 + j]? = (flC ⟨⟨nm, rs.take rs.length, rs.length, ct, tn⟩, A', c'⟩)[j]?) := Lib.hid fun j _ => by rw [Nat.zero_add]
    have HO5 := Lib.hid (flOne ⟨⟨nm, rs.take rs.length, rs.length, ct, tn⟩, A', c'⟩)
    have HS5 : Hid ((flC ⟨⟨nm, rs.take rs.length, rs.length, ct, tn⟩, A', c'⟩).size = 5) := Lib.hid rfl
    have HRet : Hid (flC ⟨Dk.leave ⟨nm, rs, sy, ct, tn⟩ ks ts k, A', c'⟩ = flC ⟨⟨nm, rs.take rs.length, rs.length, ct, tn⟩, A', c'⟩) := Lib.hid (by rw [HL.out])
    clear hfin
    unfold leftW at Hf
    generalize flC ⟨⟨nm, rs.take rs.length, rs.length, ct, tn⟩, A', c'⟩ = Y at Hf HZY HYY HO5 HS5 HRet
    go_wp2_with (first
      | (refine wpList_load_sub rfl 65 _ rfl W.heap.size 0 rfl 65 Y Y (0, 0) _ Hf.out.1 HYY.out Try.underlying65 rfl HZY.out ?_)
      | (refine wpList_store_sub rfl 65 _ _ rfl (W.heap.size + 1 + 1) 0 rfl 65 #[.string ⟨#[]⟩, .slice none 0 0, .int .i64 0, .bool false, .string ⟨#[]⟩] Y rfl Hf.out.2.1 (by rw [HS5.out]; exact Nat.le_refl _) HZY.out HO5.out ?_))
    refine bodyPost_ret (results_cell_row (P := Try.prog) (fn := Try.f58) rfl _ _ (W.heap.size + 1 + 1) 65 Y (0, 0) _ rfl Hf.out.2.2.1 Try.underlying65 rfl HZY.out) rfl ?_
    exact ⟨A', c', by rw [HRet.out], by rw [HL.out]; exact Hf.out.2.2.2.1, Hf.out.2.2.2.2, fun b off _ he => by have h1 := (HA.out b off he).1; have h2 := Hy.out.b.size; omega, by rw [HL.out]; show (rs.take rs.length).length ≤ c'; rw [List.length_take]; have := own_room HO.out; omega⟩
  have p3 : decide ((zn : Int) < (rs.length : Int) - (sy : Int)) = true := by simpa using hlt
  have w2s : IntKind.i64.wrap ((sy : Int) + (zn : Int)) = (sy : Int) + (zn : Int) := IntWalk.i64_in _ (by omega)
  have HKept : Hid (sy + zn = min (sy + (ks.getD k 0).toNat) rs.length) := Lib.hid (by rw [← HZ0.out]; omega)
  have hml : sy + zn < rs.length := by omega
  clear hpos hlt
  go_enter Try.func58, Try.ntmps58
  go_wp2_with fail
  go_quiet (fail)
  go_wp2_with fail
  go_quiet (fail)
  go_upto_region 6 with (fail)
  rw [show (sy : Int) + (zn : Int) = ((sy + zn : Nat) : Int) by omega]
  clear hkc2 w1s w2s
  refine forget (fun Wz => LeftEnd W Wz nm ra rs rc sy ct tn ∧ Wz.heap[W.heap.size + 1]? = some (.cells #[.slice (some ⟨kb, ko, none⟩) ks.length kc, .slice TA ts.length tc] 36 (0, 0))) ⟨(H0.out.1.drew _).drew _, row_drewN _ (row_drewN _ H0.out.2)⟩ ?_
  intro Wz hz
  have c0 := cell_of_row Wz W.heap.size 0 _ _ _ hz.1.r
  have c1 := cell_of_row Wz W.heap.size 1 _ _ _ hz.1.r
  have c2 := cell_of_row Wz W.heap.size 2 _ _ _ hz.1.r
  have c3 := cell_of_row Wz W.heap.size 3 _ _ _ hz.1.r
  have c4 := cell_of_row Wz W.heap.size 4 _ _ _ hz.1.r
  have k0 := cell_of_row Wz (W.heap.size + 1) 0 _ _ _ hz.2
  have k1 := cell_of_row Wz (W.heap.size + 1) 1 _ _ _ hz.2
  have f3 := frozen_of_row Wz W.heap.size 3 _ _ hz.1.r
  have f4 := frozen_of_row Wz W.heap.size 4 _ _ hz.1.r
  have Hz := Lib.hid hz
  clear hz
  
  obtain ⟨m, hm⟩ : ∃ m, m = sy + zn := ⟨_, rfl⟩
  have HKm : Hid (m = min (sy + (ks.getD k 0).toNat) rs.length) := Lib.hid (by rw [hm]; exact HKept.out)
  rw [← hm] at hml
  simp only [← hm]
  clear hm
  have q1 : decide (m < rs.length) = true := by simpa using hml
  by_cases ht : k < ts.length
  case neg =>
    have q2 : decide (k < ts.length) = false := by simpa using ht
    go_upto_region 14 with (fail)
    refine forget (fun Wy => LeftEnd W Wy nm ra rs rc sy true tn) (Hz.out.1.set 3 (.bool true) true tn rfl) ?_
    clear c0 c1 c2 c3 c4 k0 k1 f3 f4
    intro Wy hy
    have Hy := Lib.hid hy
    obtain ⟨rb, ro, hra, hrb, hrc⟩ := HX.out.resolve_left (by intro h; have := sc_length rs; rw [h] at this; simp at this; omega)
    have hsrc : ∀ j u, (sc (rs.take m))[j]? = some u → (Wy.alloc (.cells #[] 9)).cell? ((⟨rb, ro, none⟩ : Addr).add j) = some u := fun j u hu => by
      have e : (⟨rb, ro, none⟩ : Addr).add j = ⟨rb, ro + j, none⟩ := by unfold Addr.add; split <;> simp_all
      rw [e]
      refine ((bnew Hy.out.b _).cell (p := ⟨rb, ro + j, none⟩) hrb).trans (hrc j u ?_)
      have hj : j < (rs.take m).length := by have := (List.getElem?_eq_some_iff.1 hu).1; rwa [sc_length] at this
      rw [← hu]; unfold sc
      rw [List.getElem?_map, List.getElem?_map, List.getElem?_take, if_pos (by rw [List.length_take] at hj; omega)]
    have hown := own_empty Wy 9
    have c1 : (Wy.alloc (.cells #[] 9)).cell? ⟨W.heap.size, 1, none⟩ = some (.slice ra rs.length rc) := ((bnew (Below.refl _ _) _).cell (p := ⟨W.heap.size, 1, none⟩) (Array.getElem?_eq_some_iff.1 hy.r).1).trans (cell_of_row Wy W.heap.size 1 _ _ _ hy.r)
    obtain ⟨hi, hz0, hz1, hz2⟩ := HI.out
    have Hsrc := Lib.hid hsrc
    have HL := Lib.hid (HKp.out m true tn HKm.out (by simp [hml]) (by rw [if_neg (fun h => ht h.2)]))
    cases hra
    clear hy hsrc hrc
    go_upto_region 15 with (at_builtin; refine wpList_app_own rfl (.tmp 92) (.tmp 96) 52 rfl Wy.heap.size 9 i0 (.string ⟨#[]⟩) 1 16 Try.underlying52 hi hz0 hz1 hz2 rfl (by decide) _ _ _ rfl hown ⟨rb, ro, none⟩ m rc (sc (rs.take m)) rfl (by rw [sc_length, List.length_take]; omega) Hsrc.out (fun u hu => by obtain ⟨s, _, rfl⟩ := List.mem_map.1 hu; rfl) (by simp only [maxLen]; omega) (by omega) (by simp) ?_; intro v' w2 ho hg hn; obtain ⟨A', c', rfl, hA'⟩ := own_slice ho; have HO := Lib.hid ho; have HA := Lib.hid hA'; have HB2 : Hid (Below Wy.heap.size Wy w2) := Lib.hid ((bnew (Below.refl _ _) _).grown hg (by simp) (fun j hj => (own_lt hown hj).2)); have hl2 := Hy.out.below HB2.out; have d1 := cell_of_row w2 W.heap.size 1 _ _ _ hl2.r; have e1 := frozen_of_row w2 W.heap.size 1 _ _ hl2.r; have d2 := cell_of_row w2 W.heap.size 2 _ _ _ hl2.r; have e2 := frozen_of_row w2 W.heap.size 2 _ _ hl2.r; have Hl2 := Lib.hid hl2; clear ho hg hn hl2 hA' c1 hown)
    go_upto_region 16 with (fail)
    have hfin := left_fin (m := m) Hl2.out (by have := HO.out; simpa using this) (by omega) (by have := (Array.getElem?_eq_some_iff.1 Hy.out.z).1; omega) (fun b off he => (HA.out b off he).1)
    have Hf := Lib.hid hfin
    have HZY := Lib.hid (sizeFl ⟨⟨nm, rs.take m, m, true, tn⟩, A', c'⟩)
    have HYY : Hid (∀ j, j < (flC ⟨⟨nm, rs.take m, m, true, tn⟩, A', c'⟩).size → (flC ⟨⟨nm, rs.take m, m, true, tn⟩, A', c'⟩)[0 + j]? = (flC ⟨⟨nm, rs.take m, m, true, tn⟩, A', c'⟩)[j]?) := Lib.hid fun j _ => by rw [Nat.zero_add]
    have HO5 := Lib.hid (flOne ⟨⟨nm, rs.take m, m, true, tn⟩, A', c'⟩)
    have HS5 : Hid ((flC ⟨⟨nm, rs.take m, m, true, tn⟩, A', c'⟩).size = 5) := Lib.hid rfl
    have HRet : Hid (flC ⟨Dk.leave ⟨nm, rs, sy, ct, tn⟩ ks ts k, A', c'⟩ = flC ⟨⟨nm, rs.take m, m, true, tn⟩, A', c'⟩) := Lib.hid (by rw [HL.out])
    clear hfin
    unfold leftW at Hf
    generalize flC ⟨⟨nm, rs.take m, m, true, tn⟩, A', c'⟩ = Y at Hf HZY HYY HO5 HS5 HRet
    go_wp2_with (first
      | (refine wpList_load_sub rfl 65 _ rfl W.heap.size 0 rfl 65 Y Y (0, 0) _ Hf.out.1 HYY.out Try.underlying65 rfl HZY.out ?_)
      | (refine wpList_store_sub rfl 65 _ _ rfl (W.heap.size + 1 + 1) 0 rfl 65 #[.string ⟨#[]⟩, .slice none 0 0, .int .i64 0, .bool false, .string ⟨#[]⟩] Y rfl Hf.out.2.1 (by rw [HS5.out]; exact Nat.le_refl _) HZY.out HO5.out ?_))
    refine bodyPost_ret (results_cell_row (P := Try.prog) (fn := Try.f58) rfl _ _ (W.heap.size + 1 + 1) 65 Y (0, 0) _ rfl Hf.out.2.2.1 Try.underlying65 rfl HZY.out) rfl ?_
    exact ⟨A', c', by rw [HRet.out], by rw [HL.out]; exact Hf.out.2.2.2.1, Hf.out.2.2.2.2, fun b off _ he => by have h1 := (HA.out b off he).1; have h2 := Hy.out.b.size; omega, by rw [HL.out]; show (rs.take m).length ≤ c'; rw [List.length_take]; have := own_room HO.out; omega⟩
  have q2 : decide (k < ts.length) = true := by simpa using ht
  obtain ⟨tb, t0, hTA, htb, htc⟩ := ic_cell HT.out k ht
  have htc2 := (Hz.out.1.b.cell (p := ⟨tb, t0 + k, none⟩) htb).trans htc
  obtain ⟨rb0, ro0, hra0, hrb0, hrc0⟩ := HX.out.str m hml
  have hrc2 := (Hz.out.1.b.cell (p := ⟨rb0, ro0 + m, none⟩) hrb0).trans hrc0
  obtain ⟨hs1, hs2⟩ := HSz.out m hml
  have hgd : rs.getD m Dk.e0 = rs[m] := by rw [List.getD_eq_getElem?_getD, List.getElem?_eq_getElem hml]; rfl
  obtain ⟨r, hr⟩ : ∃ r, r = rs[m] := ⟨_, rfl⟩
  rw [← hr] at hrc2 hs1 hs2 hgd
  obtain ⟨tz, htz⟩ : ∃ z, z = ts.getD k 0 := ⟨_, rfl⟩
  rw [← htz] at htc2
  have htzb : -9223372036854775808 ≤ tz ∧ tz ≤ 9223372036854775807 := by
    rw [htz, List.getD_eq_getElem?_getD, List.getElem?_eq_getElem ht]; exact HTn.out _ (List.getElem_mem ht)
  have hem := emod_tmod tz r.size hs1
  have hbd := tmod_bounds tz r.size hs1
  have hu0 := Int.emod_nonneg tz (show (r.size : Int) ≠ 0 by omega)
  have hu1 := Int.emod_lt_of_pos tz (show (0 : Int) < (r.size : Int) by omega)
  obtain ⟨u, hu⟩ := Int.eq_ofNat_of_zero_le hu0
  have hul : u < r.size := by rw [hu] at hu1; omega
  have htn : (if m < rs.length ∧ k < ts.length then (rs.getD m Dk.e0).extract 0 (ts.getD k 0 % ((rs.getD m Dk.e0).size : Int)).toNat else tn) = r.extract 0 u := by
    rw [if_pos ⟨hml, ht⟩, hgd, ← htz, hu]; simp
  have HTN := Lib.hid htn
  have hrp : (0 : Int) < (r.size : Int) := by omega
  rw [hu] at hem
  obtain ⟨z, hzz⟩ : ∃ z, z = tz.tmod (r.size : Int) := ⟨_, rfl⟩
  rw [← hzz] at hem hbd
  have hzr : tz.tmod (r.size : Int) = z := hzz.symm
  have hr0 : ((r.size : Int) == 0) = false := beq_eq_false_iff_ne.2 (by omega)
  have HML : Hid (decide (m < rs.length) = true) := Lib.hid q1
  cases hra0
  subst hTA
  clear htc hrc0 hgd hr htz hzz hu hu0 hu1 htn
  by_cases hneg : z < 0
  case neg =>
    rw [if_neg hneg] at hem
    subst hem
    have q3 : decide ((u : Int) < 0) = false := by simp
    clear hneg
    go_upto_region 14 with (fail)
    refine forget (fun Wy => LeftEnd W Wy nm (some ⟨rb0, ro0, none⟩) rs rc sy true (r.extract 0 u)) ((Hz.out.1.set 3 (.bool true) true tn rfl).set 4 (.string (r.extract 0 u)) true (r.extract 0 u) rfl) ?_
    clear c0 c1 c2 c3 c4 k0 k1 f3 f4
    intro Wy hy
    have Hy := Lib.hid hy
    obtain ⟨rb, ro, hra, hrb, hrc⟩ := HX.out.resolve_left (by intro h; have := sc_length rs; rw [h] at this; simp at this; omega)
    have hsrc : ∀ j u, (sc (rs.take m))[j]? = some u → (Wy.alloc (.cells #[] 9)).cell? ((⟨rb, ro, none⟩ : Addr).add j) = some u := fun j u hu => by
      have e : (⟨rb, ro, none⟩ : Addr).add j = ⟨rb, ro + j, none⟩ := by unfold Addr.add; split <;> simp_all
      rw [e]
      refine ((bnew Hy.out.b _).cell (p := ⟨rb, ro + j, none⟩) hrb).trans (hrc j u ?_)
      have hj : j < (rs.take m).length := by have := (List.getElem?_eq_some_iff.1 hu).1; rwa [sc_length] at this
      rw [← hu]; unfold sc
      rw [List.getElem?_map, List.getElem?_map, List.getElem?_take, if_pos (by rw [List.length_take] at hj; omega)]
    have hown := own_empty Wy 9
    have c1 : (Wy.alloc (.cells #[] 9)).cell? ⟨W.heap.size, 1, none⟩ = some (.slice (some ⟨rb0, ro0, none⟩) rs.length rc) := ((bnew (Below.refl _ _) _).cell (p := ⟨W.heap.size, 1, none⟩) (Array.getElem?_eq_some_iff.1 hy.r).1).trans (cell_of_row Wy W.heap.size 1 _ _ _ hy.r)
    obtain ⟨hi, hz0, hz1, hz2⟩ := HI.out
    have Hsrc := Lib.hid hsrc
    have HL := Lib.hid (HKp.out m true (r.extract 0 u) HKm.out (by rw [HML.out]; simp) HTN.out.symm)
    cases hra
    clear hy hsrc hrc
    go_upto_region 15 with (at_builtin; refine wpList_app_own rfl (.tmp 92) (.tmp 96) 52 rfl Wy.heap.size 9 i0 (.string ⟨#[]⟩) 1 16 Try.underlying52 hi hz0 hz1 hz2 rfl (by decide) _ _ _ rfl hown ⟨rb0, ro0, none⟩ m rc (sc (rs.take m)) rfl (by rw [sc_length, List.length_take]; omega) Hsrc.out (fun u hu => by obtain ⟨s, _, rfl⟩ := List.mem_map.1 hu; rfl) (by simp only [maxLen]; omega) (by omega) (by simp) ?_; intro v' w2 ho hg hn; obtain ⟨A', c', rfl, hA'⟩ := own_slice ho; have HO := Lib.hid ho; have HA := Lib.hid hA'; have HB2 : Hid (Below Wy.heap.size Wy w2) := Lib.hid ((bnew (Below.refl _ _) _).grown hg (by simp) (fun j hj => (own_lt hown hj).2)); have hl2 := Hy.out.below HB2.out; have d1 := cell_of_row w2 W.heap.size 1 _ _ _ hl2.r; have e1 := frozen_of_row w2 W.heap.size 1 _ _ hl2.r; have d2 := cell_of_row w2 W.heap.size 2 _ _ _ hl2.r; have e2 := frozen_of_row w2 W.heap.size 2 _ _ hl2.r; have Hl2 := Lib.hid hl2; clear ho hg hn hl2 hA' c1 hown)
    go_upto_region 16 with (fail)
    have hfin := left_fin (m := m) Hl2.out (by have := HO.out; simpa using this) (by omega) (by have := (Array.getElem?_eq_some_iff.1 Hy.out.z).1; omega) (fun b off he => (HA.out b off he).1)
    have Hf := Lib.hid hfin
    have HZY := Lib.hid (sizeFl ⟨⟨nm, rs.take m, m, true, (r.extract 0 u)⟩, A', c'⟩)
    have HYY : Hid (∀ j, j < (flC ⟨⟨nm, rs.take m, m, true, (r.extract 0 u)⟩, A', c'⟩).size → (flC ⟨⟨nm, rs.take m, m, true, (r.extract 0 u)⟩, A', c'⟩)[0 + j]? = (flC ⟨⟨nm, rs.take m, m, true, (r.extract 0 u)⟩, A', c'⟩)[j]?) := Lib.hid fun j _ => by rw [Nat.zero_add]
    have HO5 := Lib.hid (flOne ⟨⟨nm, rs.take m, m, true, (r.extract 0 u)⟩, A', c'⟩)
    have HS5 : Hid ((flC ⟨⟨nm, rs.take m, m, true, (r.extract 0 u)⟩, A', c'⟩).size = 5) := Lib.hid rfl
    have HRet : Hid (flC ⟨Dk.leave ⟨nm, rs, sy, ct, tn⟩ ks ts k, A', c'⟩ = flC ⟨⟨nm, rs.take m, m, true, (r.extract 0 u)⟩, A', c'⟩) := Lib.hid (by rw [HL.out])
    clear hfin
    unfold leftW at Hf
    generalize flC ⟨⟨nm, rs.take m, m, true, (r.extract 0 u)⟩, A', c'⟩ = Y at Hf HZY HYY HO5 HS5 HRet
    go_wp2_with (first
      | (refine wpList_load_sub rfl 65 _ rfl W.heap.size 0 rfl 65 Y Y (0, 0) _ Hf.out.1 HYY.out Try.underlying65 rfl HZY.out ?_)
      | (refine wpList_store_sub rfl 65 _ _ rfl (W.heap.size + 1 + 1) 0 rfl 65 #[.string ⟨#[]⟩, .slice none 0 0, .int .i64 0, .bool false, .string ⟨#[]⟩] Y rfl Hf.out.2.1 (by rw [HS5.out]; exact Nat.le_refl _) HZY.out HO5.out ?_))
    refine bodyPost_ret (results_cell_row (P := Try.prog) (fn := Try.f58) rfl _ _ (W.heap.size + 1 + 1) 65 Y (0, 0) _ rfl Hf.out.2.2.1 Try.underlying65 rfl HZY.out) rfl ?_
    exact ⟨A', c', by rw [HRet.out], by rw [HL.out]; exact Hf.out.2.2.2.1, Hf.out.2.2.2.2, fun b off _ he => by have h1 := (HA.out b off he).1; have h2 := Hy.out.b.size; omega, by rw [HL.out]; show (rs.take m).length ≤ c'; rw [List.length_take]; have := own_room HO.out; omega⟩
  rw [if_pos hneg] at hem
  have hsum : z + (r.size : Int) = (u : Int) := hem.symm
  have q3 : decide (z < 0) = true := by simpa using hneg
  clear hneg hem
  go_upto_region 14 with (fail)
  refine forget (fun Wy => LeftEnd W Wy nm (some ⟨rb0, ro0, none⟩) rs rc sy true (r.extract 0 u)) ((Hz.out.1.set 3 (.bool true) true tn rfl).set 4 (.string (r.extract 0 u)) true (r.extract 0 u) rfl) ?_
  clear c0 c1 c2 c3 c4 k0 k1 f3 f4
  intro Wy hy
  have Hy := Lib.hid hy
  obtain ⟨rb, ro, hra, hrb, hrc⟩ := HX.out.resolve_left (by intro h; have := sc_length rs; rw [h] at this; simp at this; omega)
  have hsrc : ∀ j u, (sc (rs.take m))[j]? = some u → (Wy.alloc (.cells #[] 9)).cell? ((⟨rb, ro, none⟩ : Addr).add j) = some u := fun j u hu => by
    have e : (⟨rb, ro, none⟩ : Addr).add j = ⟨rb, ro + j, none⟩ := by unfold Addr.add; split <;> simp_all
    rw [e]
    refine ((bnew Hy.out.b _).cell (p := ⟨rb, ro + j, none⟩) hrb).trans (hrc j u ?_)
    have hj : j < (rs.take m).length := by have := (List.getElem?_eq_some_iff.1 hu).1; rwa [sc_length] at this
    rw [← hu]; unfold sc
    rw [List.getElem?_map, List.getElem?_map, List.getElem?_take, if_pos (by rw [List.length_take] at hj; omega)]
  have hown := own_empty Wy 9
  have c1 : (Wy.alloc (.cells #[] 9)).cell? ⟨W.heap.size, 1, none⟩ = some (.slice (some ⟨rb0, ro0, none⟩) rs.length rc) := ((bnew (Below.refl _ _) _).cell (p := ⟨W.heap.size, 1, none⟩) (Array.getElem?_eq_some_iff.1 hy.r).1).trans (cell_of_row Wy W.heap.size 1 _ _ _ hy.r)
  obtain ⟨hi, hz0, hz1, hz2⟩ := HI.out
  have Hsrc := Lib.hid hsrc
  have HL := Lib.hid (HKp.out m true (r.extract 0 u) HKm.out (by rw [HML.out]; simp) HTN.out.symm)
  cases hra
  clear hy hsrc hrc
  go_upto_region 15 with (at_builtin; refine wpList_app_own rfl (.tmp 92) (.tmp 96) 52 rfl Wy.heap.size 9 i0 (.string ⟨#[]⟩) 1 16 Try.underlying52 hi hz0 hz1 hz2 rfl (by decide) _ _ _ rfl hown ⟨rb0, ro0, none⟩ m rc (sc (rs.take m)) rfl (by rw [sc_length, List.length_take]; omega) Hsrc.out (fun u hu => by obtain ⟨s, _, rfl⟩ := List.mem_map.1 hu; rfl) (by simp only [maxLen]; omega) (by omega) (by simp) ?_; intro v' w2 ho hg hn; obtain ⟨A', c', rfl, hA'⟩ := own_slice ho; have HO := Lib.hid ho; have HA := Lib.hid hA'; have HB2 : Hid (Below Wy.heap.size Wy w2) := Lib.hid ((bnew (Below.refl _ _) _).grown hg (by simp) (fun j hj => (own_lt hown hj).2)); have hl2 := Hy.out.below HB2.out; have d1 := cell_of_row w2 W.heap.size 1 _ _ _ hl2.r; have e1 := frozen_of_row w2 W.heap.size 1 _ _ hl2.r; have d2 := cell_of_row w2 W.heap.size 2 _ _ _ hl2.r; have e2 := frozen_of_row w2 W.heap.size 2 _ _ hl2.r; have Hl2 := Lib.hid hl2; clear ho hg hn hl2 hA' c1 hown)
  go_upto_region 16 with (fail)
  have hfin := left_fin (m := m) Hl2.out (by have := HO.out; simpa using this) (by omega) (by have := (Array.getElem?_eq_some_iff.1 Hy.out.z).1; omega) (fun b off he => (HA.out b off he).1)
  have Hf := Lib.hid hfin
  have HZY := Lib.hid (sizeFl ⟨⟨nm, rs.take m, m, true, (r.extract 0 u)⟩, A', c'⟩)
  have HYY : Hid (∀ j, j < (flC ⟨⟨nm, rs.take m, m, true, (r.extract 0 u)⟩, A', c'⟩).size → (flC ⟨⟨nm, rs.take m, m, true, (r.extract 0 u)⟩, A', c'⟩)[0 + j]? = (flC ⟨⟨nm, rs.take m, m, true, (r.extract 0 u)⟩, A', c'⟩)[j]?) := Lib.hid fun j _ => by rw [Nat.zero_add]
  have HO5 := Lib.hid (flOne ⟨⟨nm, rs.take m, m, true, (r.extract 0 u)⟩, A', c'⟩)
  have HS5 : Hid ((flC ⟨⟨nm, rs.take m, m, true, (r.extract 0 u)⟩, A', c'⟩).size = 5) := Lib.hid rfl
  have HRet : Hid (flC ⟨Dk.leave ⟨nm, rs, sy, ct, tn⟩ ks ts k, A', c'⟩ = flC ⟨⟨nm, rs.take m, m, true, (r.extract 0 u)⟩, A', c'⟩) := Lib.hid (by rw [HL.out])
  clear hfin
  unfold leftW at Hf
  generalize flC ⟨⟨nm, rs.take m, m, true, (r.extract 0 u)⟩, A', c'⟩ = Y at Hf HZY HYY HO5 HS5 HRet
  go_wp2_with (first
    | (refine wpList_load_sub rfl 65 _ rfl W.heap.size 0 rfl 65 Y Y (0, 0) _ Hf.out.1 HYY.out Try.underlying65 rfl HZY.out ?_)
    | (refine wpList_store_sub rfl 65 _ _ rfl (W.heap.size + 1 + 1) 0 rfl 65 #[.string ⟨#[]⟩, .slice none 0 0, .int .i64 0, .bool false, .string ⟨#[]⟩] Y rfl Hf.out.2.1 (by rw [HS5.out]; exact Nat.le_refl _) HZY.out HO5.out ?_))
  refine bodyPost_ret (results_cell_row (P := Try.prog) (fn := Try.f58) rfl _ _ (W.heap.size + 1 + 1) 65 Y (0, 0) _ rfl Hf.out.2.2.1 Try.underlying65 rfl HZY.out) rfl ?_
  exact ⟨A', c', by rw [HRet.out], by rw [HL.out]; exact Hf.out.2.2.2.1, Hf.out.2.2.2.2, fun b off _ he => by have h1 := (HA.out b off he).1; have h2 := Hy.out.b.size; omega, by rw [HL.out]; show (rs.take m).length ≤ c'; rw [List.length_take]; have := own_room HO.out; omega⟩
end Go.Proofs.Ytjmnoogaffjdiaa
