/-
  Read, Records walked.
  List walked, over the library's sort.
  slices.Sort of strings, by the library's contract: its functions and types in this program. WRITTEN BY wip/tools/mk_sort.py.
-/
import Derived.Test.YtdcjhpnakbejkaaGreatDoorRDmR
import Derived.Laws.BytesArg
import Derived.Laws.IdiomStrings
import Derived.Sort.OwnSorted
import Derived.Maps.OwnSet
import Derived.OwnWalk
import Derived.Shelf.Sort.Plain
set_option linter.unusedSimpArgs false
set_option linter.unusedVariables false
namespace Go.Proofs.YtdcjhpnakbejkaaGreatDoor
open Go.RowKit
set_option maxRecDepth 100000 in
theorem run_str_own {w : World} {A : Option Addr} {n c : Nat} {s : ByteArray} (h : w.ownsRow 0 5 1 (.slice A n c) n (Lib.strCells s)) : (convert 153 9 (.slice A n c)).run Tryz.prog w = .ok (.string s) w := by
  have hl : s.size = n := by have := h.1; rw [Lib.strCells_length] at this; omega
  have hz : (⟨s.data.toList.toArray⟩ : ByteArray) = s := by rw [Array.toArray_toList]
  rcases h.2 with ⟨hv, hn⟩ | ⟨g, cap, cur, hv, _, hg, _, _, _, htake⟩
  · injection hv with a b c2
    subst a b c2
    have : s = ⟨#[]⟩ := ByteArray.ext (Array.eq_empty_of_size_eq_zero hl)
    subst this
    exact run_convert_bytes_nil _ _ _ Tryz.underlying153 Tryz.underlying5 _ _ _ Tryz.underlying9
  · injection hv with a b c2
    subst a c2
    have hb := run_convert_bytes_back w 153 9 5 ⟨g, 0, none⟩ c s.data.toList Tryz.underlying153 Tryz.underlying5 Tryz.underlying9 (fun j hj => by
      exact World.ownsRow.cells h (g := g) rfl j _ (by rw [Lib.strCells, List.getElem?_map, List.getElem?_eq_getElem hj]; rfl))
    rw [← Lib.size_eq, hl, hz] at hb
    exact hb
set_option maxRecDepth 100000 in
theorem dRead_any (W : World) (p : Nat) (S : Nat → Prop) (d : Dk.D) (n : ByteArray) (h : DmAt W p S d) (hn : n.size ≤ 100000000) :
    Calls Tryz.prog 31 #[.pointer (some ⟨p, 0, none⟩), .string n] W fun e w' => e = .returned (.tuple #[.string ⟨(Dk.read d n).1.toArray⟩, .int .i64 (eno (Dk.read d n).2)]) ∧ Below W.heap.size W w' := by
  obtain ⟨mb, hs, hS, h0⟩ := h
  have HP := Lib.hid (power_any W p mb _ _ hS.head)
  obtain ⟨R, hR⟩ : ∃ R, R = Dk.read d n := ⟨_, rfl⟩
  rw [← hR]
  cases ho : d.off
  case true =>
    have HR : Hid (R = ([], .down)) := Lib.hid (by rw [hR, Dk.read, if_pos ho])
    rw [ho, if_pos rfl] at HP
    clear hS h0 hR ho hn
    go_enter Tryz.func31, Tryz.ntmps31
    go_wp2_with fail
    refine (HP.out).mono ?_
    rintro e w1 ⟨rfl, rfl⟩
    go_wp2_with fail
    go_ret2
    exact ⟨by rw [HR.out]; rfl, Below.refl _ _⟩
  have hof : ¬ d.off = true := by rw [ho]; decide
  rw [ho, if_neg (by decide)] at HP
  have c0 := hS.head.c0
  rcases hfnd : hfind hs n with _ | g
  · have HR : Hid (R = ([], .none)) := Lib.hid (by rw [hR, Dk.read, if_neg hof, find_d hS, hfnd]; rfl)
    have hlk := look_none hS.map n hn hfnd
    clear hS h0 hR ho hn hof hfnd
    go_enter Tryz.func31, Tryz.ntmps31
    go_wp2_with fail
    refine (HP.out).mono ?_
    rintro e w1 ⟨rfl, rfl⟩
    go_wp2_with fail
    go_ret2
    exact ⟨by rw [HR.out]; rfl, Below.refl _ _⟩
  · have HR : Hid (R = (Dk.bytes g.f, .ok)) := Lib.hid (by rw [hR, Dk.read, if_neg hof, find_d hS, hfnd]; rfl)
    have hlk := look_some hS.map n hn hfnd
    have hf := hS.ok g (hfind_some hfnd).1
    have c3 := hf.c.1
    have hcv := run_str_own hf.cont
    have HB : Hid ((⟨(Dk.bytes g.f).toArray⟩ : ByteArray) = cb g.f) := Lib.hid rfl
    obtain ⟨Z, hZ⟩ : ∃ Z, Z = (cb g.f).size := ⟨_, rfl⟩
    rw [← hZ] at c3 hcv
    clear hS h0 hR ho hn hof hfnd hf hZ
    go_enter Tryz.func31, Tryz.ntmps31
    go_wp2_with fail
    refine (HP.out).mono ?_
    rintro e w1 ⟨rfl, rfl⟩
    go_wp2_with fail
    go_ret2
    exact ⟨by rw [HR.out, HB.out]; rfl, Below.refl _ _⟩
set_option maxRecDepth 100000 in
theorem dRecords_any (W : World) (p : Nat) (S : Nat → Prop) (d : Dk.D) (n : ByteArray) (h : DmAt W p S d) (hn : n.size ≤ 100000000) :
    Calls Tryz.prog 95 #[.pointer (some ⟨p, 0, none⟩), .string n] W fun e w' => e = .returned (.tuple #[.int .i64 ((Dk.records d n).1 : Int), .int .i64 ((Dk.records d n).2 : Int)]) ∧ Below W.heap.size W w' := by
  obtain ⟨mb, hs, hS, h0⟩ := h
  have HP := Lib.hid (isMade_any W p mb _ _ hS.head)
  obtain ⟨R, hR⟩ : ∃ R, R = Dk.records d n := ⟨_, rfl⟩
  rw [← hR]
  have c0 := hS.head.c0
  rcases hfnd : hfind hs n with _ | g
  · have HR : Hid (R = (0, 0)) := Lib.hid (by rw [hR, Dk.records, find_d hS, hfnd]; rfl)
    have hlk := look_none hS.map n hn hfnd
    clear hS h0 hR hn hfnd
    go_enter Tryz.func95, Tryz.ntmps95
    go_wp2_with fail
    refine (HP.out).mono ?_
    rintro e w1 ⟨rfl, rfl⟩
    go_wp2_with fail
    go_ret2
    exact ⟨by rw [HR.out]; rfl, Below.refl _ _⟩
  · have hlk := look_some hS.map n hn hfnd
    have hg := (hfind_some hfnd).1
    have hf := hS.ok g hg
    have hok := okf_of hS hg
    have hfl := fl_load hS hg
    have hSl := hS.load
    have hfl2 : 1 + g.f.name.size + g.f.recs.length + Dk.sz g.f.recs + g.f.torn.size ≤ Dk.load d := hfl
    obtain ⟨_, c1, c2, _⟩ := hf.c
    have hnl := Dk.starts_length g.f
    have hsy := hok.syn
    obtain ⟨u, hu⟩ : ∃ u, u = (Dk.starts g.f).length := ⟨_, rfl⟩
    obtain ⟨y, hy⟩ : ∃ y, y = g.f.syn := ⟨_, rfl⟩
    have HR : Hid (R = (y + u, y)) := Lib.hid (by
      rw [hR, Dk.records, find_d hS, hfnd, hu, hy, hnl]
      show (g.f.recs.length, g.f.syn) = _
      congr 1; omega)
    rw [← hu] at c2
    rw [← hy] at c1
    have b1 : (y : Int) + (u : Int) ≤ 9223372036854775807 := by omega
    have b2 : y + u ≤ 100000000 := by omega
    clear hS h0 hR hn hfnd hf hu hy hnl hok hfl hSl hfl2 hg hsy
    go_enter Tryz.func95, Tryz.ntmps95
    go_wp2_with fail
    refine (HP.out).mono ?_
    rintro e w1 ⟨rfl, rfl⟩
    go_wp2_with fail
    go_region
    all_goals go_wp2_with fail
    all_goals go_ret2
    all_goals exact ⟨by rw [HR.out]; simp, below_drew (Below.refl _ _)⟩
end Go.Proofs.YtdcjhpnakbejkaaGreatDoor
namespace Go.Proofs.YtdcjhpnakbejkaaGreatDoor
open Go.RowKit Go.Sort
open Go.Maps (Keyed)
/-- The library's sort of strings. -/
def SortStr : Prop := ∀ (blk off cap : Nat) (ss : List (List UInt8)) (w : World), Holds encStr w blk off ss.toArray → blk < w.heap.size → ss.length < 4611686018427387904 →
  Calls Tryz.prog 112 #[.slice (some ⟨blk, off, none⟩) ss.length cap] w fun e w' => e = .returned (.tuple #[]) ∧ ∃ n os, w' = grow (putRow encStr (Sort.ahead w n) blk off (ss.mergeSort fun x y => decide (x ≤ y)).toArray) os
def nk (l : Sm.Row) : List (List UInt8) := l.map fun q => q.1.data.toList
theorem nk_pair (hs : List Hm) : nk (hs.map pair) = (hs.map (·.f)).map fun f => f.name.data.toList := by simp [nk, pair, Function.comp_def]
theorem names_enc (fs : List Dk.Fl) : (fs.map fun f => f.name.data.toList).map encStr = sc (fs.map (·.name)) := by
  simp [sc, Function.comp_def, encStr]
theorem names_sorted (fs : List Dk.Fl) (hr : Dk.Rises fs) : (fs.map fun f => f.name.data.toList).Pairwise (fun a b => decide (a ≤ b) = true) := by
  induction fs with
  | nil => exact List.Pairwise.nil
  | cons x xs ih =>
    rw [List.map_cons, List.pairwise_cons]
    refine ⟨fun b hb => ?_, ih hr.2⟩
    obtain ⟨g, hg, rfl⟩ := List.mem_map.1 hb
    exact decide_eq_true (List.le_of_lt (hr.1 g hg))
theorem sort_names {ss : List (List UInt8)} (fs : List Dk.Fl) (hr : Dk.Rises fs) (hp : ss.Perm (fs.map fun f => f.name.data.toList)) : (ss.mergeSort fun x y => decide (x ≤ y)) = fs.map fun f => f.name.data.toList := by
  have h1 : (ss.mergeSort fun x y => decide (x ≤ y)).Pairwise (fun a b => decide (a ≤ b) = true) := List.pairwise_mergeSort (fun a b c h1 h2 => by simp at *; exact List.le_trans h1 h2) (fun a b => by simp; exact List.le_total a b) ss
  refine List.Perm.eq_of_pairwise (fun a b _ _ h2 h3 => ?_) h1 (names_sorted fs hr) ((List.mergeSort_perm ss _).trans hp)
  simp at h2 h3
  exact List.le_antisymm h2 h3
theorem SRg.obj {P : Program} {k : TypeId} {W : World} {b r cnt : Nat} {l done : Sm.Row} (h : SRg P k W b r l done cnt) : ∃ x y z u, W.heap[r]? = some (.mapIter x y z u) := by
  obtain ⟨lf, ⟨es, clock, since, seen, c0, g1, F, hs, hD, g2, rest⟩, _⟩ := h
  exact ⟨_, _, _, _, g2⟩
theorem own_ne_iter {P : Program} {k : TypeId} {W : World} {b r cnt : Nat} {l done : Sm.Row} (h : SRg P k W b r l done cnt) {B : Nat} {e : TypeId} {s : Nat} {v : Value} {n : Nat} {xs : List Value} (ho : W.ownsRow B e s v n xs) : v.ownBlock ≠ some r := fun hk => by
  obtain ⟨x, y, z, u, h1⟩ := h.obj
  obtain ⟨cur, h2⟩ := own_obj ho hk
  rw [h1] at h2
  cases h2
theorem own_grown {W W' : World} {B : Nat} {e : TypeId} {s : Nat} {v : Value} {n : Nat} {xs : List Value} {row : Option Nat} (ho : W.ownsRow B e s v n xs) (hg : W.grownBy W' row) (hne : ∀ k, row = some k → v.ownBlock ≠ some k) : W'.ownsRow B e s v n xs :=
  own_kept ho fun k hk => hg.block k (own_lt ho hk).1 fun he => hne k he.symm hk
set_option maxRecDepth 100000 in
set_option maxHeartbeats 1000000 in
theorem list_any (hsort : SortStr) (W : World) (p mb : Nat) (hs : List Hm) (d : Dk.D) (h : DkS W p mb hs d) :
    Calls Tryz.prog 60 #[.pointer (some ⟨p, 0, none⟩)] W fun e w' => ∃ A cap, e = .returned (.slice A (Dk.list d).length cap) ∧ w'.ownsRow W.heap.size 9 1 (.slice A (Dk.list d).length cap) (Dk.list d).length (sc (Dk.list d)) ∧ Below W.heap.size W w' := by
  obtain ⟨i0, hi, hz0, hz1, hz2⟩ := info_parts infoStr
  have HP := Lib.hid (isMade_any W p mb _ _ h.head)
  have c0 := h.head.c0
  have hm := h.map
  have hplt := h.head.lt
  obtain ⟨l, hl⟩ : ∃ l, l = hs.map pair := ⟨_, rfl⟩
  have hln : l.length = d.files.length := by rw [hl, ← h.fs]; simp
  have hlm : l.length ≤ 100000000 := by have := Dk.fsLoad_len d.files; have := h.load; unfold Dk.load at this; omega
  have hks : ∀ q ∈ l, q.1.size ≤ 100000000 := fun q hq => by
    rw [hl] at hq
    obtain ⟨g, hg, rfl⟩ := List.mem_map.1 hq
    have := fl_load h hg
    have := h.load
    have e : Dk.flLoad g.f = 1 + g.f.name.size + g.f.recs.length + Dk.sz g.f.recs + g.f.torn.size := rfl
    show g.f.name.size ≤ _
    omega
  rw [← hl] at hm
  have hbl := hm.lt
  have HZ : Hid (Maps.size (.map (l.map Sm.enc) : DataW Value) = l.length) := Lib.hid (by rw [Go.Maps.size_eq, List.length_map])
  have HE : Hid (∀ done : Sm.Row, done.Perm l → (nk done).mergeSort (fun x y => decide (x ≤ y)) = (d.files.map fun f => f.name.data.toList) ∧ (nk done).length = (Dk.list d).length ∧ (nk done).map encStr = (nk done).map encStr) := Lib.hid fun done hd => by
    refine ⟨sort_names d.files h.inv.rises ?_, ?_, rfl⟩
    · rw [← h.fs, ← nk_pair, ← hl]; exact hd.map _
    · unfold nk Dk.list; rw [List.length_map, List.length_map, hd.length_eq, hln]
  have HN : Hid ((d.files.map fun f => f.name.data.toList).map encStr = sc (Dk.list d)) := Lib.hid (names_enc d.files)
  have HC := Lib.hid (fun (s : ByteArray) (hs : s.size ≤ 100000000) (W : World) => stringsClone_any s W (by omega))
  have HKs := Lib.hid hks
  have HSo := Lib.hid hsort
  clear h hl hln hks hsort
  go_enter Tryz.func60, Tryz.ntmps60
  go_wp2_with fail
  refine (HP.out).mono ?_
  rintro e w1 ⟨rfl, rfl⟩
  go_wp2_with (first
    | (at_len; go_loud (refine wpList_len_own _ rfl _ 135 rfl 9 167 Tryz.underlying135 _ mb l.length _ rfl hm ?_; rw [HZ.out]))
    | (at_make; refine wpList_make_own _ rfl _ _ 86 rfl W.heap.size 9 i0 (.string ⟨#[]⟩) 1 Tryz.underlying86 hi hz0 hz1 _ _ _ l.length rfl rfl rfl (by rw [hz2]; omega) (by simp only [maxLen]; omega) (Nat.le_refl _) ?_; intro w1 hrow1 hg1; have c0' : w1.cell? ⟨p, 0, none⟩ = some (.map (some mb)) := (World.cell?_of_block (hg1.block p hplt (by simp))).trans c0; obtain ⟨w0, hrun0, hR0, hb0, hz0'⟩ := SMap.range (t := 135) us Tryz.underlying135 (hm.kept (hg1.block mb hbl (by simp))); have H0 := Lib.hid (And.intro hrow1 (And.intro hg1 (And.intro hR0 (And.intro hb0 hz0')))); clear hrow1 hg1 hR0 hb0 hz0')
    | fail)
  go_loopw [3] (fun v wr => ∃ (done : Sm.Row) (cnt : Nat), SRg Tryz.prog 9 wr mb w1.heap.size l done cnt ∧ done.length + cnt ≤ l.length ∧ wr.ownsRow W.heap.size 9 1 v (nk done).length ((nk done).map encStr) ∧ v ≠ .slice none 0 0 ∧ Below W.heap.size W wr ∧ w1.heap.size < wr.heap.size)
    (fun _ wr => wr.rangeLeft mb w1.heap.size)
  case atStart =>
    obtain ⟨hrow1, hg1, hR0, hb0, hz0'⟩ := H0.out
    refine ⟨[], _, hR0, by simp, own_kept hrow1 fun k hk => hb0.block k (own_lt hrow1 hk).1, by simp, ?_, by omega⟩
    exact ((Below.refl _ _).grown hg1 (Nat.le_refl _) (fun j hj => by cases hj)).trans (hb0.mono hg1.size)
  case round =>
    obtain ⟨done, cnt, hR, hcs, hrow, hnn, hnx, hrl⟩ := hrel
    obtain ⟨A, capA, rfl, _⟩ := own_slice hrow
    rcases SRg.next us hR 0 with ⟨hc0, hperm, hrun⟩ | ⟨q, w2, cnt', hq, hnd, hrun, hR2, hlt, hg2, hs2, hen⟩
    · obtain ⟨e1, e2, _⟩ := HE.out done hperm
      rcases hrow.2 with ⟨hnil, _⟩ | ⟨g, cap, cur, hv, hbase, hb, h1, h2, h3, h4⟩
      · exact absurd hnil hnn
      injection hv with ha _ hc
      subst ha hc
      have hH : Holds encStr wr g 0 (nk done).toArray := holds_of_block hb (by simpa using h4)
      have hgl : g < wr.heap.size := (Array.getElem?_eq_some_iff.1 hb).1
      have hnl : (nk done).length ≤ 100000000 := by unfold nk; rw [List.length_map]; omega
      have hS := Lib.hid (HSo.out g 0 capA (nk done) wr hH hgl (by omega))
      have HF : Hid (∀ n os, (grow (putRow encStr (Sort.ahead wr n) g 0 ((nk done).mergeSort fun x y => decide (x ≤ y)).toArray) os).ownsRow W.heap.size 9 1 (.slice (some ⟨g, 0, none⟩) (Dk.list d).length capA) (Dk.list d).length (sc (Dk.list d)) ∧ Below W.heap.size W (grow (putRow encStr (Sort.ahead wr n) g 0 ((nk done).mergeSort fun x y => decide (x ≤ y)).toArray) os) ∧ (nk done).length = (Dk.list d).length) := Lib.hid fun n os => by
        have ho := ownsRow_sorted (n := n) (os := os) (ss := nk done) (ts := (nk done).mergeSort fun x y => decide (x ≤ y)) (by simp) hbase hb h1 h2 h3
        refine ⟨?_, hnx.grown (grownBy_sorted _) hnx.size (fun j hj => by cases hj; exact hbase), e2⟩
        rw [← e2]
        have e3 := HN.out
        rw [← e1] at e3
        rw [← e3]
        exact ho
      clear hrow hR hH hgl hnl e1 e2 h1 h2 h3 h4 hb hcs hperm hnx hrl hbase
      go_wp2_with fail
      refine hS.out.mono ?_
      rintro e w' ⟨rfl, nn, os, rfl⟩
      have HG := Lib.hid (HF.out nn os)
      go_wp2_with fail
      go_ret
      exact ⟨_, _, by rw [HG.out.2.2]; rfl, HG.out.1, HG.out.2.1⟩
    · have hrow2 := own_grown hrow hg2 (fun k hk => by cases hk; exact own_ne_iter hR hrow)
      have hCl := Lib.hid (HC.out q.1 (HKs.out q hq) w2)
      have hnl : (nk done).length ≤ 100000000 := by unfold nk; rw [List.length_map]; omega
      have hsz2 := hg2.size
      have hbase := hnx.size
      have HB2 : Hid (Below W.heap.size W w2 ∧ w1.heap.size < w2.heap.size) := Lib.hid ⟨hnx.grown hg2 hnx.size (fun j hj => by cases hj; have := H0.out.2.1.size; omega), by omega⟩
      have HM := Lib.hid (And.intro (show cnt' < cnt from hlt) (And.intro hcs (And.intro hR.left_eq (And.intro hq hnd))))
      have HR2 := Lib.hid hR2
      have Hrow2 := Lib.hid hrow2
      clear hs2 hrow hR hnd hq hR2 hlt hg2 hrow2 hnx hrl hcs hsz2 hbase
      go_wp2_with fail
      refine hCl.out.mono ?_
      rintro e w3 ⟨rfl, hb3⟩
      have HR3 : Hid (SRg Tryz.prog 9 w3 mb w1.heap.size l (done ++ [q]) cnt' ∧ Below W.heap.size W w3 ∧ w1.heap.size < w3.heap.size) := Lib.hid ⟨HR2.out.kept (hb3.block _ HR2.out.map.lt) (hb3.block _ HR2.out.lt), HB2.out.1.trans (hb3.mono HB2.out.1.size), Nat.lt_of_lt_of_le HB2.out.2 hb3.size⟩
      have Hrow3 : Hid ((w3.alloc (.cells #[.string q.1] 9)).ownsRow W.heap.size 9 1 (.slice A (nk done).length capA) (nk done).length ((nk done).map encStr)) := Lib.hid (own_kept (own_kept Hrow2.out fun k hk => hb3.block k (own_lt Hrow2.out hk).1) fun k hk => (bnew (Below.refl _ _) _).block k (Nat.lt_of_lt_of_le (own_lt Hrow2.out hk).1 hb3.size))
      clear hb3 hrun hen
      go_wp2_with (at_builtin; refine wpList_app_own rfl (.tmp 23) (.tmp 26) 86 rfl W.heap.size 9 i0 (.string ⟨#[]⟩) 1 16 Tryz.underlying86 hi hz0 hz1 hz2 rfl (by decide) _ _ _ rfl Hrow3.out ⟨w3.heap.size, 0, none⟩ 1 1 [.string q.1] rfl rfl (news_fl w3 [.string q.1] 9) (fun u hu => by simp at hu; subst hu; rfl) (by simp only [maxLen]; omega) (by omega) (by have := HR3.out.2.1.size; simp only [World.size_alloc]; omega) ?_)
      intro v' w4 ho4 hg4 hn4
      obtain ⟨A4, c4, rfl, _⟩ := own_slice ho4
      have HR4 : Hid (SRg Tryz.prog 9 w4 mb w1.heap.size l (done ++ [q]) cnt' ∧ w4.ownsRow W.heap.size 9 1 (.slice A4 ((nk done).length + 1) c4) (nk (done ++ [q])).length ((nk (done ++ [q])).map encStr) ∧ Below W.heap.size W w4 ∧ w1.heap.size < w4.heap.size) := Lib.hid (by
        obtain ⟨hR3, hb3, hlt3⟩ := HR3.out
        have hRa := hR3.kept (W' := w3.alloc (.cells #[.string q.1] 9)) ((bnew (Below.refl _ _) _).block _ hR3.map.lt) ((bnew (Below.refl _ _) _).block _ hR3.lt)
        have hlo : ∀ k, (Value.slice A (nk done).length capA).ownBlock = some k → W.heap.size ≤ k := fun k hk => (own_lt Hrow3.out hk).2
        have hR4 := hRa.kept (W' := w4) (hg4.block _ hRa.map.lt fun he => by have := hlo mb he.symm; omega) (hg4.block _ hRa.lt fun he => own_ne_iter hRa Hrow3.out he.symm)
        have hb4 : Below W.heap.size W w4 := (bnew hb3 _).grown hg4 (by have := hb3.size; simp; omega) hlo
        refine ⟨hR4, ?_, hb4, by have := hg4.size; simp at this; omega⟩
        have e1 : (nk (done ++ [q])).length = (nk done).length + 1 := by simp [nk]
        have e2 : (nk (done ++ [q])).map encStr = (nk done).map encStr ++ [.string q.1] := by simp [nk, encStr]
        rw [e1, e2]; exact ho4)
      clear ho4 hg4 hn4
      go_wp2_with fail
      go_roundw
      case rel =>
        obtain ⟨r1, r2, r3, r4⟩ := HR4.out
        obtain ⟨m1, m2, m3, m4, m5⟩ := HM.out
        exact ⟨done ++ [q], cnt', r1, by rw [List.length_append, List.length_singleton]; omega, r2, by simp, r3, r4⟩
      case measure =>
        have e1 := HR4.out.1.left_eq
        have e2 := HM.out.2.2.1
        have e3 := HM.out.1
        omega
end Go.Proofs.YtdcjhpnakbejkaaGreatDoor
namespace Go.Proofs.YtdcjhpnakbejkaaGreatDoor
open Go.Shelf
def dmSortRen : Go.Shelf.Ren := ⟨fun | 190 => 112 | 125 => 130 | 258 => 171 | 128 => 195 | 129 => 196 | 302 => 222 | 303 => 223 | 304 => 224 | 305 => 225 | 306 => 226 | 307 => 227 | 308 => 228 | 309 => 229 | 310 => 230 | 333 => 258 | 329 => 238 | 330 => 239 | 334 => 259 | 335 => 260 | 336 => 261 | 344 => 271 | n => n, fun | 31 => 86 | 9 => 9 | 3 => 3 | 46 => 190 | 0 => 0 | 51 => 25 | 53 => 38 | 4 => 4 | 183 => 245 | 182 => 244 | 131 => 227 | 5 => 5 | 218 => 281 | 222 => 284 | 228 => 304 | 229 => 173 | n => n, fun | n => n⟩
theorem dmSortLays : Go.Proofs.Lays.n190 Tryz.prog dmSortRen := {
  mixed := by kernel_rfl
  f125 := Tryz.func130.trans (congrArg some (by kernel_rfl))
  f128 := Tryz.func195.trans (congrArg some (by kernel_rfl))
  f129 := Tryz.func196.trans (congrArg some (by kernel_rfl))
  f190 := Tryz.func112.trans (congrArg some (by kernel_rfl))
  f258 := Tryz.func171.trans (congrArg some (by kernel_rfl))
  f302 := Tryz.func222.trans (congrArg some (by kernel_rfl))
  f303 := Tryz.func223.trans (congrArg some (by kernel_rfl))
  f304 := Tryz.func224.trans (congrArg some (by kernel_rfl))
  f305 := Tryz.func225.trans (congrArg some (by kernel_rfl))
  f306 := Tryz.func226.trans (congrArg some (by kernel_rfl))
  f307 := Tryz.func227.trans (congrArg some (by kernel_rfl))
  f308 := Tryz.func228.trans (congrArg some (by kernel_rfl))
  f309 := Tryz.func229.trans (congrArg some (by kernel_rfl))
  f310 := Tryz.func230.trans (congrArg some (by kernel_rfl))
  f329 := Tryz.func238.trans (congrArg some (by kernel_rfl))
  f330 := Tryz.func239.trans (congrArg some (by kernel_rfl))
  f333 := Tryz.func258.trans (congrArg some (by kernel_rfl))
  f334 := Tryz.func259.trans (congrArg some (by kernel_rfl))
  f335 := Tryz.func260.trans (congrArg some (by kernel_rfl))
  f336 := Tryz.func261.trans (congrArg some (by kernel_rfl))
  f344 := Tryz.func271.trans (congrArg some (by kernel_rfl))
  t0 := Tryz.underlying0
  a0 := Tryz.isAgg0
  z0 := Tryz.sizeOf0
  v0 := Tryz.zeroValue0
  t3 := Tryz.underlying3
  a3 := Tryz.isAgg3
  z3 := Tryz.sizeOf3
  v3 := Tryz.zeroValue3
  t4 := Tryz.underlying4
  a4 := Tryz.isAgg4
  z4 := Tryz.sizeOf4
  v4 := Tryz.zeroValue4
  t5 := Tryz.underlying5
  a5 := Tryz.isAgg5
  z5 := Tryz.sizeOf5
  v5 := Tryz.zeroValue5
  t9 := Tryz.underlying9
  a9 := Tryz.isAgg9
  z9 := Tryz.sizeOf9
  v9 := Tryz.zeroValue9
  t31 := Tryz.underlying86
  a31 := Tryz.isAgg86
  z31 := Tryz.sizeOf86
  v31 := Tryz.zeroValue86
  t46 := Tryz.underlying190
  a46 := Tryz.isAgg190
  z46 := Tryz.sizeOf190
  v46 := Tryz.zeroValue190
  t51 := Tryz.underlying25
  a51 := Tryz.isAgg25
  z51 := Tryz.sizeOf25
  v51 := Tryz.zeroValue25
  t53 := Tryz.underlying38
  a53 := Tryz.isAgg38
  z53 := Tryz.sizeOf38
  v53 := Tryz.zeroValue38
  t131 := Tryz.underlying227
  a131 := Tryz.isAgg227
  z131 := Tryz.sizeOf227
  v131 := Tryz.zeroValue227
  t182 := Tryz.underlying244
  a182 := Tryz.isAgg244
  z182 := Tryz.sizeOf244
  v182 := Tryz.zeroValue244
  t183 := Tryz.underlying245
  a183 := Tryz.isAgg245
  z183 := Tryz.sizeOf245
  v183 := Tryz.zeroValue245
  t218 := Tryz.underlying281
  a218 := Tryz.isAgg281
  z218 := Tryz.sizeOf281
  v218 := Tryz.zeroValue281
  t222 := Tryz.underlying284
  a222 := Tryz.isAgg284
  z222 := Tryz.sizeOf284
  v222 := Tryz.zeroValue284
  t228 := Tryz.underlying304
  a228 := Tryz.isAgg304
  z228 := Tryz.sizeOf304
  v228 := Tryz.zeroValue304
  t229 := Tryz.underlying173
  a229 := Tryz.isAgg173
  z229 := Tryz.sizeOf173
  v229 := Tryz.zeroValue173 }
open Go.Sort Go.RowKit in
theorem dm_sort (blk off cap : Nat) (ss : List (List UInt8)) (w : World) (hH : Holds encStr w blk off ss.toArray) (hblk : blk < w.heap.size) (hsz : ss.length < 4611686018427387904) :
    Calls Tryz.prog 112 #[.slice (some ⟨blk, off, none⟩) ss.length cap] w fun e w' =>
      e = .returned (.tuple #[]) ∧ ∃ n os, w' = grow (putRow encStr (Sort.ahead w n) blk off (ss.mergeSort fun x y => decide (x ≤ y)).toArray) os := Any.slices_Sort_string dmSortLays blk off cap ss w hH hblk hsz
theorem sortStr : SortStr := fun blk off cap ss w hH hb hl => dm_sort blk off cap ss w hH hb hl
end Go.Proofs.YtdcjhpnakbejkaaGreatDoor
