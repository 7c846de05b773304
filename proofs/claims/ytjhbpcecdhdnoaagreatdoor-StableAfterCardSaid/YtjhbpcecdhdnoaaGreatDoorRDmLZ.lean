/-
  Read, Records walked.
  List walked, over the library's sort.
  slices.Sort of strings, by the library's contract: its functions and types in this program. WRITTEN BY wip/tools/mk_sort.py.
  Crash walked.
  The program's disk is what its methods are to do.
-/
import Derived.Test.YtjhbpcecdhdnoaaGreatDoorRDmR
import Derived.Laws.BytesArg
import Derived.Laws.IdiomStrings
import Derived.Sort.OwnSorted
import Derived.Maps.OwnSet
import Derived.OwnWalk
import Derived.Shelf.Sort.Plain
set_option linter.unusedSimpArgs false
set_option linter.unusedVariables false
namespace Go.Proofs.YtjhbpcecdhdnoaaGreatDoor
open Go.RowKit
set_option maxRecDepth 100000 in
theorem run_str_own {w : World} {A : Option Addr} {n c : Nat} {s : ByteArray} (h : w.ownsRow 0 5 1 (.slice A n c) n (Lib.strCells s)) : (convert 141 9 (.slice A n c)).run Tryz.prog w = .ok (.string s) w := by
  have hl : s.size = n := by have := h.1; rw [Lib.strCells_length] at this; omega
  have hz : (⟨s.data.toList.toArray⟩ : ByteArray) = s := by rw [Array.toArray_toList]
  rcases h.2 with ⟨hv, hn⟩ | ⟨g, cap, cur, hv, _, hg, _, _, _, htake⟩
  · injection hv with a b c2
    subst a b c2
    have : s = ⟨#[]⟩ := ByteArray.ext (Array.eq_empty_of_size_eq_zero hl)
    subst this
    exact run_convert_bytes_nil _ _ _ Tryz.underlying141 Tryz.underlying5 _ _ _ Tryz.underlying9
  · injection hv with a b c2
    subst a c2
    have hb := run_convert_bytes_back w 141 9 5 ⟨g, 0, none⟩ c s.data.toList Tryz.underlying141 Tryz.underlying5 Tryz.underlying9 (fun j hj => by
      exact World.ownsRow.cells h (g := g) rfl j _ (by rw [Lib.strCells, List.getElem?_map, List.getElem?_eq_getElem hj]; rfl))
    rw [← Lib.size_eq, hl, hz] at hb
    exact hb
set_option maxRecDepth 100000 in
theorem dRead_any (W : World) (p : Nat) (S : Nat → Prop) (d : Dk.D) (n : ByteArray) (h : DmAt W p S d) (hn : n.size ≤ 100000000) :
    Calls Tryz.prog 96 #[.pointer (some ⟨p, 0, none⟩), .string n] W fun e w' => e = .returned (.tuple #[.string ⟨(Dk.read d n).1.toArray⟩, .int .i64 (eno (Dk.read d n).2)]) ∧ Below W.heap.size W w' := by
  obtain ⟨mb, hs, hS, h0⟩ := h
  have HP := Lib.hid (power_any W p mb _ _ hS.head)
  obtain ⟨R, hR⟩ : ∃ R, R = Dk.read d n := ⟨_, rfl⟩
  rw [← hR]
  cases ho : d.off
  case true =>
    have HR : Hid (R = ([], .down)) := Lib.hid (by rw [hR, Dk.read, if_pos ho])
    rw [ho, if_pos rfl] at HP
    clear hS h0 hR ho hn
    go_enter Tryz.func96, Tryz.ntmps96
    go_wp2_with fail
    refine (HP.out).mono ?_
    rintro e w1 ⟨rfl, rfl⟩
    go_wp2_with fail
    go_ret2
    exact ⟨by rw [HR.out]; rfl, Below.refl _ _⟩
  have hof : ¬ d.off = true := by rw [ho]; decide
  rw [ho, if_neg (by decide)] at HP
  have c0 := hS.head.c0
  rcases hfnd : hfind hs n with _ | g
  · have HR : Hid (R = ([], .none)) := Lib.hid (by rw [hR, Dk.read, if_neg hof, find_d hS, hfnd]; rfl)
    have hlk := look_none hS.map n hn hfnd
    clear hS h0 hR ho hn hof hfnd
    go_enter Tryz.func96, Tryz.ntmps96
    go_wp2_with fail
    refine (HP.out).mono ?_
    rintro e w1 ⟨rfl, rfl⟩
    go_wp2_with fail
    go_ret2
    exact ⟨by rw [HR.out]; rfl, Below.refl _ _⟩
  · have HR : Hid (R = (Dk.bytes g.f, .ok)) := Lib.hid (by rw [hR, Dk.read, if_neg hof, find_d hS, hfnd]; rfl)
    have hlk := look_some hS.map n hn hfnd
    have hf := hS.ok g (hfind_some hfnd).1
    have c3 := hf.c.1
    have hcv := run_str_own hf.cont
    have HB : Hid ((⟨(Dk.bytes g.f).toArray⟩ : ByteArray) = cb g.f) := Lib.hid rfl
    obtain ⟨Z, hZ⟩ : ∃ Z, Z = (cb g.f).size := ⟨_, rfl⟩
    rw [← hZ] at c3 hcv
    clear hS h0 hR ho hn hof hfnd hf hZ
    go_enter Tryz.func96, Tryz.ntmps96
    go_wp2_with fail
    refine (HP.out).mono ?_
    rintro e w1 ⟨rfl, rfl⟩
    go_wp2_with fail
    go_ret2
    exact ⟨by rw [HR.out, HB.out]; rfl, Below.refl _ _⟩
end Go.Proofs.YtjhbpcecdhdnoaaGreatDoor
namespace Go.Proofs.YtjhbpcecdhdnoaaGreatDoor
open Go.RowKit Go.Sort
open Go.Maps (Keyed)
def SortStr : Prop := ∀ (blk off cap : Nat) (ss : List (List UInt8)) (w : World), Holds encStr w blk off ss.toArray → blk < w.heap.size → ss.length < 4611686018427387904 →
  Calls Tryz.prog 83 #[.slice (some ⟨blk, off, none⟩) ss.length cap] w fun e w' => e = .returned (.tuple #[]) ∧ ∃ n os, w' = grow (putRow encStr (Sort.ahead w n) blk off (ss.mergeSort fun x y => decide (x ≤ y)).toArray) os
def nk (l : Sm.Row) : List (List UInt8) := l.map fun q => q.1.data.toList
theorem nk_pair (hs : List Hm) : nk (hs.map pair) = (hs.map (·.f)).map fun f => f.name.data.toList := by simp [nk, pair, Function.comp_def]
theorem names_enc (fs : List Dk.Fl) : (fs.map fun f => f.name.data.toList).map encStr = sc (fs.map (·.name)) := by
  simp [sc, Function.comp_def, encStr]
theorem names_sorted (fs : List Dk.Fl) (hr : Dk.Rises fs) : (fs.map fun f => f.name.data.toList).Pairwise (fun a b => decide (a ≤ b) = true) := by
  induction fs with
  | nil => exact List.Pairwise.nil
  | cons x xs ih =>
    rw [List.map_cons, List.pairwise_cons]
    refine ⟨fun b hb => ?_, ih hr.2⟩
    obtain ⟨g, hg, rfl⟩ := List.mem_map.1 hb
    exact decide_eq_true (List.le_of_lt (hr.1 g hg))
theorem sort_names {ss : List (List UInt8)} (fs : List Dk.Fl) (hr : Dk.Rises fs) (hp : ss.Perm (fs.map fun f => f.name.data.toList)) : (ss.mergeSort fun x y => decide (x ≤ y)) = fs.map fun f => f.name.data.toList := by
  have h1 : (ss.mergeSort fun x y => decide (x ≤ y)).Pairwise (fun a b => decide (a ≤ b) = true) := List.pairwise_mergeSort (fun a b c h1 h2 => by simp at *; exact List.le_trans h1 h2) (fun a b => by simp; exact List.le_total a b) ss
  refine List.Perm.eq_of_pairwise (fun a b _ _ h2 h3 => ?_) h1 (names_sorted fs hr) ((List.mergeSort_perm ss _).trans hp)
  simp at h2 h3
  exact List.le_antisymm h2 h3
theorem SRg.obj {P : Program} {k : TypeId} {W : World} {b r cnt : Nat} {l done : Sm.Row} (h : SRg P k W b r l done cnt) : ∃ x y z u, W.heap[r]? = some (.mapIter x y z u) := by
  obtain ⟨lf, ⟨es, clock, since, seen, c0, g1, F, hs, hD, g2, rest⟩, _⟩ := h
  exact ⟨_, _, _, _, g2⟩
theorem own_ne_iter {P : Program} {k : TypeId} {W : World} {b r cnt : Nat} {l done : Sm.Row} (h : SRg P k W b r l done cnt) {B : Nat} {e : TypeId} {s : Nat} {v : Value} {n : Nat} {xs : List Value} (ho : W.ownsRow B e s v n xs) : v.ownBlock ≠ some r := fun hk => by
  obtain ⟨x, y, z, u, h1⟩ := h.obj
  obtain ⟨cur, h2⟩ := own_obj ho hk
  rw [h1] at h2
  cases h2
theorem own_grown {W W' : World} {B : Nat} {e : TypeId} {s : Nat} {v : Value} {n : Nat} {xs : List Value} {row : Option Nat} (ho : W.ownsRow B e s v n xs) (hg : W.grownBy W' row) (hne : ∀ k, row = some k → v.ownBlock ≠ some k) : W'.ownsRow B e s v n xs :=
  own_kept ho fun k hk => hg.block k (own_lt ho hk).1 fun he => hne k he.symm hk
set_option maxRecDepth 100000 in
set_option maxHeartbeats 1000000 in
theorem list_any (hsort : SortStr) (W : World) (p mb : Nat) (hs : List Hm) (d : Dk.D) (h : DkS W p mb hs d) :
    Calls Tryz.prog 36 #[.pointer (some ⟨p, 0, none⟩)] W fun e w' => ∃ A cap, e = .returned (.slice A (Dk.list d).length cap) ∧ w'.ownsRow W.heap.size 9 1 (.slice A (Dk.list d).length cap) (Dk.list d).length (sc (Dk.list d)) ∧ Below W.heap.size W w' := by
  obtain ⟨i0, hi, hz0, hz1, hz2⟩ := info_parts infoStr
  have HP := Lib.hid (isMade_any W p mb _ _ h.head)
  have c0 := h.head.c0
  have hm := h.map
  have hplt := h.head.lt
  obtain ⟨l, hl⟩ : ∃ l, l = hs.map pair := ⟨_, rfl⟩
  have hln : l.length = d.files.length := by rw [hl, ← h.fs]; simp
  have hlm : l.length ≤ 100000000 := by have := Dk.fsLoad_len d.files; have := h.load; unfold Dk.load at this; omega
  have hks : ∀ q ∈ l, q.1.size ≤ 100000000 := fun q hq => by
    rw [hl] at hq
    obtain ⟨g, hg, rfl⟩ := List.mem_map.1 hq
    have := fl_load h hg
    have := h.load
    have e : Dk.flLoad g.f = 1 + g.f.name.size + g.f.recs.length + Dk.sz g.f.recs + g.f.torn.size := rfl
    show g.f.name.size ≤ _
    omega
  rw [← hl] at hm
  have hbl := hm.lt
  have HZ : Hid (Maps.size (.map (l.map Sm.enc) : DataW Value) = l.length) := Lib.hid (by rw [Go.Maps.size_eq, List.length_map])
  have HE : Hid (∀ done : Sm.Row, done.Perm l → (nk done).mergeSort (fun x y => decide (x ≤ y)) = (d.files.map fun f => f.name.data.toList) ∧ (nk done).length = (Dk.list d).length ∧ (nk done).map encStr = (nk done).map encStr) := Lib.hid fun done hd => by
    refine ⟨sort_names d.files h.inv.rises ?_, ?_, rfl⟩
    · rw [← h.fs, ← nk_pair, ← hl]; exact hd.map _
    · unfold nk Dk.list; rw [List.length_map, List.length_map, hd.length_eq, hln]
  have HN : Hid ((d.files.map fun f => f.name.data.toList).map encStr = sc (Dk.list d)) := Lib.hid (names_enc d.files)
  have HC := Lib.hid (fun (s : ByteArray) (hs : s.size ≤ 100000000) (W : World) => stringsClone_any s W (by omega))
  have HKs := Lib.hid hks
  have HSo := Lib.hid hsort
  clear h hl hln hks hsort
  go_enter Tryz.func36, Tryz.ntmps36
  go_wp2_with fail
  refine (HP.out).mono ?_
  rintro e w1 ⟨rfl, rfl⟩
  go_wp2_with (first
    | (at_len; go_loud (refine wpList_len_own _ rfl _ 118 rfl 9 140 Tryz.underlying118 _ mb l.length _ rfl hm ?_; rw [HZ.out]))
    | (at_make; refine wpList_make_own _ rfl _ _ 93 rfl W.heap.size 9 i0 (.string ⟨#[]⟩) 1 Tryz.underlying93 hi hz0 hz1 _ _ _ l.length rfl rfl rfl (by rw [hz2]; omega) (by simp only [maxLen]; omega) (Nat.le_refl _) ?_; intro w1 hrow1 hg1; have c0' : w1.cell? ⟨p, 0, none⟩ = some (.map (some mb)) := (World.cell?_of_block (hg1.block p hplt (by simp))).trans c0; obtain ⟨w0, hrun0, hR0, hb0, hz0'⟩ := SMap.range (t := 118) us Tryz.underlying118 (hm.kept (hg1.block mb hbl (by simp))); have H0 := Lib.hid (And.intro hrow1 (And.intro hg1 (And.intro hR0 (And.intro hb0 hz0')))); clear hrow1 hg1 hR0 hb0 hz0')
    | fail)
  go_loopw [3] (fun v wr => ∃ (done : Sm.Row) (cnt : Nat), SRg Tryz.prog 9 wr mb w1.heap.size l done cnt ∧ done.length + cnt ≤ l.length ∧ wr.ownsRow W.heap.size 9 1 v (nk done).length ((nk done).map encStr) ∧ v ≠ .slice none 0 0 ∧ Below W.heap.size W wr ∧ w1.heap.size < wr.heap.size)
    (fun _ wr => wr.rangeLeft mb w1.heap.size)
  case atStart =>
    obtain ⟨hrow1, hg1, hR0, hb0, hz0'⟩ := H0.out
    refine ⟨[], _, hR0, by simp, own_kept hrow1 fun k hk => hb0.block k (own_lt hrow1 hk).1, by simp, ?_, by omega⟩
    exact ((Below.refl _ _).grown hg1 (Nat.le_refl _) (fun j hj => by cases hj)).trans (hb0.mono hg1.size)
  case round =>
    obtain ⟨done, cnt, hR, hcs, hrow, hnn, hnx, hrl⟩ := hrel
    obtain ⟨A, capA, rfl, _⟩ := own_slice hrow
    rcases SRg.next us hR 0 with ⟨hc0, hperm, hrun⟩ | ⟨q, w2, cnt', hq, hnd, hrun, hR2, hlt, hg2, hs2, hen⟩
    · obtain ⟨e1, e2, _⟩ := HE.out done hperm
      rcases hrow.2 with ⟨hnil, _⟩ | ⟨g, cap, cur, hv, hbase, hb, h1, h2, h3, h4⟩
      · exact absurd hnil hnn
      injection hv with ha _ hc
      subst ha hc
      have hH : Holds encStr wr g 0 (nk done).toArray := holds_of_block hb (by simpa using h4)
      have hgl : g < wr.heap.size := (Array.getElem?_eq_some_iff.1 hb).1
      have hnl : (nk done).length ≤ 100000000 := by unfold nk; rw [List.length_map]; omega
      have hS := Lib.hid (HSo.out g 0 capA (nk done) wr hH hgl (by omega))
      have HF : Hid (∀ n os, (grow (putRow encStr (Sort.ahead wr n) g 0 ((nk done).mergeSort fun x y => decide (x ≤ y)).toArray) os).ownsRow W.heap.size 9 1 (.slice (some ⟨g, 0, none⟩) (Dk.list d).length capA) (Dk.list d).length (sc (Dk.list d)) ∧ Below W.heap.size W (grow (putRow encStr (Sort.ahead wr n) g 0 ((nk done).mergeSort fun x y => decide (x ≤ y)).toArray) os) ∧ (nk done).length = (Dk.list d).length) := Lib.hid fun n os => by
        have ho := ownsRow_sorted (n := n) (os := os) (ss := nk done) (ts := (nk done).mergeSort fun x y => decide (x ≤ y)) (by simp) hbase hb h1 h2 h3
        refine ⟨?_, hnx.grown (grownBy_sorted _) hnx.size (fun j hj => by cases hj; exact hbase), e2⟩
        rw [← e2]
        have e3 := HN.out
        rw [← e1] at e3
        rw [← e3]
        exact ho
      clear hrow hR hH hgl hnl e1 e2 h1 h2 h3 h4 hb hcs hperm hnx hrl hbase
      go_wp2_with fail
      refine hS.out.mono ?_
      rintro e w' ⟨rfl, nn, os, rfl⟩
      have HG := Lib.hid (HF.out nn os)
      go_wp2_with fail
      go_ret
      exact ⟨_, _, by rw [HG.out.2.2]; rfl, HG.out.1, HG.out.2.1⟩
    · have hrow2 := own_grown hrow hg2 (fun k hk => by cases hk; exact own_ne_iter hR hrow)
      have hCl := Lib.hid (HC.out q.1 (HKs.out q hq) w2)
      have hnl : (nk done).length ≤ 100000000 := by unfold nk; rw [List.length_map]; omega
      have hsz2 := hg2.size
      have hbase := hnx.size
      have HB2 : Hid (Below W.heap.size W w2 ∧ w1.heap.size < w2.heap.size) := Lib.hid ⟨hnx.grown hg2 hnx.size (fun j hj => by cases hj; have := H0.out.2.1.size; omega), by omega⟩
      have HM := Lib.hid (And.intro (show cnt' < cnt from hlt) (And.intro hcs (And.intro hR.left_eq (And.intro hq hnd))))
      have HR2 := Lib.hid hR2
      have Hrow2 := Lib.hid hrow2
      clear hs2 hrow hR hnd hq hR2 hlt hg2 hrow2 hnx hrl hcs hsz2 hbase
      go_wp2_with fail
      refine hCl.out.mono ?_
      rintro e w3 ⟨rfl, hb3⟩
      have HR3 : Hid (SRg Tryz.prog 9 w3 mb w1.heap.size l (done ++ [q]) cnt' ∧ Below W.heap.size W w3 ∧ w1.heap.size < w3.heap.size) := Lib.hid ⟨HR2.out.kept (hb3.block _ HR2.out.map.lt) (hb3.block _ HR2.out.lt), HB2.out.1.trans (hb3.mono HB2.out.1.size), Nat.lt_of_lt_of_le HB2.out.2 hb3.size⟩
      have Hrow3 : Hid ((w3.alloc (.cells #[.string q.1] 9)).ownsRow W.heap.size 9 1 (.slice A (nk done).length capA) (nk done).length ((nk done).map encStr)) := Lib.hid (own_kept (own_kept Hrow2.out fun k hk => hb3.block k (own_lt Hrow2.out hk).1) fun k hk => (bnew (Below.refl _ _) _).block k (Nat.lt_of_lt_of_le (own_lt Hrow2.out hk).1 hb3.size))
      clear hb3 hrun hen
      go_wp2_with (at_builtin; refine wpList_app_own rfl (.tmp 23) (.tmp 26) 93 rfl W.heap.size 9 i0 (.string ⟨#[]⟩) 1 16 Tryz.underlying93 hi hz0 hz1 hz2 rfl (by decide) _ _ _ rfl Hrow3.out ⟨w3.heap.size, 0, none⟩ 1 1 [.string q.1] rfl rfl (news_fl w3 [.string q.1] 9) (fun u hu => by simp at hu; subst hu; rfl) (by simp only [maxLen]; omega) (by omega) (by have := HR3.out.2.1.size; simp only [World.size_alloc]; omega) ?_)
      intro v' w4 ho4 hg4 hn4
      obtain ⟨A4, c4, rfl, _⟩ := own_slice ho4
      have HR4 : Hid (SRg Tryz.prog 9 w4 mb w1.heap.size l (done ++ [q]) cnt' ∧ w4.ownsRow W.heap.size 9 1 (.slice A4 ((nk done).length + 1) c4) (nk (done ++ [q])).length ((nk (done ++ [q])).map encStr) ∧ Below W.heap.size W w4 ∧ w1.heap.size < w4.heap.size) := Lib.hid (by
        obtain ⟨hR3, hb3, hlt3⟩ := HR3.out
        have hRa := hR3.kept (W' := w3.alloc (.cells #[.string q.1] 9)) ((bnew (Below.refl _ _) _).block _ hR3.map.lt) ((bnew (Below.refl _ _) _).block _ hR3.lt)
        have hlo : ∀ k, (Value.slice A (nk done).length capA).ownBlock = some k → W.heap.size ≤ k := fun k hk => (own_lt Hrow3.out hk).2
        have hR4 := hRa.kept (W' := w4) (hg4.block _ hRa.map.lt fun he => by have := hlo mb he.symm; omega) (hg4.block _ hRa.lt fun he => own_ne_iter hRa Hrow3.out he.symm)
        have hb4 : Below W.heap.size W w4 := (bnew hb3 _).grown hg4 (by have := hb3.size; simp; omega) hlo
        refine ⟨hR4, ?_, hb4, by have := hg4.size; simp at this; omega⟩
        have e1 : (nk (done ++ [q])).length = (nk done).length + 1 := by simp [nk]
        have e2 : (nk (done ++ [q])).map encStr = (nk done).map encStr ++ [.string q.1] := by simp [nk, encStr]
        rw [e1, e2]; exact ho4)
      clear ho4 hg4 hn4
      go_wp2_with fail
      go_roundw
      case rel =>
        obtain ⟨r1, r2, r3, r4⟩ := HR4.out
        obtain ⟨m1, m2, m3, m4, m5⟩ := HM.out
        exact ⟨done ++ [q], cnt', r1, by rw [List.length_append, List.length_singleton]; omega, r2, by simp, r3, r4⟩
      case measure =>
        have e1 := HR4.out.1.left_eq
        have e2 := HM.out.2.2.1
        have e3 := HM.out.1
        omega
end Go.Proofs.YtjhbpcecdhdnoaaGreatDoor
namespace Go.Proofs.YtjhbpcecdhdnoaaGreatDoor
open Go.Shelf
def dmSortRen : Go.Shelf.Ren := ⟨fun | 190 => 83 | 125 => 118 | 258 => 134 | 128 => 178 | 129 => 179 | 302 => 184 | 303 => 185 | 304 => 186 | 305 => 187 | 306 => 188 | 307 => 189 | 308 => 190 | 309 => 191 | 310 => 192 | 333 => 228 | 329 => 220 | 330 => 221 | 334 => 229 | 335 => 230 | 336 => 231 | 344 => 249 | n => n, fun | 31 => 93 | 9 => 9 | 3 => 3 | 46 => 172 | 0 => 0 | 51 => 25 | 53 => 38 | 4 => 4 | 183 => 226 | 182 => 225 | 131 => 189 | 5 => 5 | 218 => 262 | 222 => 265 | 228 => 287 | 229 => 197 | n => n, fun | n => n⟩
theorem dmSortLays : Go.Proofs.Lays.n190 Tryz.prog dmSortRen := {
  mixed := by kernel_rfl
  f125 := Tryz.func118.trans (congrArg some (by kernel_rfl))
  f128 := Tryz.func178.trans (congrArg some (by kernel_rfl))
  f129 := Tryz.func179.trans (congrArg some (by kernel_rfl))
  f190 := Tryz.func83.trans (congrArg some (by kernel_rfl))
  f258 := Tryz.func134.trans (congrArg some (by kernel_rfl))
  f302 := Tryz.func184.trans (congrArg some (by kernel_rfl))
  f303 := Tryz.func185.trans (congrArg some (by kernel_rfl))
  f304 := Tryz.func186.trans (congrArg some (by kernel_rfl))
  f305 := Tryz.func187.trans (congrArg some (by kernel_rfl))
  f306 := Tryz.func188.trans (congrArg some (by kernel_rfl))
  f307 := Tryz.func189.trans (congrArg some (by kernel_rfl))
  f308 := Tryz.func190.trans (congrArg some (by kernel_rfl))
  f309 := Tryz.func191.trans (congrArg some (by kernel_rfl))
  f310 := Tryz.func192.trans (congrArg some (by kernel_rfl))
  f329 := Tryz.func220.trans (congrArg some (by kernel_rfl))
  f330 := Tryz.func221.trans (congrArg some (by kernel_rfl))
  f333 := Tryz.func228.trans (congrArg some (by kernel_rfl))
  f334 := Tryz.func229.trans (congrArg some (by kernel_rfl))
  f335 := Tryz.func230.trans (congrArg some (by kernel_rfl))
  f336 := Tryz.func231.trans (congrArg some (by kernel_rfl))
  f344 := Tryz.func249.trans (congrArg some (by kernel_rfl))
  t0 := Tryz.underlying0
  a0 := Tryz.isAgg0
  z0 := Tryz.sizeOf0
  v0 := Tryz.zeroValue0
  t3 := Tryz.underlying3
  a3 := Tryz.isAgg3
  z3 := Tryz.sizeOf3
  v3 := Tryz.zeroValue3
  t4 := Tryz.underlying4
  a4 := Tryz.isAgg4
  z4 := Tryz.sizeOf4
  v4 := Tryz.zeroValue4
  t5 := Tryz.underlying5
  a5 := Tryz.isAgg5
  z5 := Tryz.sizeOf5
  v5 := Tryz.zeroValue5
  t9 := Tryz.underlying9
  a9 := Tryz.isAgg9
  z9 := Tryz.sizeOf9
  v9 := Tryz.zeroValue9
  t31 := Tryz.underlying93
  a31 := Tryz.isAgg93
  z31 := Tryz.sizeOf93
  v31 := Tryz.zeroValue93
  t46 := Tryz.underlying172
  a46 := Tryz.isAgg172
  z46 := Tryz.sizeOf172
  v46 := Tryz.zeroValue172
  t51 := Tryz.underlying25
  a51 := Tryz.isAgg25
  z51 := Tryz.sizeOf25
  v51 := Tryz.zeroValue25
  t53 := Tryz.underlying38
  a53 := Tryz.isAgg38
  z53 := Tryz.sizeOf38
  v53 := Tryz.zeroValue38
  t131 := Tryz.underlying189
  a131 := Tryz.isAgg189
  z131 := Tryz.sizeOf189
  v131 := Tryz.zeroValue189
  t182 := Tryz.underlying225
  a182 := Tryz.isAgg225
  z182 := Tryz.sizeOf225
  v182 := Tryz.zeroValue225
  t183 := Tryz.underlying226
  a183 := Tryz.isAgg226
  z183 := Tryz.sizeOf226
  v183 := Tryz.zeroValue226
  t218 := Tryz.underlying262
  a218 := Tryz.isAgg262
  z218 := Tryz.sizeOf262
  v218 := Tryz.zeroValue262
  t222 := Tryz.underlying265
  a222 := Tryz.isAgg265
  z222 := Tryz.sizeOf265
  v222 := Tryz.zeroValue265
  t228 := Tryz.underlying287
  a228 := Tryz.isAgg287
  z228 := Tryz.sizeOf287
  v228 := Tryz.zeroValue287
  t229 := Tryz.underlying197
  a229 := Tryz.isAgg197
  z229 := Tryz.sizeOf197
  v229 := Tryz.zeroValue197 }
open Go.Sort Go.RowKit in
theorem dm_sort (blk off cap : Nat) (ss : List (List UInt8)) (w : World) (hH : Holds encStr w blk off ss.toArray) (hblk : blk < w.heap.size) (hsz : ss.length < 4611686018427387904) :
    Calls Tryz.prog 83 #[.slice (some ⟨blk, off, none⟩) ss.length cap] w fun e w' =>
      e = .returned (.tuple #[]) ∧ ∃ n os, w' = grow (putRow encStr (Sort.ahead w n) blk off (ss.mergeSort fun x y => decide (x ≤ y)).toArray) os := Any.slices_Sort_string dmSortLays blk off cap ss w hH hblk hsz
theorem sortStr : SortStr := fun blk off cap ss w hH hb hl => dm_sort blk off cap ss w hH hb hl
end Go.Proofs.YtjhbpcecdhdnoaaGreatDoor
namespace Go.Proofs.YtjhbpcecdhdnoaaGreatDoor
open Go.RowKit
namespace Dk
theorem put_mid : ∀ (P : List Fl) (f f' : Fl) (R : List Fl), Rises (P ++ f :: R) → f'.name = f.name → put (P ++ f :: R) f' = P ++ f' :: R
  | [], f, f', R, _, hn => by
    show put (f :: R) f' = _
    unfold put
    rw [if_pos hn.symm]; rfl
  | x :: P, f, f', R, hr, hn => by
    have hx : lt x.name f.name := hr.1 f (List.mem_append_right _ (List.mem_cons_self ..))
    show put (x :: (P ++ f :: R)) f' = x :: (P ++ f' :: R)
    unfold put
    rw [if_neg (fun e => lt_irrefl f.name (by rw [e, hn] at hx; exact hx)), if_neg (fun e => by rw [hn] at e; exact lt_irrefl _ (lt_trans e hx)), put_mid P f f' R hr.2 hn]
theorem crashL_cons (ks ts : List Int) (k : Nat) (f : Fl) (fs : List Fl) : crashL ks ts k (f :: fs) = if f.syn < f.recs.length then leave f ks ts k :: crashL ks ts (k + 1) fs else f :: crashL ks ts k fs := rfl
end Dk
structure CrSt (W2 wr : World) (p mb left : Nat) (hs0 : List Hm) (fs : List Dk.Fl) (ks ts : List Int) (i k : Nat) (hs : List Hm) (P : List Dk.Fl) : Prop where
  st : DkS wr p mb hs ⟨P ++ fs.drop i, true, left⟩
  len : P.length = i
  eq : Dk.crashL ks ts 0 fs = P ++ Dk.crashL ks ts k (fs.drop i)
  bks : ∀ q, Bks p mb hs q → Bks p mb hs0 q ∨ W2.heap.size ≤ q
  ko : Ko (Bks p mb hs0) W2 wr
  ki : k ≤ i
section
variable {W2 wr : World} {p mb left : Nat} {hs0 : List Hm} {fs : List Dk.Fl} {ks ts : List Int} {i k : Nat} {hs : List Hm} {P : List Dk.Fl}
theorem drop_at (fs : List Dk.Fl) (i : Nat) (hi : i < fs.length) : fs.drop i = fs[i] :: fs.drop (i + 1) := List.drop_eq_getElem_cons hi
theorem CrSt.file (h : CrSt W2 wr p mb left hs0 fs ks ts i k hs P) (hi : i < fs.length) : ∃ g ∈ hs, g.f = fs[i] ∧ hfind hs fs[i].name = some g := by
  have hm : fs[i] ∈ hs.map (·.f) := by
    rw [h.st.fs]
    show fs[i] ∈ P ++ fs.drop i
    rw [drop_at fs i hi]
    exact List.mem_append_right _ (List.mem_cons_self ..)
  obtain ⟨g, hg, hf⟩ := List.mem_map.1 hm
  refine ⟨g, hg, hf, ?_⟩
  have := hfind_mem h.st.rises hg
  rw [show g.f.name = fs[i].name from congrArg _ hf] at this
  exact this
theorem CrSt.skip (h : CrSt W2 wr p mb left hs0 fs ks ts i k hs P) (hi : i < fs.length) (hn : ¬ fs[i].syn < fs[i].recs.length) : CrSt W2 wr p mb left hs0 fs ks ts (i + 1) k hs (P ++ [fs[i]]) := by
  have hd := drop_at fs i hi
  have e : P ++ [fs[i]] ++ fs.drop (i + 1) = P ++ fs.drop i := by rw [hd, List.append_assoc]; rfl
  refine ⟨by rw [e]; exact h.st, by rw [List.length_append, h.len]; rfl, ?_, h.bks, h.ko, by have := h.ki; omega⟩
  rw [h.eq, hd, Dk.crashL_cons, if_neg hn, List.append_assoc]; rfl
theorem CrSt.cut (h : CrSt W2 wr p mb left hs0 fs ks ts i k hs P) (hi : i < fs.length) (hn : fs[i].syn < fs[i].recs.length) {g g' : Hm} (hg : g ∈ hs) (hgf : g.f = fs[i]) {w' : World} (hf : FAt w' g') (hb : g'.b = g.b) (hgf' : g'.f = Dk.crashF g.f (ks.getD k 0) (ts.getD k 0)) (hk : Ko g.Blk wr w') (hblk : ∀ q, g'.Blk q → g.Blk q ∨ wr.heap.size ≤ q) :
    CrSt W2 w' p mb left hs0 fs ks ts (i + 1) (k + 1) (hput hs g') (P ++ [Dk.leave fs[i] ks ts k]) := by
  have hd := drop_at fs i hi
  have hok := okf_of h.st hg
  have hlv : g'.f = Dk.leave fs[i] ks ts k := by rw [hgf', hgf]; rw [hgf] at hok; exact Dk.crashF_leave hok hn ks ts k
  have hname : g'.f.name = g.f.name := by rw [hlv, hgf]; rfl
  have hr : Dk.Rises (P ++ fs[i] :: fs.drop (i + 1)) := by rw [← hd]; exact h.st.inv.rises
  have hput : Dk.put (P ++ fs.drop i) g'.f = P ++ Dk.leave fs[i] ks ts k :: fs.drop (i + 1) := by rw [hd, hlv, Dk.put_mid P fs[i] (Dk.leave fs[i] ks ts k) _ hr rfl]
  have e : P ++ [Dk.leave fs[i] ks ts k] ++ fs.drop (i + 1) = Dk.put (P ++ fs.drop i) g'.f := by rw [hput, List.append_assoc]; rfl
  have hok' : Dk.Okf g'.f := by rw [hlv]; rw [hgf] at hok; exact Dk.okf_leave hok ks ts k
  have hinv : Dk.Inv ⟨Dk.put (P ++ fs.drop i) g'.f, true, left⟩ := Dk.inv_put h.st.inv hok' rfl
  have hld : Dk.load ⟨Dk.put (P ++ fs.drop i) g'.f, true, left⟩ ≤ 100000000 := by
    have h1 := Dk.fsLoad_put (fs := P ++ fs.drop i) h.st.inv.rises g'.f
    have h2 : Dk.find (P ++ fs.drop i) g'.f.name = some g.f := by
      have h3 := find_d h.st g'.f.name
      rw [hname, hfind_mem h.st.rises hg] at h3
      rw [hname]; exact h3
    rw [h2] at h1
    have h4 : Dk.flLoad g'.f ≤ Dk.flLoad g.f := by rw [hlv, hgf]; rw [hgf] at hok; exact Dk.load_leave hok ks ts k
    have h5 : Dk.foundLoad (some g.f) = Dk.flLoad g.f := rfl
    have h6 := h.st.load
    have h7 : Dk.load ⟨P ++ fs.drop i, true, left⟩ = Dk.fsLoad (P ++ fs.drop i) := rfl
    show Dk.fsLoad (Dk.put (P ++ fs.drop i) g'.f) ≤ _
    omega
  have hst := h.st.file (g' := g') (d' := ⟨Dk.put (P ++ fs.drop i) g'.f, true, left⟩) hg hname hb hk hf hblk rfl rfl rfl hinv hld
  refine ⟨by rw [e]; exact hst, by rw [List.length_append, h.len]; rfl, ?_, fun q hq => ?_, ?_, by have := h.ki; omega⟩
  · rw [h.eq, hd, Dk.crashL_cons, if_pos hn, List.append_assoc]; rfl
  · rcases hq with hq | hq | ⟨x, hx, hxq⟩
    · exact .inl (.inl hq)
    · exact .inl (.inr (.inl hq))
    · rcases mem_hput h.st.rises hx with rfl | ⟨hx, _⟩
      · rcases hblk q hxq with h2 | h2
        · exact h.bks q (.inr (.inr ⟨g, hg, h2⟩))
        · exact .inr (Nat.le_trans h.ko.size h2)
      · exact h.bks q (.inr (.inr ⟨x, hx, hxq⟩))
  · refine h.ko.trans (T := g.Blk) hk fun q hq => h.bks q (.inr (.inr ⟨g, hg, hq⟩))
end
theorem sc_cell {w : World} {A : Option Addr} {ns : List ByteArray} (h : Lies w A (sc ns)) (i : Nat) (hi : i < ns.length) : ∃ b off, A = some ⟨b, off, none⟩ ∧ w.cell? ⟨b, off + i, none⟩ = some (.string ns[i]) := by
  rcases h with h | ⟨b, off, rfl, hb, hc⟩
  · exfalso
    have : (sc ns).length = 0 := by rw [h]; rfl
    rw [sc, List.length_map] at this; omega
  · exact ⟨b, off, rfl, hc i _ (by rw [sc, List.getElem?_map, List.getElem?_eq_getElem hi]; rfl)⟩
set_option maxRecDepth 100000 in
set_option maxHeartbeats 2000000 in
theorem dCrash_any (W : World) (p : Nat) (S : Nat → Prop) (d : Dk.D) (ks ts : List Int) (KA TA : Option Addr) (kc tc : Nat) (h : DmAt W p S d) (hg : GivenC W ks ts KA TA) (hak : Away S KA (ic ks)) (hat : Away S TA (ic ts)) :
    Calls Tryz.prog 40 #[.pointer (some ⟨p, 0, none⟩), .agg #[.slice KA ks.length kc, .slice TA ts.length tc]] W fun e w' => e = .returned (.tuple #[]) ∧ Now DmAt W w' p S (Dk.crash d ks ts) := by
  obtain ⟨mb, hs, hS, h0⟩ := h
  have hb1 : Below W.heap.size W (W.alloc (.cells #[.slice KA ks.length kc, .slice TA ts.length tc] 45)) := bnew (Below.refl _ _) _
  have hS1 := hS.stays fun k hk => hb1.block k (hS.lt hk)
  have HP := Lib.hid (isMade_any _ p mb _ _ hS1.head)
  have c2 := hS.head.c2
  have f2 := hS.head.f2
  have k2 := hS1.head.c2
  have l2 := hS1.head.f2
  have hpl := hS.head.lt
  have hF1 : HAt ((W.alloc (.cells #[.slice KA ks.length kc, .slice TA ts.length tc] 45)).setCell ⟨p, 2, none⟩ (.bool true)) p mb d.left true := hS1.head.set2 true
  have hK1 : Ko (atB p) W ((W.alloc (.cells #[.slice KA ks.length kc, .slice TA ts.length tc] 45)).setCell ⟨p, 2, none⟩ (.bool true)) := (Ko.bel (S := atB p) hb1).set (show atB p p from rfl) 2 _
  have hR1 : ((W.alloc (.cells #[.slice KA ks.length kc, .slice TA ts.length tc] 45)).setCell ⟨p, 2, none⟩ (.bool true)).heap[W.heap.size]? = some (.cells #[.slice KA ks.length kc, .slice TA ts.length tc] 45 (0, 0)) := (Below.heap_setCell _ _ _ _ (by show W.heap.size ≠ p; omega)).trans (heap_alloc_new W _)
  have HF : Hid (DkS ((W.alloc (.cells #[.slice KA ks.length kc, .slice TA ts.length tc] 45)).setCell ⟨p, 2, none⟩ (.bool true)) p mb hs ⟨d.files, true, d.left⟩ ∧ Ko (atB p) W ((W.alloc (.cells #[.slice KA ks.length kc, .slice TA ts.length tc] 45)).setCell ⟨p, 2, none⟩ (.bool true)) ∧
    ((W.alloc (.cells #[.slice KA ks.length kc, .slice TA ts.length tc] 45)).setCell ⟨p, 2, none⟩ (.bool true)).heap[W.heap.size]? = some (.cells #[.slice KA ks.length kc, .slice TA ts.length tc] 45 (0, 0))) := Lib.hid ⟨hS.heads hK1 hF1 hS.left, hK1, hR1⟩
  have HG := Lib.hid (And.intro hg (And.intro hak (And.intro hat (And.intro h0 hS))))
  clear hS1 hS hg hak hat h0 hb1 hpl hF1 hK1 hR1
  go_enter Tryz.func40, Tryz.ntmps40
  go_wp2_with fail
  refine (HP.out).mono ?_
  rintro e w1 ⟨rfl, rfl⟩
  go_upto_region 3 with (fail)
  refine forget (fun Wz => DkS Wz p mb hs ⟨d.files, true, d.left⟩ ∧ Ko (atB p) W Wz ∧ Wz.heap[W.heap.size]? = some (.cells #[.slice KA ks.length kc, .slice TA ts.length tc] 45 (0, 0))) HF.out ?_
  clear HF HP c2 f2 k2 l2
  rintro Wz ⟨hz1, hz2, hz3⟩
  have HL := Lib.hid (list_any sortStr Wz p mb hs _ hz1)
  have HZ := Lib.hid (And.intro hz1 (And.intro hz2 hz3))
  obtain ⟨fs, hfs⟩ : ∃ fs, fs = d.files := ⟨_, rfl⟩
  rw [← hfs] at HL HZ
  clear hz1 hz2 hz3
  go_wp2_with fail
  refine (HL.out).mono ?_
  rintro e w2 ⟨A, cap, rfl, ho2, hb2⟩
  obtain ⟨n, hn⟩ : ∃ n, n = (Dk.list ⟨fs, true, d.left⟩).length := ⟨_, rfl⟩
  have hnf : n = fs.length := by rw [hn]; exact List.length_map ..
  have hn8 : n ≤ 100000000 := by
    have h1 := Dk.fsLoad_len fs
    have h2 := HZ.out.1.load
    have h3 : Dk.load ⟨fs, true, d.left⟩ = Dk.fsLoad fs := rfl
    omega
  rw [← hn] at ho2 ⊢
  have HO : Hid (Lies w2 A (sc (fs.map (·.name))) ∧ Below Wz.heap.size Wz w2 ∧ (∀ k, (Value.slice A n cap).ownBlock = some k → Wz.heap.size ≤ k) ∧ n = fs.length ∧ fs = d.files) := Lib.hid ⟨lies_own ho2, hb2, fun k hk => (own_lt ho2 hk).2, hnf, hfs⟩
  have HS0 : Hid (CrSt w2 w2 p mb d.left hs fs ks ts 0 0 hs []) := Lib.hid ⟨by
    have := HZ.out.1.stays (W' := w2) fun k hk => hb2.block k (HZ.out.1.lt hk)
    exact this, rfl, rfl, fun q hq => .inl hq, Ko.refl _ _, Nat.le_refl _⟩
  clear ho2 hb2 hn hnf hfs HL
  go_wp2_with fail
  go_loopw [4, 17] (fun kv iv wr => ∃ (i k : Nat) (hi : List Hm) (P : List Dk.Fl), i ≤ n ∧ iv = .int .i64 (i : Int) ∧ kv = .int .i64 (k : Int) ∧ CrSt w2 wr p mb d.left hs fs ks ts i k hi P) (fun _ iv _ => n - (intOf iv).toNat)
  case atStart => exact ⟨0, 0, hs, [], Nat.zero_le _, rfl, rfl, HS0.out⟩
  case round =>
    obtain ⟨i, k, hi, P, hin, rfl, rfl, hc⟩ := hrel
    have hpw : W.heap.size < Wz.heap.size := (Array.getElem?_eq_some_iff.1 HZ.out.2.2).1
    have hkW : Ko S W wr := ((HZ.out.2.1.mono (T := S) fun q _ hq => (HG.out.2.2.2.1 q).2 (.inl hq)).trans (Ko.bel (S := S) HO.out.2.1) fun _ hq => .inl hq).trans hc.ko fun q hq => .inl ((HG.out.2.2.2.1 q).2 hq)
    by_cases hlt : i < n
    · have hif : i < fs.length := by have := HO.out.2.2.2.1; omega
      obtain ⟨g, hgm, hgf, hfnd⟩ := hc.file hif
      have haw : Away (Bks p mb hs) A (sc (fs.map (·.name))) := fun b off _ he hb => by
        have h1 := HO.out.2.2.1 b (by rw [he]; rfl)
        have h2 := HZ.out.1.lt hb
        omega
      obtain ⟨b, off, rfl, hcell⟩ := sc_cell (HO.out.1.ko haw hc.ko) i (by rw [List.length_map]; exact hif)
      rw [List.getElem_map] at hcell
      have hok := okf_of hc.st hgm
      have hfl := fl_load hc.st hgm
      have hSl := hc.st.load
      have hfl2 : 1 + g.f.name.size + g.f.recs.length + Dk.sz g.f.recs + g.f.torn.size ≤ Dk.load ⟨P ++ fs.drop i, true, d.left⟩ := hfl
      obtain ⟨nm, hnm⟩ : ∃ nm, nm = fs[i].name := ⟨_, rfl⟩
      have hnm2 : nm = g.f.name := by rw [hnm, hgf]
      rw [← hnm] at hcell hfnd
      have hlk := look_some hc.st.map nm (by rw [hnm2]; omega) hfnd
      have c0 := hc.st.head.c0
      have hf := hc.st.ok g hgm
      have c2 := hf.c.2.2.1
      obtain ⟨u, hu⟩ : ∃ u, u = (Dk.starts g.f).length := ⟨_, rfl⟩
      rw [← hu] at c2
      have hnl := Dk.starts_length g.f
      rw [← hu] at hnl
      have q1 : decide ((i : Int) < (n : Int)) = true := by simp; omega
      have q2 : decide (i < n) = true := by simp; omega
      have q3 : (i : Int) < (n : Int) := by omega
      have q4 : (0 : Int) ≤ (i : Int) := by omega
      have Hc := Lib.hid hc
      have HI := Lib.hid (And.intro hif (And.intro hgm hgf))
      have Hki := hc.ki
      by_cases hn : fs[i].syn < fs[i].recs.length
      · have p1 : decide ((0 : Int) < (u : Int)) = true := by
          rw [← hgf] at hn
          simp; omega
        have p2 : decide (0 < u) = true := by
          rw [← hgf] at hn
          simp; omega
        have p3 : (0 : Int) < (u : Int) := by
          rw [← hgf] at hn
          omega
        have hgn : g.f.syn < g.f.recs.length := by rw [hgf]; exact hn
        have hrow : wr.heap[W.heap.size]? = some (.cells #[.slice KA ks.length kc, .slice TA ts.length tc] 45 (0, 0)) :=
          hc.ko.row (fun hb => by have := HG.out.2.2.2.2.lt hb; omega) ((HO.out.2.1.block _ hpw).trans HZ.out.2.2)
        have k0 : wr.cell? ⟨W.heap.size, 0, none⟩ = some (.slice KA ks.length kc) := cell_of_row wr W.heap.size 0 _ _ _ hrow
        have k1 : wr.cell? ⟨W.heap.size, 1, none⟩ = some (.slice TA ts.length tc) := cell_of_row wr W.heap.size 1 _ _ _ hrow
        have gK := HG.out.1
        have hkl := gK.kl.ko HG.out.2.1 hkW
        have htl := gK.tl.ko HG.out.2.2.1 hkW
        have hkb : ∀ (l : List Int), (∀ n ∈ l, -9223372036854775808 ≤ n ∧ n ≤ 9223372036854775807) → -9223372036854775808 ≤ l.getD k 0 ∧ l.getD k 0 ≤ 9223372036854775807 := fun l hl => by
          rw [List.getD_eq_getElem?_getD]
          rcases hq : l[k]? with _ | x
          · exact ⟨by decide, by decide⟩
          · exact hl x (List.mem_of_getElem? hq)
        have HK1 : Hid (∀ W', Below wr.heap.size wr W' → Calls Tryz.prog 85 #[.slice KA ks.length kc, .int .i64 (k : Int)] W' fun e w' => e = .returned (.int .i64 (ks.getD k 0)) ∧ W' = w') := Lib.hid fun W' hb => choice_any W' KA kc ks k (hkl.below hb) (by have := gK.km; simp only [maxLen] at this; omega) (by omega)
        have HK2 : Hid (∀ W', Below wr.heap.size wr W' → Calls Tryz.prog 85 #[.slice TA ts.length tc, .int .i64 (k : Int)] W' fun e w' => e = .returned (.int .i64 (ts.getD k 0)) ∧ W' = w') := Lib.hid fun W' hb => choice_any W' TA tc ts k (htl.below hb) (by have := gK.tm; simp only [maxLen] at this; omega) (by omega)
        have HD : Hid (∀ W', Below wr.heap.size wr W' → Calls Tryz.prog 84 #[.pointer (some ⟨g.b, 0, none⟩), .int .i64 (ks.getD k 0), .int .i64 (ts.getD k 0)] W' fun e w' => e = .returned (.tuple #[]) ∧ ∃ hi' P', CrSt w2 w' p mb d.left hs fs ks ts (i + 1) (k + 1) hi' P') := Lib.hid fun W' hb => by
          refine (fcrash_any W' g (hf.below hb (Nat.le_refl _)) hok hgn (by omega) _ _ (hkb ks gK.kn) (hkb ts gK.tn)).mono ?_
          rintro e w' ⟨rfl, h', g1, g2, g3, g4, g5⟩
          exact ⟨rfl, _, _, Hc.out.cut HI.out.1 hn HI.out.2.1 HI.out.2.2 g1 g2 g3 ((Ko.bel (S := g.Blk) hb).trans g4 fun _ hq => .inl hq) fun q hq => (g5 q hq).imp id fun h9 => Nat.le_trans hb.size h9⟩
        obtain ⟨kz, hkz⟩ : ∃ z, z = ks.getD k 0 := ⟨_, rfl⟩
        obtain ⟨tz, htz⟩ : ∃ z, z = ts.getD k 0 := ⟨_, rfl⟩
        rw [← hkz] at HK1 HD
        rw [← htz] at HK2 HD
        have hk8 : k ≤ 100000000 := by omega
        clear hc hf hok hfl hSl hfl2 hnm hnm2 hfnd hu hnl hgn hrow gK hkl htl hkb haw hkW hkz htz hn HI Hc hgm hgf hif hin
        go_wp2_with fail
        go_region_with (first
          | (go_at_call 85; (with_reducible refine (HK1.out _ (by first | exact Below.refl _ _ | exact below_drew (Below.refl _ _))).mono ?_); rintro e wx ⟨rfl, rfl⟩)
          | (go_at_call 85; (with_reducible refine (HK2.out _ (by first | exact Below.refl _ _ | exact below_drew (Below.refl _ _))).mono ?_); rintro e wx ⟨rfl, rfl⟩)
          | (go_at_call 84; refine (HD.out _ (by first | exact Below.refl _ _ | exact below_drew (Below.refl _ _))).mono ?_; rintro e w5 ⟨rfl, hi5, P5, hc5⟩; have HC5 := Lib.hid hc5; clear hc5))
        all_goals
          go_wp2_with fail
          go_roundw
          case rel => exact ⟨i + 1, k + 1, hi5, P5, by omega, by go_num, by go_num, HC5.out⟩
          case measure => simp [intOf]; omega
      · have p1 : decide ((0 : Int) < (u : Int)) = false := by
          rw [← hgf] at hn
          simp; omega
        have p2 : decide (0 < u) = false := by
          rw [← hgf] at hn
          simp; omega
        have p3 : u = 0 := by
          rw [← hgf] at hn
          omega
        have HC5 : Hid (∃ P', CrSt w2 wr p mb d.left hs fs ks ts (i + 1) k hi P') := Lib.hid ⟨_, hc.skip hif hn⟩
        subst p3
        clear hc hf hok hfl hSl hfl2 hnm hnm2 hfnd hu hnl haw hkW hn HI Hc hgm hgf hif hin
        go_wp2_with fail
        go_roundw
        case rel =>
          obtain ⟨P5, h5⟩ := HC5.out
          exact ⟨i + 1, k, hi, P5, by omega, by go_num, rfl, h5⟩
        case measure => simp [intOf]; omega
    · have q1 : decide ((i : Int) < (n : Int)) = false := by simp; omega
      have q2 : decide (i < n) = false := by simp; omega
      have hin' : i = fs.length := by have := HO.out.2.2.2.1; omega
      have HN : Hid (Now DmAt W wr p S (Dk.crash d ks ts)) := Lib.hid (by
        have e1 : fs.drop i = [] := by rw [hin', List.drop_length]
        have e2 : P = Dk.crashL ks ts 0 fs := by rw [hc.eq, e1]; exact (List.append_nil _).symm
        have hst := hc.st
        rw [e1, List.append_nil, e2] at hst
        have e3 : (⟨Dk.crashL ks ts 0 fs, true, d.left⟩ : Dk.D) = Dk.crash d ks ts := by rw [HO.out.2.2.2.2]; rfl
        rw [e3] at hst
        refine ⟨⟨_, DmAt.mk hst, fun q hq => ?_⟩, hkW⟩
        rcases hc.bks q hq with h2 | h2
        · exact .inl ((HG.out.2.2.2.1 q).2 h2)
        · exact .inr (by have := HO.out.2.1.size; omega))
      clear hc hkW hin' HS0 hin hlt
      go_wp2_with fail
      go_end0
      exact ⟨rfl, HN.out⟩
end Go.Proofs.YtjhbpcecdhdnoaaGreatDoor
namespace Go.Proofs.YtjhbpcecdhdnoaaGreatDoor
open Go.RowKit
theorem diskK : DiskK DmAt where
  lt := fun h k hk => h.lt k hk
  stays := fun h hk => h.stays hk
  inv := fun h => by obtain ⟨_, _, h1, _⟩ := h; exact h1.inv
  load := fun h => by obtain ⟨_, _, h1, _⟩ := h; exact h1.load
  left := fun h => by obtain ⟨_, _, h1, _⟩ := h; exact h1.left
  new := dNew_any
  append := fun W p S d n r h hl => dAppend_any W p S d n r h hl
  sync := fun W p S d n h hn => dSync_any W p S d n h hn
  rename := fun W p S d n m h hn hm => dRename_any W p S d n m h hn hm
  delete := fun W p S d n h hn => dDelete_any W p S d n h hn
  read := fun W p S d n h hn => dRead_any W p S d n h hn
  list := fun W p S d h => by
    obtain ⟨mb, hs, hS, h0⟩ := h
    refine (list_any sortStr W p mb hs d hS).mono ?_
    rintro e w' ⟨A, cap, rfl, ho, hb⟩
    exact ⟨A, cap, rfl, lies_own ho, fun b off _ he => (own_lt ho (by rw [he]; rfl)).2, hb⟩
  fuse := fun W p S d n h hn => dFuse_any W p S d n h hn
  crash := fun W p S d ks ts KA TA kc tc h hg hk ht => dCrash_any W p S d ks ts KA TA kc tc h hg hk ht
  start := fun W p S d h => dStart_any W p S d h
  down := fun W p S d h => dDown_any W p S d h
end Go.Proofs.YtjhbpcecdhdnoaaGreatDoor
