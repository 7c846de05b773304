/-
  A file's add walked.
-/
import Derived.Test.YtdcjhpnakbejkaaGreatDoorRDmF
import Derived.Deep.RegionLaw
set_option linter.unusedSimpArgs false
set_option linter.unusedVariables false
namespace Go.Proofs.YtdcjhpnakbejkaaGreatDoor
open Go.RowKit
theorem step_app_own {P : Program} {ops : Array Oper} {o : Oper} {a : Act} {w : World} {K : Act → World → Prop} {Q : Exit → Act → World → Prop} {E : Prop}
    (hg : o.guard = none) (s x : Operand) (t : TypeId) (hop : o.op = Op.call { callee := Callee.builtin Builtin.append, args := #[s, x], argTypes := #[t, t] })
    (base : Nat) (e : TypeId) (i : TypeInfo) (z : Value) (size bytes : Nat) (ht : P.underlying t = some (.slice e)) (hi : P.info? e = some i) (hz : i.zero = some z)
    (hsize : i.size = size) (hby : i.bytes = bytes) (hzs : z.cells.size = size) (hsz : 0 < size)
    (v : Value) (n : Nat) (xs : List Value) (hs : a.eval s = v) (hown : w.ownsRow base e size v n xs)
    (ad : Addr) (m c : Nat) (news : List Value) (hx : a.eval x = .slice (some ad) m c) (hl : news.length = m * size) (hnews : ∀ j u, news[j]? = some u → w.cell? (ad.add j) = some u) (h1 : ∀ u ∈ news, u.oneCell' = true)
    (h63 : n + m ≤ maxLen) (hbytes : (n + m) * bytes ≤ 140737488355328) (hbase : base ≤ w.heap.size)
    (hK : ∀ v' w', w'.ownsRow base e size v' (n + m) (xs ++ news) → w.grownBy w' v.ownBlock → (∀ k, v'.ownBlock = some k → v.ownBlock = some k ∨ w.heap.size ≤ k) → K (a.put o.dst v') w') :
    if Region.wanted o (yielded ops a.tmps) = true then Oper.wp P o a w K Q else E := by
  have hw : Region.wanted o (yielded ops a.tmps) = true := by simp [Region.wanted, hg]
  rw [if_pos hw]
  obtain ⟨v', w', hr, h2, h3, h4⟩ := run_app_own (P := P) w base t o.type e i z size bytes ht hi hz hsize hby hzs hsz v n xs hown ad m c news hl hnews h1 h63 hbytes hbase
  unfold Oper.wp execOp
  simp only [hop, resolve, invoke, builtin, Sem.run_bind, Sem.run_pure, Result.andThen_ok, List.map_toArray, List.map_cons, List.map_nil, hs, hx, hr]
  exact hK _ _ h2 h3 h4
theorem step_app_str {P : Program} {ops : Array Oper} {o : Oper} {a : Act} {w : World} {K : Act → World → Prop} {Q : Exit → Act → World → Prop} {E : Prop}
    (hg : o.guard = none) (sl x : Operand) (t u : TypeId) (ho : o.op = .call { callee := .builtin .append, args := #[sl, x], argTypes := #[t, u] })
    (base : Nat) (e : TypeId) (i : TypeInfo) (ht : P.underlying t = some (.slice e)) (hu : P.underlying u = some .string) (hi : P.info? e = some i) (hz : i.zero = some (.int .u8 0))
    (hsize : i.size = 1) (hby : i.bytes = 1)
    (v : Value) (n : Nat) (xs : List Value) (hs : a.eval sl = v) (hown : w.ownsRow base e 1 v n xs) (s : ByteArray) (hx : a.eval x = .string s)
    (h63 : n + s.size ≤ maxLen) (hbytes : n + s.size ≤ 140737488355328) (hbase : base ≤ w.heap.size)
    (hK : ∀ v' w', w'.ownsRow base e 1 v' (n + s.size) (xs ++ Lib.strCells s) → w.grownBy w' v.ownBlock → (∀ k, v'.ownBlock = some k → v.ownBlock = some k ∨ w.heap.size ≤ k) → K (a.put o.dst v') w') :
    if Region.wanted o (yielded ops a.tmps) = true then Oper.wp P o a w K Q else E := by
  have hw : Region.wanted o (yielded ops a.tmps) = true := by simp [Region.wanted, hg]
  rw [if_pos hw]
  obtain ⟨v', w', hr, h2, h3, h4⟩ := run_app_str (P := P) w base t u o.type e i ht hu hi hz hsize hby v n xs hown s h63 hbytes hbase
  unfold Oper.wp execOp
  simp only [ho, resolve, invoke, builtin, Sem.run_bind, Sem.run_pure, Result.andThen_ok, List.map_toArray, List.map_cons, List.map_nil, hs, hx, hr]
  exact hK _ _ h2 h3 h4
def addF (f : Dk.Fl) (r : ByteArray) : Dk.Fl := { f with recs := f.recs ++ [r] }
theorem addF_starts (f : Dk.Fl) (r : ByteArray) (ht : f.torn = Dk.e0) (hs : f.syn ≤ f.recs.length) : Dk.starts (addF f r) = Dk.starts f ++ [((cb f).size : Int)] := by
  have h1 := Dk.starts_length f
  have h2 : (Dk.starts (addF f r)).length = f.recs.length + 1 - f.syn := by
    rw [Dk.starts_length]
    show (f.recs ++ [r]).length - f.syn = _
    rw [List.length_append]; rfl
  apply List.ext_getElem?
  intro i
  by_cases hi : i < (Dk.starts (addF f r)).length
  · rw [Dk.starts_at (addF f r) i (by rw [← Dk.starts_length]; exact hi)]
    show some ((Dk.sz ((f.recs ++ [r]).take (f.syn + i)) : Nat) : Int) = _
    rw [List.take_append_of_le_length (by omega)]
    by_cases hj : i < (Dk.starts f).length
    · rw [List.getElem?_append_left hj, Dk.starts_at f i (by omega)]
    · rw [List.getElem?_append_right (by omega), show i - (Dk.starts f).length = 0 by omega, cb_size, ht, show f.syn + i = f.recs.length by omega, List.take_length]
      rfl
  · rw [List.getElem?_eq_none (by omega), List.getElem?_eq_none (by rw [List.length_append, List.length_singleton]; omega)]
theorem addF_cb (f : Dk.Fl) (r : ByteArray) (ht : f.torn = Dk.e0) : Lib.strCells (cb (addF f r)) = Lib.strCells (cb f) ++ Lib.strCells r := by
  unfold Lib.strCells
  rw [← List.map_append]
  congr 1
  show (Dk.bytes (addF f r)).toArray.toList = (Dk.bytes f).toArray.toList ++ _
  rw [List.toList_toArray, List.toList_toArray, Dk.bytes, Dk.bytes]
  show Dk.cat (f.recs ++ [r]) ++ f.torn.data.toList = _
  rw [ht, Dk.cat_append]
  simp [Dk.cat, Dk.e0]
theorem addF_size (f : Dk.Fl) (r : ByteArray) (ht : f.torn = Dk.e0) : (cb (addF f r)).size = (cb f).size + r.size := by
  have := congrArg List.length (addF_cb f r ht)
  rw [List.length_append, Lib.strCells_length, Lib.strCells_length, Lib.strCells_length] at this
  exact this
structure AddMid (W V : World) (h : Hm) (A1 : Option Addr) (cap1 Z n : Nat) : Prop where
  row : V.heap[h.b]? = some (.cells #[.slice h.ca Z h.cc, .int .i64 (h.f.syn : Int), .slice A1 (n + 1) cap1, .bool h.f.cut] 169 (0, 0))
  cont : V.ownsRow 0 5 1 (.slice h.ca Z h.cc) Z (Lib.strCells (cb h.f))
  unsy : V.ownsRow 0 3 1 (.slice A1 (n + 1) cap1) (n + 1) (ic (Dk.starts h.f) ++ [.int .i64 (Z : Int)])
  ko : Ko h.Blk W V
  blk : ∀ k, (Value.slice A1 (n + 1) cap1).ownBlock = some k → h.Blk k ∨ W.heap.size ≤ k
  ne : (Value.slice h.ca Z h.cc).ownBlock ≠ some h.b
theorem add_mid {W w1 : World} {h : Hm} (hf : FAt W h) {Z n : Nat} (hZ : Z = (cb h.f).size) (hn : n = (Dk.starts h.f).length) {x : Obj} (hg : ((W.alloc x).drew).grownBy w1 (Value.slice h.ua n h.uc).ownBlock) {A1 : Option Addr} {cap1 : Nat}
    (ho : w1.ownsRow 0 3 1 (.slice A1 (n + 1) cap1) (n + 1) (ic (Dk.starts h.f) ++ [.int .i64 (Z : Int)])) (hk1 : ∀ k, (Value.slice A1 (n + 1) cap1).ownBlock = some k → (Value.slice h.ua n h.uc).ownBlock = some k ∨ W.heap.size + 1 ≤ k) :
    AddMid W (w1.setCell ⟨h.b, 2, none⟩ (.slice A1 (n + 1) cap1)) h A1 cap1 Z n := by
  have hbl := hf.lt (.inl rfl)
  subst hZ hn
  have hsz : W.heap.size + 1 ≤ w1.heap.size := by have := hg.size; simpa using this
  have hkb : ∀ k, k < W.heap.size → (Value.slice h.ua (Dk.starts h.f).length h.uc).ownBlock ≠ some k → w1.heap[k]? = W.heap[k]? := fun k hk hne =>
    (hg.block k (by simp; omega) (fun he => hne he.symm)).trans ((bnew (Below.refl W.heap.size W) x).block k hk)
  have hr1 := (hkb h.b hbl hf.unsy_ne).trans hf.row
  have hkw : Ko h.Blk W w1 := ⟨hg.os, hg.tape, hg.output, by omega, fun k hk hn => hkb k hk fun he => hn (.inr (.inr he))⟩
  have hne1 : (Value.slice A1 ((Dk.starts h.f).length + 1) cap1).ownBlock ≠ some h.b := fun he => by
    rcases hk1 _ he with h2 | h2
    · exact hf.unsy_ne h2
    · omega
  refine ⟨?_, ?_, own_setb ho hne1 _, hkw.set (.inl rfl) 2 _, fun k hk => ?_, hf.cont_ne⟩
  · exact heap_setCell_same w1 h.b 2 _ _ _ hr1
  · exact own_setb (own_kept hf.cont fun k hk => hkb k (own_lt hf.cont hk).1 fun he => hf.apart hk he) hf.cont_ne _
  · rcases hk1 k hk with h2 | h2
    · exact .inl (.inr (.inr h2))
    · exact .inr (by omega)
theorem add_end {W V w2 : World} {h : Hm} {A1 : Option Addr} {cap1 Z n : Nat} (hm : AddMid W V h A1 cap1 Z n) (hZ : Z = (cb h.f).size) (hn : n = (Dk.starts h.f).length) (ht : h.f.torn = Dk.e0) (hs : h.f.syn ≤ h.f.recs.length) (r : ByteArray)
    (hg : V.grownBy w2 (Value.slice h.ca Z h.cc).ownBlock) {A2 : Option Addr} {cap2 : Nat}
    (ho : w2.ownsRow 0 5 1 (.slice A2 (Z + r.size) cap2) (Z + r.size) (Lib.strCells (cb h.f) ++ Lib.strCells r)) (hk2 : ∀ k, (Value.slice A2 (Z + r.size) cap2).ownBlock = some k → (Value.slice h.ca Z h.cc).ownBlock = some k ∨ V.heap.size ≤ k) :
    w2.heap[h.b]? = some (.cells #[.slice h.ca Z h.cc, .int .i64 (h.f.syn : Int), .slice A1 (n + 1) cap1, .bool h.f.cut] 169 (0, 0)) ∧
    (let w3 := w2.setCell ⟨h.b, 0, none⟩ (.slice A2 (Z + r.size) cap2)
    let h' : Hm := ⟨addF h.f r, h.b, A2, cap2, A1, cap1⟩
    FAt w3 h' ∧ Ko h.Blk W w3 ∧ ∀ k, h'.Blk k → h.Blk k ∨ W.heap.size ≤ k) := by
  have hbl : h.b < V.heap.size := (Array.getElem?_eq_some_iff.1 hm.row).1
  have hkb : ∀ k, k < V.heap.size → (Value.slice h.ca Z h.cc).ownBlock ≠ some k → w2.heap[k]? = V.heap[k]? := fun k hk hne => hg.block k hk (fun he => hne he.symm)
  have hr2 := (hkb h.b hbl hm.ne).trans hm.row
  have hkw : Ko h.Blk W w2 := hm.ko.trans (T := h.Blk) ⟨hg.os, hg.tape, hg.output, hg.size, fun k hk hn => hkb k hk fun he => hn (.inr (.inl (by rw [← hZ]; exact he)))⟩ fun _ hk => .inl hk
  have hne2 : (Value.slice A2 (Z + r.size) cap2).ownBlock ≠ some h.b := fun he => by
    rcases hk2 _ he with h2 | h2
    · exact hm.ne h2
    · omega
  have hcz := addF_size h.f r ht
  have hst := addF_starts h.f r ht hs
  have hsl : (Dk.starts (addF h.f r)).length = n + 1 := by rw [hst, List.length_append, ← hn]; rfl
  have hcc : (cb (addF h.f r)).size = Z + r.size := by rw [hcz, hZ]
  have hne1 : (Value.slice A1 (n + 1) cap1).ownBlock ≠ some h.b := fun he => by
    obtain ⟨cur, hc⟩ := own_obj hm.unsy he
    have := hm.row
    rw [hc] at this
    simp at this
  have hap : ∀ k, (Value.slice A1 (n + 1) cap1).ownBlock = some k → (Value.slice h.ca Z h.cc).ownBlock ≠ some k := fun k h1 h2 => by
    obtain ⟨d1, e1⟩ := own_obj hm.unsy h1
    obtain ⟨d2, e2⟩ := own_obj hm.cont h2
    rw [e1] at e2
    simp at e2
  refine ⟨hr2, ⟨?_, ?_, ?_⟩, hkw.set (.inl rfl) 0 _, fun k hk => ?_⟩
  · refine (heap_setCell_same w2 h.b 0 _ _ _ hr2).trans ?_
    show some (Obj.cells #[.slice A2 (Z + r.size) cap2, .int .i64 (h.f.syn : Int), .slice A1 (n + 1) cap1, .bool h.f.cut] _ _) = some (Obj.cells #[.slice A2 (cb (addF h.f r)).size cap2, .int .i64 (h.f.syn : Int), .slice A1 (Dk.starts (addF h.f r)).length cap1, .bool h.f.cut] _ _)
    rw [hsl, hcc]
  · show World.ownsRow _ _ _ _ (Value.slice A2 (cb (addF h.f r)).size cap2) (cb (addF h.f r)).size (Lib.strCells (cb (addF h.f r)))
    rw [addF_cb h.f r ht, hcc]
    exact own_setb ho hne2 _
  · show World.ownsRow _ _ _ _ (Value.slice A1 (Dk.starts (addF h.f r)).length cap1) (Dk.starts (addF h.f r)).length (ic (Dk.starts (addF h.f r)))
    rw [hsl, hst, ic, List.map_append]
    have := own_setb (own_kept hm.unsy fun k hk => hkb k (own_lt hm.unsy hk).1 (hap k hk)) hne1 (i := 0) (Value.slice A2 (Z + r.size) cap2)
    rw [hZ] at this ⊢
    exact this
  · rcases hk with hk | hk | hk
    · exact .inl (.inl hk)
    · replace hk : (Value.slice A2 (Z + r.size) cap2).ownBlock = some k := by rw [own_blk A2 (Z + r.size) (cb (addF h.f r)).size cap2 cap2]; exact hk
      rcases hk2 k hk with h2 | h2
      · exact .inl (.inr (.inl (by rw [← hZ]; exact h2)))
      · exact .inr (by have := hm.ko.size; omega)
    · exact hm.blk k (by rw [own_blk A1 (n + 1) (Dk.starts (addF h.f r)).length cap1 cap1]; exact hk)
set_option maxRecDepth 100000 in
set_option maxHeartbeats 1000000 in
theorem fadd_any (W : World) (h : Hm) (hf : FAt W h) (ht : h.f.torn = Dk.e0) (hs : h.f.syn ≤ h.f.recs.length) (r : ByteArray) (hl : Dk.flLoad h.f + r.size ≤ 100000000) :
    Calls Tryz.prog 103 #[.pointer (some ⟨h.b, 0, none⟩), .string r] W fun e w' => e = .returned (.tuple #[]) ∧ ∃ h', FAt w' h' ∧ h'.b = h.b ∧ h'.f = { h.f with recs := h.f.recs ++ [r] } ∧ Ko h.Blk W w' ∧ ∀ k, h'.Blk k → h.Blk k ∨ W.heap.size ≤ k := by
  obtain ⟨c0, c1, c2, c3⟩ := hf.c
  have f0 := hf.fz 0
  have f2 := hf.fz 2
  obtain ⟨i1, hi, hz0, hz1, hz2⟩ := info_parts dm_infoInt
  obtain ⟨i0, hj, hy0, hy1, hy2⟩ := info_parts Tryz.infoByte
  obtain ⟨Z, hZ⟩ : ∃ Z, Z = (cb h.f).size := ⟨_, rfl⟩
  obtain ⟨n, hn⟩ : ∃ n, n = (Dk.starts h.f).length := ⟨_, rfl⟩
  rw [← hZ] at c0
  rw [← hn] at c2
  have Hu : Hid (World.ownsRow ((W.alloc (.cells #[.int .i64 (Z : Int)] 3)).drew) 0 3 1 (.slice h.ua n h.uc) n (ic (Dk.starts h.f))) := Lib.hid (by
    rw [hn]
    exact own_kept hf.unsy fun k hk => (bnew (Below.refl W.heap.size W) _).block k (own_lt hf.unsy hk).1)
  have Hnw : Hid (∀ j u, [Value.int .i64 (Z : Int)][j]? = some u → ((W.alloc (.cells #[.int .i64 (Z : Int)] 3)).drew).cell? ((⟨W.heap.size, 0, none⟩ : Addr).add j) = some u) := Lib.hid (news_fl W [.int .i64 (Z : Int)] 3)
  have hnl := Dk.starts_length h.f
  have hld : 1 + h.f.name.size + h.f.recs.length + Dk.sz h.f.recs + h.f.torn.size + r.size ≤ 100000000 := hl
  have hzz := cb_size h.f
  have bn : n ≤ 100000000 := by omega
  have bZ : Z + r.size ≤ 100000000 := by omega
  have HF := Lib.hid hf
  have HN := Lib.hid (And.intro hn hZ)
  have HS := Lib.hid (And.intro hs ht)
  have HR : Hid (∀ w1, ((W.alloc (.cells #[.int .i64 (Z : Int)] 3)).drew).grownBy w1 (Value.slice h.ua n h.uc).ownBlock → w1.heap[h.b]? = some (.cells (fileC h) 169 (0, 0))) := Lib.hid fun w1 hg => by
    have hbl := hf.lt (.inl rfl)
    refine (hg.block h.b (by simp; omega) (fun he => hf.unsy_ne (by rw [← hn]; exact he.symm))).trans ?_
    exact ((bnew (Below.refl W.heap.size W) _).block _ hbl).trans hf.row
  have c2' : (W.alloc (.cells #[.int .i64 (Z : Int)] 3)).cell? ⟨h.b, 2, none⟩ = some (.slice h.ua n h.uc) := later (bnew (Below.refl _ _) _) c2
  have HK2 : Hid (∀ w1 : World, w1.heap[h.b]? = some (.cells (fileC h) 169 (0, 0)) → w1.cell? ⟨h.b, 2, none⟩ = some (.slice h.ua n h.uc)) := Lib.hid fun w1 hr1 => by
    have := cell_of_row w1 h.b 2 _ _ _ hr1
    rw [this, hn]; rfl
  clear c1 c3 hf hn hZ hzz hld hnl hl ht hs
  go_enter Tryz.func103, Tryz.ntmps103
  go_wp2_with fail
  go_region_law (refine step_app_own rfl (.tmp 8) (.tmp 14) 43 rfl 0 3 i1 (.int .i64 0) 1 8 Tryz.underlying43 hi hz0 hz1 hz2 rfl (by decide) _ _ _ rfl Hu.out ⟨W.heap.size, 0, none⟩ 1 1 [.int .i64 (Z : Int)] rfl rfl Hnw.out (ic_one [(Z : Int)]) (by simp only [maxLen]; omega) (by omega) (by simp) ?_; intro v1 w1 ho1 hg1 hn1; obtain ⟨A1, cap1, rfl, _⟩ := own_slice ho1; have hr1 := HR.out w1 hg1; have k2 := HK2.out w1 hr1; have g2 := frozen_of_row w1 h.b 2 _ _ hr1; have HO1 := Lib.hid (And.intro ho1 (And.intro hg1 hn1)); have HR1 := Lib.hid hr1; clear ho1 hg1 hn1 hr1)
  all_goals
    have hm := add_mid HF.out HN.out.2 HN.out.1 HO1.out.2.1 HO1.out.1 (fun k hk => by rcases HO1.out.2.2 k hk with h2 | h2; exact .inl h2; exact .inr (by simpa using h2))
    obtain ⟨V, hV⟩ : ∃ V, V = w1.setCell ⟨h.b, 2, none⟩ (.slice A1 (n + 1) cap1) := ⟨_, rfl⟩
    rw [← hV] at hm ⊢
    have Hm := Lib.hid hm
    have d0 : V.cell? ⟨h.b, 0, none⟩ = some (.slice h.ca Z h.cc) := cell_of_row V h.b 0 _ _ _ hm.row
    have Hct : Hid (V.ownsRow 0 5 1 (.slice h.ca Z h.cc) Z (Lib.strCells (cb h.f))) := Lib.hid hm.cont
    clear hm hV k2 g2 c0 c2 c2' f0 f2 Hu Hnw HR HK2 HO1 HR1
    go_wp2_with (at_builtin; refine wpList_app_str rfl (.tmp 22) (.tmp 23) 153 9 rfl 0 5 i0 Tryz.underlying153 Tryz.underlying9 hj hy0 hy1 hy2 _ _ _ rfl Hct.out r rfl (by simp only [maxLen]; omega) (by omega) (by omega) ?_)
    intro v2 w2 ho2 hg2 hn2
    obtain ⟨A2, cap2, rfl, _⟩ := own_slice ho2
    have hend := add_end Hm.out HN.out.2 HN.out.1 HS.out.2 HS.out.1 r hg2 ho2 hn2
    have k2 : w2.cell? ⟨h.b, 0, none⟩ = some (.slice h.ca Z h.cc) := cell_of_row w2 h.b 0 _ _ _ hend.1
    have g2 := frozen_of_row w2 h.b 0 _ _ hend.1
    have HE := Lib.hid hend
    clear ho2 hg2 hn2 hend
    all_goals go_wp2_with fail
    all_goals go_end0
    all_goals exact ⟨rfl, _, HE.out.2.1, rfl, rfl, HE.out.2.2.1, HE.out.2.2.2⟩
end Go.Proofs.YtdcjhpnakbejkaaGreatDoor
