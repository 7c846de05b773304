/-
  cmd.walkRow walked, by any walker. WRITTEN BY wip/tools/gen_wkres.py.
  cmd.walkItems of rows walked, by any walker. WRITTEN BY wip/tools/gen_wkres.py out of XWkItems.
  cmd.walkResult walked, by any walker. WRITTEN BY wip/tools/gen_wkres.py.
-/
import Derived.Test.YtlcgjlganmblpaaRWk
import Derived.Test.YtlcgjlganmblpaaRRes
import Derived.Test.YtlcgjlganmblpaaRCmdRead
set_option linter.unusedSimpArgs false
set_option linter.unusedVariables false
namespace Go.Proofs.Ytlcgjlganmblpaa
open Go.RowKit
namespace Wk
def zeroR : Rs.Row := ⟨Cm.e0, Cm.e0, 0⟩
def Alg.row (A : Alg) (s : St) (p : Rs.Row) : Rs.Row × St :=
  (⟨(A.txt s p.key).1, (A.txt (A.txt s p.key).2 p.val).1, (A.grp (A.txt (A.txt s p.key).2 p.val).2 p.ver 18446744073709551615).1⟩, (A.grp (A.txt (A.txt s p.key).2 p.val).2 p.ver 18446744073709551615).2)
def Alg.rows (A : Alg) : Nat → List Rs.Row → St → List Rs.Row × St
  | 0, _, s => ([], s)
  | n + 1, xs, s => if s.bad then ([], s) else ((A.row s (xs.headD zeroR)).1 :: (A.rows n xs.tail (A.row s (xs.headD zeroR)).2).1, (A.rows n xs.tail (A.row s (xs.headD zeroR)).2).2)
theorem Alg.row_len (A : Alg) (s : St) (p : Rs.Row) (hp : p.ver < Nm.top) (hk : p.key.size < Nm.top) (hv : p.val.size < Nm.top) : (A.row s p).2.l.length ≤ s.l.length + p.key.size + p.val.size + 30 := by
  have h1 := A.lenT s p.key hk
  have h2 := A.lenT (A.txt s p.key).2 p.val hv
  have h3 := A.lenG (A.txt (A.txt s p.key).2 p.val).2 p.ver 18446744073709551615 hp
  unfold Alg.row
  simp only; omega
end Wk
/-- A row's cells. -/
def ra (p : Rs.Row) : Array Value := #[.string p.key, .string p.val, .int .u64 (p.ver : Int)]
theorem sizeRow : (Try.prog.info? 78).map (·.size) = some 3 := by kernel_rfl
set_option maxRecDepth 100000 in
set_option maxHeartbeats 1000000 in
theorem walkRow_any {T : TypeId} {A : Wk.Alg} {B : Nat} (K : Wkr T A B) (W : World) (g : Nat) (o : Option Nat) (s : Wk.St) (p : Rs.Row) (h : K.At W g o s) (l0 : s.l.length ≤ 900000000) (hp : p.ver < Nm.top) (hk : p.key.size ≤ 10000000) (hv : p.val.size ≤ 10000000) :
    Calls Try.prog 78 #[.iface T (.pointer (some ⟨g, 0, none⟩)), .agg #[.string p.key, .string p.val, .int .u64 (p.ver : Int)]] W fun e w' => e = .returned (.agg (ra (A.row s p).1)) ∧ ∃ o', K.At w' g o' (A.row s p).2 ∧ Kept g o o' W w' := by
  have HS := Lib.hid (WS.start K h 78 (ra p) (ra Wk.zeroR) (ra Wk.zeroR))
  clear h
  have hC : A.row s p = A.row s p := rfl
  conv at hC => rhs; unfold Wk.Alg.row
  have HC := Lib.hid hC
  clear hC
  have mG := K.mG g
  have mT := K.mT g
  have eG := K.eG
  have eT := K.eT
  go_enter Try.func78, Try.ntmps78
  go_upto_region 2 with (fail)
  refine forget (fun W' => WS K W W' g o o s 78 W.heap.size (W.heap.size + 1) (W.heap.size + 1 + 1) (ra p) (ra Wk.zeroR) (ra Wk.zeroR)) HS.out ?_
  clear HS
  intro W2 S
  have a0 : W2.cell? ⟨W.heap.size, 0, none⟩ = some (.string p.key) := S.la.cell 0
  have HS := Lib.hid S
  clear S
  go_wp2_with fail
  have S := HS.out
  have hc := K.cT _ g o s p.key S.at_ (by omega) (by omega)
  have l1 := A.lenT s p.key (by unfold Nm.top; omega)
  have t1 : True := trivial
  obtain ⟨r0, hr⟩ : ∃ r0, r0 = A.txt s p.key := ⟨_, rfl⟩
  rw [← hr] at hc l1
  obtain ⟨x0, s1⟩ := r0
  simp only at hc l1
  refine hc.mono ?_
  rintro e w1 ⟨rfl, o1, hA, hK⟩
  have S' := S.call hA hK
  have k0 : w1.cell? ⟨W.heap.size + 1 + 1, 0, none⟩ = some (.string ⟨#[]⟩) := S'.lc.cell 0
  have z0 := S'.lc.fz 0
  have S2 := S'.put 0 (.string x0) (vs := (ra ⟨x0, Cm.e0, 0⟩)) rfl
  have HS2 := Lib.hid S2
  have Hr1 := Lib.hid hr
  clear S S' S2 hA hK HS hc hr
  go_upto_region 3 with (fail)
  refine forget (fun W' => WS K W W' g o o1 s1 78 W.heap.size (W.heap.size + 1) (W.heap.size + 1 + 1) (ra p) (ra Wk.zeroR) (ra ⟨x0, Cm.e0, 0⟩)) HS2.out ?_
  clear HS2 k0 z0
  intro W2 S
  clear a0
  have a0 : W2.cell? ⟨W.heap.size, 1, none⟩ = some (.string p.val) := S.la.cell 1
  have HS := Lib.hid S
  clear S
  go_wp2_with fail
  have S := HS.out
  have hc := K.cT _ g o1 s1 p.val S.at_ (by omega) (by omega)
  have l2 := A.lenT s1 p.val (by unfold Nm.top; omega)
  have t2 : True := trivial
  obtain ⟨r0, hr⟩ : ∃ r0, r0 = A.txt s1 p.val := ⟨_, rfl⟩
  rw [← hr] at hc l2
  obtain ⟨x1, s2⟩ := r0
  simp only at hc l2
  refine hc.mono ?_
  rintro e w2 ⟨rfl, o2, hA, hK⟩
  have S' := S.call hA hK
  have k0 : w2.cell? ⟨W.heap.size + 1 + 1, 1, none⟩ = some (.string ⟨#[]⟩) := S'.lc.cell 1
  have z0 := S'.lc.fz 1
  have S2 := S'.put 1 (.string x1) (vs := (ra ⟨x0, x1, 0⟩)) rfl
  have HS2 := Lib.hid S2
  have Hr2 := Lib.hid hr
  clear S S' S2 hA hK HS hc hr
  go_upto_region 4 with (fail)
  refine forget (fun W' => WS K W W' g o o2 s2 78 W.heap.size (W.heap.size + 1) (W.heap.size + 1 + 1) (ra p) (ra Wk.zeroR) (ra ⟨x0, x1, 0⟩)) HS2.out ?_
  clear HS2 k0 z0
  intro W2 S
  clear a0
  have a0 : W2.cell? ⟨W.heap.size, 2, none⟩ = some (.int .u64 (p.ver : Int)) := S.la.cell 2
  have HS := Lib.hid S
  clear S
  go_wp2_with fail
  have S := HS.out
  have hc := K.cG _ g o2 s2 p.ver 18446744073709551615 S.at_ (by omega) hp (by unfold Nm.top; omega)
  rw [show (((18446744073709551615 : Nat) : Int)) = 18446744073709551615 from rfl] at hc
  have l3 := A.lenG s2 p.ver 18446744073709551615 hp
  have t3 := A.ltG s2 p.ver 18446744073709551615 hp
  obtain ⟨r0, hr⟩ : ∃ r0, r0 = A.grp s2 p.ver 18446744073709551615 := ⟨_, rfl⟩
  rw [← hr] at hc l3 t3
  obtain ⟨x2, s3⟩ := r0
  simp only at hc l3 t3
  refine hc.mono ?_
  rintro e w3 ⟨rfl, o3, hA, hK⟩
  have S' := S.call hA hK
  have k0 : w3.cell? ⟨W.heap.size + 1 + 1, 2, none⟩ = some (.int .u64 0) := S'.lc.cell 2
  have z0 := S'.lc.fz 2
  have S2 := S'.put 2 (.int .u64 (x2 : Int)) (vs := (ra ⟨x0, x1, x2⟩)) rfl
  have HS2 := Lib.hid S2
  have Hr3 := Lib.hid hr
  clear S S' S2 hA hK HS hc hr
  go_upto_region 5 with (fail)
  refine forget (fun W' => WS K W W' g o o3 s3 78 W.heap.size (W.heap.size + 1) (W.heap.size + 1 + 1) (ra p) (ra Wk.zeroR) (ra ⟨x0, x1, x2⟩)) HS2.out ?_
  clear HS2 k0 z0
  intro W2 S
  clear a0
  rw [← Hr1.out] at HC
  simp only at HC
  rw [← Hr2.out] at HC
  simp only at HC
  rw [← Hr3.out] at HC
  simp only at HC
  have c0 : W2.cell? ⟨W.heap.size + 1 + 1, 0, none⟩ = some (.string x0) := S.lc.cell 0
  have c1 : W2.cell? ⟨W.heap.size + 1 + 1, 1, none⟩ = some (.string x1) := S.lc.cell 1
  have c2 : W2.cell? ⟨W.heap.size + 1 + 1, 2, none⟩ = some (.int .u64 (x2 : Int)) := S.lc.cell 2
  have d0 : W2.cell? ⟨W.heap.size + 1, 0, none⟩ = some (.string ⟨#[]⟩) := S.lb.cell 0
  have d1 : W2.cell? ⟨W.heap.size + 1, 1, none⟩ = some (.string ⟨#[]⟩) := S.lb.cell 1
  have d2 : W2.cell? ⟨W.heap.size + 1, 2, none⟩ = some (.int .u64 0) := S.lb.cell 2
  have y0 := S.lb.fz 0
  have y1 := S.lb.fz 1
  have y2 := S.lb.fz 2
  have HS := Lib.hid (((S.res 0 (.string x0) rfl).res 1 (.string x1) rfl).res 2 (.int .u64 (x2 : Int)) rfl)
  clear S
  go_wp2_with fail
  have S := HS.out
  refine bodyPost_ret (results_cell_row (P := Try.prog) (fn := Try.f78) rfl _ _ _ 78 _ (0, 0) _ rfl S.lb.row Try.underlying78 rfl sizeRow) rfl ⟨?_, o3, ?_, S.kept⟩
  · rw [HC.out]; rfl
  · rw [HC.out]; exact S.at_
end Go.Proofs.Ytlcgjlganmblpaa
namespace Go.Proofs.Ytlcgjlganmblpaa
open Go.RowKit
theorem Try.infoRow : (Try.prog.info? 78).map (fun i => (i.zero, i.size, i.bytes)) = some (some (.agg #[.string ⟨#[]⟩, .string ⟨#[]⟩, .int .u64 0]), 3, 40) := by kernel_rfl
set_option maxRecDepth 100000 in
set_option maxHeartbeats 1000000 in
theorem wrows_any {T : TypeId} {A : Wk.Alg} {B : Nat} (K : Wkr T A B) (W : World) (g : Nat) (o : Option Nat) (s : Wk.St) (A0 : Option Addr) (cap : Nat) (xs : List Rs.Row) (n : Nat) (h : K.At W g o s) (hn : n < Nm.top) (hxl : xs.length ≤ 1000000)
    (hx : Lies W A0 (rc xs)) (hxb : ∀ b off, A0 = some ⟨b, off, none⟩ → xs ≠ [] → b ≠ g ∧ o ≠ some b) (hfit : ∀ p ∈ xs, p.ver < Nm.top ∧ p.key.size ≤ 10000000 ∧ p.val.size ≤ 10000000)
    (I : Nat → Wk.St → Prop) (hI0 : I 0 s) (hI1 : ∀ k s, I k s → k < n → s.bad = false → I (k + 1) (A.row s ((xs.drop k).headD Wk.zeroR)).2) (hI2 : ∀ k s, I k s → s.l.length ≤ 900000000 ∧ k ≤ 1000000000)
    : Calls Try.prog 77 #[.iface T (.pointer (some ⟨g, 0, none⟩)), .slice A0 xs.length cap, .int .u64 (n : Int), .func (.func 78) #[] #[]] W fun e w' => ∃ v o', e = .returned v ∧ IS K W w' g o o' (A.rows n xs s).2 v 78 (A.rows n xs s).1.length (rc (A.rows n xs s).1) := by
  have mS := K.mS g
  have eS := K.eS
  obtain ⟨i0, hi, hz0, hz1, hz2⟩ := info_parts Try.infoRow
  have hwl : IntKind.u64.wrap (xs.length : Int) = (xs.length : Int) := wrap_u64_nat _ (by unfold Nm.top; omega)
  go_enter Try.func77, Try.ntmps77
  go_wp2_with fail
  go_loopw [9, 10] (fun v i wr => ∃ (k : Nat) (done : List Rs.Row) (o' : Option Nat) (s' : Wk.St), k ≤ n ∧ done.length = k ∧ i = .int .u64 (k : Int) ∧ I k s' ∧ IS K W wr g o o' s' v 78 k (rc done) ∧ A.rows n xs s = (done ++ (A.rows (n - k) (xs.drop k) s').1, (A.rows (n - k) (xs.drop k) s').2)) (fun _ i _ => (n - intOf i).toNat)
  case atStart =>
    exact ⟨0, [], o, s, Nat.zero_le _, rfl, rfl, hI0, ⟨h, Kept.refl _ _ _, World.ownsRow_nil _ _ _ _⟩, by simp⟩
  case round =>
    obtain ⟨k, done, o1, s1, hk, hdl, rfl, hI, hIS, hP⟩ := hrel
    have hcs := K.cS _ g o1 s1 hIS.at_
    have HIS := Lib.hid hIS
    have HP := Lib.hid hP
    have HI := Lib.hid hI
    clear hIS hP hI
    by_cases hkn : k < n
    · have hlt : ((k : Int) < (n : Int)) := by omega
      cases hb : s1.bad
      · rw [hb] at hcs
        have Hcs := Lib.hid hcs
        have Hb := Lib.hid hb
        clear hcs hb
        go_wp2_with fail
        refine Hcs.out.mono ?_
        rintro e w1 ⟨rfl, rfl⟩
        clear Hcs
        obtain ⟨x, hx0⟩ : ∃ x, x = wr.heap.size := ⟨_, rfl⟩
        obtain ⟨p, hp⟩ : ∃ p, p = (xs.drop k).headD Wk.zeroR := ⟨_, rfl⟩
        have hpf : p.ver < Nm.top ∧ p.key.size ≤ 10000000 ∧ p.val.size ≤ 10000000 := by
          by_cases hkx : k < xs.length
          · rw [List.drop_eq_getElem_cons hkx] at hp
            rw [hp]; exact hfit _ (List.getElem_mem hkx)
          · rw [List.drop_eq_nil_of_le (by omega)] at hp
            rw [hp]; exact ⟨by decide, by decide, by decide⟩
        have hx1 : W.heap.size ≤ x := by rw [hx0]; exact HIS.out.kept.size
        have hno : u9.ownBlock ≠ some x := fun e => by have := (HIS.out.own.lt x e).2; omega
        have hS0 : ∀ cs, IS K W (wr.alloc (.cells cs 78)) g o o1 s1 u9 78 k (rc done) ∧ (wr.alloc (.cells cs 78)).heap[x]? = some (.cells cs 78 (0, 0)) ∧ (x ≠ g ∧ o1 ≠ some x) ∧ u9.ownBlock ≠ some x := fun cs => by
          have h1 := HIS.out.bel (bnew (Below.refl _ _) (.cells cs 78))
          have h2 := heap_alloc_new wr (.cells cs 78)
          have h3 := K.ne _ _ _ _ h1.at_ h2 (.inr rfl)
          rw [← hx0] at h2 h3
          exact ⟨h1, h2, h3, hno⟩
        have HS0 := Lib.hid hS0
        clear hS0 hno
        by_cases hkx : k < xs.length
        · have hltx : ((k : Int) < (xs.length : Int)) := by omega
          have hpx : p = xs[k] := by rw [hp, List.drop_eq_getElem_cons hkx]; rfl
          obtain ⟨b, off, hA0, hb0, c0, c1, c2⟩ := hx.row k hkx
          obtain ⟨hbg, hbo⟩ := hxb b off hA0 (fun e => by rw [e] at hkx; simp at hkx)
          subst hA0
          rw [← hpx] at c0 c1 c2
          have hbx : (wr.alloc (.cells #[.string ⟨#[]⟩, .string ⟨#[]⟩, .int .u64 0] 78)).heap[b]? = W.heap[b]? := (Below.heap_alloc _ _ _ (Nat.lt_of_lt_of_le hb0 HIS.out.kept.size)).trans (HIS.out.kept.block b hb0 hbg hbo)
          have d0 := (World.cell?_of_block (a := ⟨b, off + k * 3, none⟩) hbx).trans c0
          have d1 := (World.cell?_of_block (a := ⟨b, off + k * 3 + 1, none⟩) hbx).trans c1
          have d2 := (World.cell?_of_block (a := ⟨b, off + k * 3 + 2, none⟩) hbx).trans c2
          clear hbx c0 c1 c2 hpx
          have Hp := Lib.hid hp
          clear hp
          go_upto_region 8 with (fail)
          rw [← hx0]
          clear hx0
          refine forget (fun W' => IS K W W' g o o1 s1 u9 78 k (rc done) ∧ W'.heap[x]? = some (.cells (ra p) 78 (0, 0)) ∧ (x ≠ g ∧ o1 ≠ some x) ∧ u9.ownBlock ≠ some x) ?_ ?_
          · exact HS0.out (ra p)
          clear d0 d1 d2 hbg hbo hb0 hltx hkx HS0
          rintro W5 ⟨hS5, hr5, ⟨hxg, hxo⟩, hxn⟩
          have k0 : W5.cell? ⟨x, 0, none⟩ = some (.string p.key) := cell_of_row W5 x 0 _ _ _ hr5
          have k1 : W5.cell? ⟨x, 1, none⟩ = some (.string p.val) := cell_of_row W5 x 1 _ _ _ hr5
          have k2 : W5.cell? ⟨x, 2, none⟩ = some (.int .u64 (p.ver : Int)) := cell_of_row W5 x 2 _ _ _ hr5
          have hcw := walkRow_any K W5 g o1 s1 p hS5.at_ (hI2 _ _ HI.out).1 hpf.1 hpf.2.1 hpf.2.2
          have Hst := Lib.hid (hI1 k s1 HI.out hkn Hb.out)
          rw [← Hp.out] at Hst
          have HPs : Hid (A.rows (n - k) (xs.drop k) s1 = ((A.row s1 p).1 :: (A.rows (n - (k + 1)) (xs.drop (k + 1)) (A.row s1 p).2).1, (A.rows (n - (k + 1)) (xs.drop (k + 1)) (A.row s1 p).2).2)) := by
            refine Lib.hid ?_
            have e : n - k = (n - (k + 1)) + 1 := by omega
            rw [e, Wk.Alg.rows, Hb.out, ← Hp.out, List.tail_drop]
            rfl
          generalize A.row s1 p = r at hcw Hst HPs
          obtain ⟨q, s2⟩ := r
          simp only at hcw Hst HPs
          unfold ra at hcw
          have Hcw := Lib.hid hcw
          have HS5 := Lib.hid hS5
          clear hS5 hr5 hcw hxg hxo hxn
          go_wp2_with fail
          refine Hcw.out.mono ?_
          rintro e w6 ⟨rfl, o2, hA2, hK2⟩
          have hS6 := HS5.out.call (.inr rfl) hA2 hK2
          have hown := hS6.own
          have hbs := hS6.kept.size
          have hk9 := (hI2 _ _ HI.out).2
          have HS6 := Lib.hid hS6
          clear hS6 hA2 hK2 HS5 Hcw k0 k1 k2
          go_wp2_with (at_builtin; refine wpList_append_own _ rfl (.tmp 30) (.tmp 35) 35 rfl W.heap.size 78 i0 (.agg #[.string ⟨#[]⟩, .string ⟨#[]⟩, .int .u64 0]) 3 40 Try.underlying35 hi hz0 hz1 hz2 rfl (by decide) u9 _ _ rfl (World.ownsRow.alloc hown _) ⟨w6.heap.size, 0, none⟩ 1 1 (rc1 q) rfl rfl (news_at w6 _ _) (fun u hu => by simp [rc1] at hu; rcases hu with rfl | rfl | rfl <;> rfl) (by simp only [maxLen]; omega) (by omega) (by simp; omega) ?_; intro v' w' ho' hg' _)
          go_roundw
          case rel =>
            refine ⟨k + 1, done ++ [q], o2, s2, by omega, by simp [hdl], by go_num, Hst.out, ?_, ?_⟩
            · have := ((HS6.out.bel (bnew (Below.refl _ _) _)).append (.inr rfl) hg' ho')
              simpa [rc, rc1] using this
            · rw [HP.out, HPs.out]; simp
          case measure => simp [intOf]; omega
        · have hltx : ¬ ((k : Int) < (xs.length : Int)) := by omega
          have Hpz : Hid (p = Wk.zeroR) := Lib.hid (by rw [hp, List.drop_eq_nil_of_le (by omega)]; rfl)
          have Hp := Lib.hid hp
          clear hp
          go_upto_region 8 with (fail)
          rw [← hx0]
          clear hx0
          refine forget (fun W' => IS K W W' g o o1 s1 u9 78 k (rc done) ∧ W'.heap[x]? = some (.cells (ra p) 78 (0, 0)) ∧ (x ≠ g ∧ o1 ≠ some x) ∧ u9.ownBlock ≠ some x) ?_ ?_
          · rw [Hpz.out]; exact HS0.out _
          clear Hpz hltx hkx HS0
          rintro W5 ⟨hS5, hr5, ⟨hxg, hxo⟩, hxn⟩
          have k0 : W5.cell? ⟨x, 0, none⟩ = some (.string p.key) := cell_of_row W5 x 0 _ _ _ hr5
          have k1 : W5.cell? ⟨x, 1, none⟩ = some (.string p.val) := cell_of_row W5 x 1 _ _ _ hr5
          have k2 : W5.cell? ⟨x, 2, none⟩ = some (.int .u64 (p.ver : Int)) := cell_of_row W5 x 2 _ _ _ hr5
          have hcw := walkRow_any K W5 g o1 s1 p hS5.at_ (hI2 _ _ HI.out).1 hpf.1 hpf.2.1 hpf.2.2
          have Hst := Lib.hid (hI1 k s1 HI.out hkn Hb.out)
          rw [← Hp.out] at Hst
          have HPs : Hid (A.rows (n - k) (xs.drop k) s1 = ((A.row s1 p).1 :: (A.rows (n - (k + 1)) (xs.drop (k + 1)) (A.row s1 p).2).1, (A.rows (n - (k + 1)) (xs.drop (k + 1)) (A.row s1 p).2).2)) := by
            refine Lib.hid ?_
            have e : n - k = (n - (k + 1)) + 1 := by omega
            rw [e, Wk.Alg.rows, Hb.out, ← Hp.out, List.tail_drop]
            rfl
          generalize A.row s1 p = r at hcw Hst HPs
          obtain ⟨q, s2⟩ := r
          simp only at hcw Hst HPs
          unfold ra at hcw
          have Hcw := Lib.hid hcw
          have HS5 := Lib.hid hS5
          clear hS5 hr5 hcw hxg hxo hxn
          go_wp2_with fail
          refine Hcw.out.mono ?_
          rintro e w6 ⟨rfl, o2, hA2, hK2⟩
          have hS6 := HS5.out.call (.inr rfl) hA2 hK2
          have hown := hS6.own
          have hbs := hS6.kept.size
          have hk9 := (hI2 _ _ HI.out).2
          have HS6 := Lib.hid hS6
          clear hS6 hA2 hK2 HS5 Hcw k0 k1 k2
          go_wp2_with (at_builtin; refine wpList_append_own _ rfl (.tmp 30) (.tmp 35) 35 rfl W.heap.size 78 i0 (.agg #[.string ⟨#[]⟩, .string ⟨#[]⟩, .int .u64 0]) 3 40 Try.underlying35 hi hz0 hz1 hz2 rfl (by decide) u9 _ _ rfl (World.ownsRow.alloc hown _) ⟨w6.heap.size, 0, none⟩ 1 1 (rc1 q) rfl rfl (news_at w6 _ _) (fun u hu => by simp [rc1] at hu; rcases hu with rfl | rfl | rfl <;> rfl) (by simp only [maxLen]; omega) (by omega) (by simp; omega) ?_; intro v' w' ho' hg' _)
          go_roundw
          case rel =>
            refine ⟨k + 1, done ++ [q], o2, s2, by omega, by simp [hdl], by go_num, Hst.out, ?_, ?_⟩
            · have := ((HS6.out.bel (bnew (Below.refl _ _) _)).append (.inr rfl) hg' ho')
              simpa [rc, rc1] using this
            · rw [HP.out, HPs.out]; simp
          case measure => simp [intOf]; omega
      · rw [hb] at hcs
        have Hcs := Lib.hid hcs
        have Hb := Lib.hid hb
        clear hcs hb
        go_wp2_with fail
        refine Hcs.out.mono ?_
        rintro e w1 ⟨rfl, rfl⟩
        clear Hcs
        go_wp2_with fail
        go_ret
        have e : A.rows (n - k) (xs.drop k) s1 = ([], s1) := by
          rcases hq : n - k with _ | m
          · rfl
          · rw [Wk.Alg.rows, Hb.out]; rfl
        refine ⟨_, o1, rfl, ?_⟩
        rw [HP.out, e]
        simpa [hdl] using HIS.out
    · obtain rfl : k = n := by omega
      clear hcs
      go_wp2_with fail
      go_ret
      refine ⟨_, o1, rfl, ?_⟩
      rw [HP.out, Nat.sub_self]
      simpa [Wk.Alg.rows, hdl] using HIS.out
end Go.Proofs.Ytlcgjlganmblpaa
namespace Go.Proofs.Ytlcgjlganmblpaa
open Go.RowKit
namespace Wk
def Alg.pre (A : Alg) (s : St) (r : Rs.Res) : Nat × St := A.grp (A.txt (A.grp (A.oct s r.code 0 255).2 r.n 18446744073709551615).2 r.val).2 r.rows.length 18446744073709551615
def Alg.res (A : Alg) (s : St) (r : Rs.Res) : Rs.Res × St :=
  (⟨(A.oct s r.code 0 255).1, (A.grp (A.oct s r.code 0 255).2 r.n 18446744073709551615).1, (A.txt (A.grp (A.oct s r.code 0 255).2 r.n 18446744073709551615).2 r.val).1, (A.rows (A.pre s r).1 r.rows (A.pre s r).2).1⟩, (A.rows (A.pre s r).1 r.rows (A.pre s r).2).2)
end Wk
theorem sizeRes : (Try.prog.info? 37).map (·.size) = some 4 := by kernel_rfl
set_option maxRecDepth 100000 in
set_option maxHeartbeats 2000000 in
theorem wres_any {T : TypeId} {A : Wk.Alg} {B : Nat} (K : Wkr T A B) (W : World) (g : Nat) (o : Option Nat) (s : Wk.St) (r : Rs.Res) (A0 : Option Addr) (cap : Nat) (h : K.At W g o s) (l0 : s.l.length ≤ 100000000)
    (hx : Lies W A0 (rc r.rows)) (hxb : ∀ b off, A0 = some ⟨b, off, none⟩ → r.rows ≠ [] → b < B) (hf : RFits r) (hv : r.val.size ≤ 100000) (hxl : r.rows.length ≤ 1000000) (hfit : ∀ p ∈ r.rows, p.key.size ≤ 100000 ∧ p.val.size ≤ 100000)
    (I : Nat → Wk.St → Prop) (hI0 : I 0 (A.pre s r).2) (hI1 : ∀ k s1, I k s1 → k < (A.pre s r).1 → s1.bad = false → I (k + 1) (A.row s1 ((r.rows.drop k).headD Wk.zeroR)).2) (hI2 : ∀ k s, I k s → s.l.length ≤ 900000000 ∧ k ≤ 1000000000)
    : Calls Try.prog 58 #[.iface T (.pointer (some ⟨g, 0, none⟩)), .agg #[.int .u8 (r.code : Int), .int .u64 (r.n : Int), .string r.val, .slice A0 r.rows.length cap]] W fun e w' => ∃ Au cu o', e = .returned (.agg (resC (A.res s r).1 Au cu)) ∧ Made K W w' g o o' (A.res s r).2 Au (rc (A.res s r).1.rows) := by
  have HS := Lib.hid (WS.start K h 37 (resC r A0 cap) (resC Rs.zero none 0) (resC Rs.zero none 0))
  have Hx := Lib.hid hx
  have HOB : Hid (∀ b, o = some b → b < B → False) := Lib.hid (fun b e h2 => by have := ((K.lo h).2.2.2 b e).1; omega)
  clear h hx
  have hC : A.res s r = A.res s r := rfl
  conv at hC => rhs; unfold Wk.Alg.res
  have hP : A.pre s r = A.pre s r := rfl
  conv at hP => rhs; unfold Wk.Alg.pre
  have hwl : IntKind.u64.wrap (r.rows.length : Int) = (r.rows.length : Int) := wrap_u64_nat _ (by unfold Nm.top; omega)
  have hlt : r.rows.length < Nm.top := by unfold Nm.top; omega
  have HC := Lib.hid hC
  have HP := Lib.hid hP
  have HI := Lib.hid (And.intro hI0 hI1)
  clear hC hP hI0 hI1
  have mO := K.mO g
  have mG := K.mG g
  have mT := K.mT g
  have eO := K.eO
  have eG := K.eG
  have eT := K.eT
  go_enter Try.func58, Try.ntmps58
  go_upto_region 2 with (fail)
  refine forget (fun W' => WS K W W' g o o s 37 W.heap.size (W.heap.size + 1) (W.heap.size + 1 + 1) (resC r A0 cap) (resC Rs.zero none 0) (resC Rs.zero none 0)) HS.out ?_
  clear HS
  intro W2 S
  have a0 : W2.cell? ⟨W.heap.size, 0, none⟩ = some (.int .u8 (r.code : Int)) := S.la.cell 0
  have HS := Lib.hid S
  clear S
  go_wp2_with fail
  have S := HS.out
  have hc := K.cO _ g o s r.code 0 255 S.at_ (by omega) hf.code (by omega) (by omega)
  have l1 := A.lenO s r.code 0 255
  have t1 := A.ltO s r.code 0 255 hf.code
  obtain ⟨r0, hr⟩ : ∃ r0, r0 = A.oct s r.code 0 255 := ⟨_, rfl⟩
  rw [← hr] at hc l1 t1
  obtain ⟨x0, s1⟩ := r0
  simp only at hc l1 t1
  refine hc.mono ?_
  rintro e w1 ⟨rfl, o1, hA, hK⟩
  have S' := S.call hA hK
  have k0 : w1.cell? ⟨W.heap.size + 1 + 1, 0, none⟩ = some (.int .u8 0) := S'.lc.cell 0
  have z0 := S'.lc.fz 0
  have S2 := S'.put 0 (.int .u8 (x0 : Int)) (vs := (resC ⟨x0, 0, Cm.e0, []⟩ none 0)) rfl
  have HS2 := Lib.hid S2
  have Hr1 := Lib.hid hr
  clear S S' S2 hA hK HS hc hr
  go_upto_region 3 with (fail)
  refine forget (fun W' => WS K W W' g o o1 s1 37 W.heap.size (W.heap.size + 1) (W.heap.size + 1 + 1) (resC r A0 cap) (resC Rs.zero none 0) (resC ⟨x0, 0, Cm.e0, []⟩ none 0)) HS2.out ?_
  clear HS2 k0 z0
  intro W2 S
  clear a0
  have a0 : W2.cell? ⟨W.heap.size, 1, none⟩ = some (.int .u64 (r.n : Int)) := S.la.cell 1
  have HS := Lib.hid S
  clear S
  go_wp2_with fail
  have S := HS.out
  have hc := K.cG _ g o1 s1 r.n 18446744073709551615 S.at_ (by omega) hf.n (by unfold Nm.top; omega)
  rw [show (((18446744073709551615 : Nat) : Int)) = 18446744073709551615 from rfl] at hc
  have l2 := A.lenG s1 r.n 18446744073709551615 hf.n
  have t2 := A.ltG s1 r.n 18446744073709551615 hf.n
  obtain ⟨r0, hr⟩ : ∃ r0, r0 = A.grp s1 r.n 18446744073709551615 := ⟨_, rfl⟩
  rw [← hr] at hc l2 t2
  obtain ⟨x1, s2⟩ := r0
  simp only at hc l2 t2
  refine hc.mono ?_
  rintro e w2 ⟨rfl, o2, hA, hK⟩
  have S' := S.call hA hK
  have k0 : w2.cell? ⟨W.heap.size + 1 + 1, 1, none⟩ = some (.int .u64 0) := S'.lc.cell 1
  have z0 := S'.lc.fz 1
  have S2 := S'.put 1 (.int .u64 (x1 : Int)) (vs := (resC ⟨x0, x1, Cm.e0, []⟩ none 0)) rfl
  have HS2 := Lib.hid S2
  have Hr2 := Lib.hid hr
  clear S S' S2 hA hK HS hc hr
  go_upto_region 4 with (fail)
  refine forget (fun W' => WS K W W' g o o2 s2 37 W.heap.size (W.heap.size + 1) (W.heap.size + 1 + 1) (resC r A0 cap) (resC Rs.zero none 0) (resC ⟨x0, x1, Cm.e0, []⟩ none 0)) HS2.out ?_
  clear HS2 k0 z0
  intro W2 S
  clear a0
  have a0 : W2.cell? ⟨W.heap.size, 2, none⟩ = some (.string r.val) := S.la.cell 2
  have HS := Lib.hid S
  clear S
  go_wp2_with fail
  have S := HS.out
  have hc := K.cT _ g o2 s2 r.val S.at_ (by omega) (by omega)
  have l3 := A.lenT s2 r.val (by unfold Nm.top; omega)
  have t3 : True := trivial
  obtain ⟨r0, hr⟩ : ∃ r0, r0 = A.txt s2 r.val := ⟨_, rfl⟩
  rw [← hr] at hc l3
  obtain ⟨x2, s3⟩ := r0
  simp only at hc l3
  refine hc.mono ?_
  rintro e w3 ⟨rfl, o3, hA, hK⟩
  have S' := S.call hA hK
  have k0 : w3.cell? ⟨W.heap.size + 1 + 1, 2, none⟩ = some (.string ⟨#[]⟩) := S'.lc.cell 2
  have z0 := S'.lc.fz 2
  have S2 := S'.put 2 (.string x2) (vs := (resC ⟨x0, x1, x2, []⟩ none 0)) rfl
  have HS2 := Lib.hid S2
  have Hr3 := Lib.hid hr
  clear S S' S2 hA hK HS hc hr
  go_upto_region 5 with (fail)
  refine forget (fun W' => WS K W W' g o o3 s3 37 W.heap.size (W.heap.size + 1) (W.heap.size + 1 + 1) (resC r A0 cap) (resC Rs.zero none 0) (resC ⟨x0, x1, x2, []⟩ none 0)) HS2.out ?_
  clear HS2 k0 z0
  intro W2 S
  clear a0
  have a0 : W2.cell? ⟨W.heap.size, 3, none⟩ = some (.slice A0 r.rows.length cap) := S.la.cell 3
  have HS := Lib.hid S
  clear S
  go_wp2_with fail
  have S := HS.out
  have hc := K.cG _ g o3 s3 r.rows.length 18446744073709551615 S.at_ (by omega) hlt (by unfold Nm.top; omega)
  rw [show (((18446744073709551615 : Nat) : Int)) = 18446744073709551615 from rfl] at hc
  have l4 := A.lenG s3 r.rows.length 18446744073709551615 hlt
  have t4 := A.ltG s3 r.rows.length 18446744073709551615 hlt
  obtain ⟨r0, hr⟩ : ∃ r0, r0 = A.grp s3 r.rows.length 18446744073709551615 := ⟨_, rfl⟩
  rw [← hr] at hc l4 t4
  obtain ⟨x3, s4⟩ := r0
  simp only at hc l4 t4
  refine hc.mono ?_
  rintro e w4 ⟨rfl, o4, hA, hK⟩
  have S' := S.call hA hK
  have HS2 := Lib.hid S'
  have Hr4 := Lib.hid hr
  clear S S' hA hK HS hc hr
  go_upto_region 6 with (fail)
  refine forget (fun W' => WS K W W' g o o4 s4 37 W.heap.size (W.heap.size + 1) (W.heap.size + 1 + 1) (resC r A0 cap) (resC Rs.zero none 0) (resC ⟨x0, x1, x2, []⟩ none 0)) HS2.out ?_
  clear HS2
  intro W2 S
  clear a0
  rw [← Hr1.out] at HC HP
  simp only at HC HP
  rw [← Hr2.out] at HC HP
  simp only at HC HP
  rw [← Hr3.out] at HC HP
  simp only at HC HP
  rw [← Hr4.out] at HP
  rw [HP.out] at HC HI
  simp only at HC HI
  have a0 : W2.cell? ⟨W.heap.size, 3, none⟩ = some (.slice A0 r.rows.length cap) := S.la.cell 3
  have hx2 : Lies W2 A0 (rc r.rows) := by
    by_cases hxe : r.rows = []
    · rw [hxe]; exact .inl rfl
    rcases Hx.out with hx | ⟨b, off, rfl, hb, hcs⟩
    · exact .inl hx
    · have h3 := hxb b off rfl hxe
      have hKK := S.kept
      obtain ⟨h1, _, _, h4⟩ := K.lo S.at_
      have hno : o ≠ some b := fun e => HOB.out b e h3
      exact .inr ⟨b, off, rfl, Nat.lt_of_lt_of_le hb hKK.size, fun i u hu => (World.cell?_of_block (a := ⟨b, off + i, none⟩) (hKK.block b hb (by omega) hno)).trans (hcs i u hu)⟩
  have hcw := wrows_any K W2 g o4 s4 A0 cap r.rows x3 S.at_ t4 hxl hx2 (fun b off e hxe => by have := hxb b off e hxe; obtain ⟨h1, _, _, h4⟩ := K.lo S.at_; exact ⟨by omega, fun e => by have := (h4 b e).1; omega⟩)
    (fun p hp => ⟨hf.rows p hp, by have := (hfit p hp).1; omega, by have := (hfit p hp).2; omega⟩) I HI.out.1 HI.out.2 hI2
  have Hcw := Lib.hid hcw
  have HS := Lib.hid S
  clear hx2 hcw S
  go_wp2_with fail
  refine Hcw.out.mono ?_
  rintro e w5 ⟨v, o5, rfl, hIS⟩
  have hMade := hIS.made (.inr rfl) (fun h0 => by rw [List.eq_nil_of_length_eq_zero h0]; rfl)
  generalize A.rows x3 r.rows s4 = q at hMade HC
  obtain ⟨ys, s5⟩ := q
  obtain ⟨Au, cu, rfl, hM⟩ := hMade
  obtain ⟨hA, hK, hL, hsep⟩ := hM
  simp only at hA hL HC
  have S' := HS.out.call hA hK
  have hlo : W.heap.size + 1 + 1 < W2.heap.size := HS.out.lc.lt
  have k0 : w5.cell? ⟨W.heap.size + 1 + 1, 3, none⟩ = some (.slice none 0 0) := S'.lc.cell 3
  have z0 := S'.lc.fz 3
  have S2 := S'.put 3 (.slice Au ys.length cu) (vs := resC ⟨x0, x1, x2, ys⟩ Au cu) rfl
  have HS2 := Lib.hid S2
  have HL := Lib.hid (And.intro hL hsep)
  clear S' S2 hA hK HS Hcw hL hsep hIS
  go_upto_region 7 with (fail)
  refine forget (fun W' => WS K W W' g o o5 s5 37 W.heap.size (W.heap.size + 1) (W.heap.size + 1 + 1) (resC r A0 cap) (resC Rs.zero none 0) (resC ⟨x0, x1, x2, ys⟩ Au cu) ∧ Lies W' Au (rc ys)) ⟨HS2.out, HL.out.1.set (fun b off e => by have := (HL.out.2 b off e).1; omega)⟩ ?_
  clear HS2 k0 z0 a0
  rintro W3 ⟨S, hL3⟩
  have HL3 := Lib.hid hL3
  have c0 : W3.cell? ⟨W.heap.size + 1 + 1, 0, none⟩ = some (.int .u8 (x0 : Int)) := S.lc.cell 0
  have c1 : W3.cell? ⟨W.heap.size + 1 + 1, 1, none⟩ = some (.int .u64 (x1 : Int)) := S.lc.cell 1
  have c2 : W3.cell? ⟨W.heap.size + 1 + 1, 2, none⟩ = some (.string x2) := S.lc.cell 2
  have c3 : W3.cell? ⟨W.heap.size + 1 + 1, 3, none⟩ = some (.slice Au ys.length cu) := S.lc.cell 3
  have d0 : W3.cell? ⟨W.heap.size + 1, 0, none⟩ = some (.int .u8 0) := S.lb.cell 0
  have d1 : W3.cell? ⟨W.heap.size + 1, 1, none⟩ = some (.int .u64 0) := S.lb.cell 1
  have d2 : W3.cell? ⟨W.heap.size + 1, 2, none⟩ = some (.string ⟨#[]⟩) := S.lb.cell 2
  have d3 : W3.cell? ⟨W.heap.size + 1, 3, none⟩ = some (.slice none 0 0) := S.lb.cell 3
  have y0 := S.lb.fz 0
  have y1 := S.lb.fz 1
  have y2 := S.lb.fz 2
  have y3 := S.lb.fz 3
  have HS := Lib.hid ((((S.res 0 (.int .u8 (x0 : Int)) rfl).res 1 (.int .u64 (x1 : Int)) rfl).res 2 (.string x2) rfl).res 3 (.slice Au ys.length cu) rfl)
  clear S hL3
  go_wp2_with fail
  have S := HS.out
  refine bodyPost_ret (results_cell_row (P := Try.prog) (fn := Try.f58) rfl _ _ _ 37 _ (0, 0) _ rfl S.lb.row Try.underlying37 rfl sizeRes) rfl ⟨Au, cu, o5, ?_, ?_⟩
  · rw [HC.out]; rfl
  · rw [HC.out]
    exact ⟨S.at_, S.kept, (((HL3.out.set (fun b off e => by have := (HL.out.2 b off e).1; omega)).set (fun b off e => by have := (HL.out.2 b off e).1; omega)).set (fun b off e => by have := (HL.out.2 b off e).1; omega)).set (fun b off e => by have := (HL.out.2 b off e).1; omega), fun b off e => ⟨by have := (HL.out.2 b off e).1; omega, (HL.out.2 b off e).2⟩⟩
end Go.Proofs.Ytlcgjlganmblpaa
