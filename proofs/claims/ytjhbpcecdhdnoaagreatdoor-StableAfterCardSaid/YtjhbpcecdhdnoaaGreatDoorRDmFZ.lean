/-
  A file's methods walked: modulo, choice, bounds, sync.
  A file's crash walked.
  A file's add walked.
-/
import Derived.Test.YtjhbpcecdhdnoaaGreatDoorRWwCZ
import Derived.Test.YtjhbpcecdhdnoaaGreatDoorRBldZ
import Derived.Deep.QuietTactic
import Derived.StillTailTactics
import Derived.Deep.RegionLaw
set_option linter.unusedSimpArgs false
set_option linter.unusedVariables false
namespace Go.Proofs.YtjhbpcecdhdnoaaGreatDoor
open Go.RowKit
set_option maxRecDepth 100000 in
theorem modulo_any (W : World) (z : Int) (m : Nat) (hz : -9223372036854775808 ≤ z ∧ z ≤ 9223372036854775807) (h0 : m ≠ 0) (hm : m ≤ 100000000) :
    Calls Tryz.prog 136 #[.int .i64 z, .int .i64 (m : Int)] W fun e w' => e = .returned (.int .i64 (z % (m : Int))) ∧ W = w' := by
  have hem := emod_tmod z m h0
  have hbd := tmod_bounds z m h0
  obtain ⟨q, hq⟩ : ∃ q, q = z.tmod (m : Int) := ⟨_, rfl⟩
  have hqr : z.tmod (m : Int) = q := hq.symm
  have hm0 : ((m : Int) == 0) = false := by simp; omega
  have hm1 : ¬ ((m : Int) = 0) := by omega
  have hm2 : ¬ (m = 0) := h0
  rw [hqr] at hem hbd
  by_cases hneg : q < 0
  · have q1 : decide (q < 0) = true := decide_eq_true hneg
    rw [if_pos hneg] at hem
    have E : Hid (z % (m : Int) = q + m) := Lib.hid hem
    have b1 : -9223372036854775808 ≤ q + m := by omega
    have b2 : q + m ≤ 9223372036854775807 := by omega
    clear hem hq
    go_enter Tryz.func136, Tryz.ntmps136
    go_wp2_with fail
    go_ret
    exact ⟨by rw [E.out]; rfl, rfl⟩
  · have q1 : decide (q < 0) = false := decide_eq_false hneg
    rw [if_neg hneg] at hem
    have E : Hid (z % (m : Int) = q) := Lib.hid hem
    clear hem hq
    go_enter Tryz.func136, Tryz.ntmps136
    go_wp2_with fail
    go_ret
    exact ⟨by rw [E.out]; rfl, rfl⟩
set_option maxRecDepth 100000 in
theorem choice_any (W : World) (A : Option Addr) (cap : Nat) (ns : List Int) (k : Nat) (hl : Lies W A (ic ns)) (hn : ns.length ≤ 9223372036854775807) (hk : k ≤ 100000000) :
    Calls Tryz.prog 85 #[.slice A ns.length cap, .int .i64 (k : Int)] W fun e w' => e = .returned (.int .i64 (ns.getD k 0)) ∧ W = w' := by
  by_cases hlt : k < ns.length
  · obtain ⟨b, off, rfl, hb, hc⟩ := ic_cell hl k hlt
    have q1 : decide (k < ns.length) = true := decide_eq_true hlt
    have q2 : decide ((k : Int) < (ns.length : Int)) = true := by simp; omega
    have q3 : (k : Int) < (ns.length : Int) := by omega
    have q4 : (0 : Int) ≤ (k : Int) := by omega
    clear hl
    go_enter Tryz.func85, Tryz.ntmps85
    go_wp2_with fail
    go_ret
    exact ⟨by rw [List.getD_eq_getElem?_getD, List.getElem?_eq_getElem hlt]; rfl, rfl⟩
  · have q1 : decide (k < ns.length) = false := decide_eq_false hlt
    have q2 : decide ((k : Int) < (ns.length : Int)) = false := by simp; omega
    have E : Hid (ns.getD k 0 = 0) := Lib.hid (by rw [List.getD_eq_getElem?_getD, List.getElem?_eq_none (by omega)]; rfl)
    clear hl
    go_enter Tryz.func85, Tryz.ntmps85
    go_wp2_with fail
    go_ret
    exact ⟨by rw [E.out]; rfl, rfl⟩
def Hm.sync (h : Hm) : Hm := ⟨{ h.f with syn := h.f.recs.length }, h.b, h.ca, h.cc, none, 0⟩
theorem FAt.c {W : World} {h : Hm} (hf : FAt W h) : W.cell? ⟨h.b, 0, none⟩ = some (.slice h.ca (cb h.f).size h.cc) ∧ W.cell? ⟨h.b, 1, none⟩ = some (.int .i64 (h.f.syn : Int)) ∧ W.cell? ⟨h.b, 2, none⟩ = some (.slice h.ua (Dk.starts h.f).length h.uc) ∧ W.cell? ⟨h.b, 3, none⟩ = some (.bool h.f.cut) :=
  ⟨cell_of_row W h.b 0 _ _ _ hf.row, cell_of_row W h.b 1 _ _ _ hf.row, cell_of_row W h.b 2 _ _ _ hf.row, cell_of_row W h.b 3 _ _ _ hf.row⟩
theorem FAt.fz {W : World} {h : Hm} (hf : FAt W h) (i : Nat) : W.frozen? ⟨h.b, i, none⟩ = false := frozen_of_row W h.b i _ _ hf.row
theorem own_setb {w : World} {e : TypeId} {size : Nat} {v : Value} {n : Nat} {l : List Value} (h : w.ownsRow 0 e size v n l) {p i : Nat} (hp : v.ownBlock ≠ some p) (u : Value) : (w.setCell ⟨p, i, none⟩ u).ownsRow 0 e size v n l :=
  own_kept h fun k hk => Below.heap_setCell _ _ _ _ (fun he => hp (by rw [hk]; exact congrArg some he))
theorem sync_end {W : World} {h : Hm} (hf : FAt W h) (n : Int) (hn : n = (h.f.recs.length : Int)) : FAt ((W.setCell ⟨h.b, 1, none⟩ (.int .i64 n)).setCell ⟨h.b, 2, none⟩ (.slice none 0 0)) h.sync ∧ Ko (atB h.b) W ((W.setCell ⟨h.b, 1, none⟩ (.int .i64 n)).setCell ⟨h.b, 2, none⟩ (.slice none 0 0)) := by
  subst hn
  have hs : Dk.starts h.sync.f = [] := Dk.starts_sync h.f
  refine ⟨⟨?_, own_setb (own_setb hf.cont hf.cont_ne _) hf.cont_ne _, ?_⟩, ((Ko.refl _ _).set (show atB h.b h.b from rfl) 1 _).set (show atB h.b h.b from rfl) 2 _⟩
  · refine (heap_setCell_same _ h.b 2 _ _ _ (heap_setCell_same W h.b 1 _ _ _ hf.row)).trans ?_
    show _ = some (Obj.cells #[.slice h.ca (cb h.f).size h.cc, .int .i64 (h.f.recs.length : Int), .slice none (Dk.starts h.sync.f).length 0, .bool h.f.cut] _ _)
    rw [hs]; rfl
  · show World.ownsRow _ _ _ _ (Value.slice none (Dk.starts h.sync.f).length 0) (Dk.starts h.sync.f).length (ic (Dk.starts h.sync.f))
    rw [hs]; exact ⟨rfl, .inl ⟨rfl, rfl⟩⟩
set_option maxRecDepth 100000 in
theorem fsync_any (W : World) (h : Hm) (hf : FAt W h) (hs : h.f.syn ≤ h.f.recs.length) (hl : h.f.recs.length ≤ 100000000) :
    Calls Tryz.prog 138 #[.pointer (some ⟨h.b, 0, none⟩)] W fun e w' => e = .returned (.tuple #[]) ∧ FAt w' h.sync ∧ Ko (atB h.b) W w' := by
  obtain ⟨c0, c1, c2, c3⟩ := hf.c
  have f1 := hf.fz 1
  have f2 := hf.fz 2
  obtain ⟨n, hn⟩ : ∃ n, n = (Dk.starts h.f).length := ⟨_, rfl⟩
  have hnl : n + h.f.syn = h.f.recs.length := by rw [hn, Dk.starts_length]; omega
  rw [← hn] at c2
  obtain ⟨s, hsy⟩ : ∃ s, s = h.f.syn := ⟨_, rfl⟩
  rw [← hsy] at c1 hnl
  have HE : Hid (FAt ((W.setCell ⟨h.b, 1, none⟩ (.int .i64 ((s : Int) + (n : Int)))).setCell ⟨h.b, 2, none⟩ (.slice none 0 0)) h.sync ∧ Ko (atB h.b) W ((W.setCell ⟨h.b, 1, none⟩ (.int .i64 ((s : Int) + (n : Int)))).setCell ⟨h.b, 2, none⟩ (.slice none 0 0))) := Lib.hid (sync_end hf _ (by omega))
  have b1 : (s : Int) + (n : Int) ≤ 9223372036854775807 := by omega
  have b2 : s + n ≤ 100000000 := by omega
  clear hf hn hsy hs hl hnl c3 c0
  go_enter Tryz.func138, Tryz.ntmps138
  go_wp2_with fail
  go_region
  go_wp2_with fail
  go_end0
  exact ⟨rfl, HE.out.1.kept (fun _ _ => rfl), HE.out.2.drew⟩
theorem FAt.at_ {W : World} {h : Hm} (hf : FAt W h) (k : Nat) (hk : k < (Dk.starts h.f).length) : ∃ g, h.ua = some ⟨g, 0, none⟩ ∧ ∀ j, j < (Dk.starts h.f).length → W.cell? ⟨g, j, none⟩ = some (.int .i64 (Dk.sz (h.f.recs.take (h.f.syn + j)) : Int)) := by
  rcases own_cells hf.unsy with ⟨_, h2, _⟩ | ⟨g, hg, hc⟩
  · omega
  · refine ⟨g, hg, fun j hj => ?_⟩
    have := hc j (.int .i64 (Dk.sz (h.f.recs.take (h.f.syn + j)) : Int)) (by
      rw [ic, List.getElem?_map, Dk.starts_at _ _ (by rw [Dk.starts_length] at hj; exact hj)]; rfl)
    have e : (⟨g, 0, none⟩ : Addr).add j = ⟨g, j, none⟩ := by unfold Addr.add; split <;> simp_all
    rw [e] at this; exact this
def endOf (f : Dk.Fl) (k : Nat) : Nat := if k + 1 < (Dk.starts f).length then Dk.sz (f.recs.take (f.syn + (k + 1))) else (cb f).size
set_option maxRecDepth 100000 in
theorem bounds_any (W : World) (h : Hm) (hf : FAt W h) (k : Nat) (hk : k < (Dk.starts h.f).length) (hl : h.f.recs.length ≤ 100000000) :
    Calls Tryz.prog 135 #[.pointer (some ⟨h.b, 0, none⟩), .int .i64 (k : Int)] W fun e w' => e = .returned (.tuple #[.int .i64 (Dk.sz (h.f.recs.take (h.f.syn + k)) : Int), .int .i64 (endOf h.f k : Int)]) ∧ ∃ m, w' = W.drewN m := by
  obtain ⟨c0, c1, c2, c3⟩ := hf.c
  obtain ⟨g, hg, hc⟩ := hf.at_ k hk
  have hnl := Dk.starts_length h.f
  rw [hg] at c2
  have a1 := hc k hk
  obtain ⟨n, hn⟩ : ∃ n, n = (Dk.starts h.f).length := ⟨_, rfl⟩
  have hn9 : n ≤ 100000000 := by omega
  have HX : Hid (endOf h.f k = if k + 1 < n then Dk.sz (h.f.recs.take (h.f.syn + (k + 1))) else (cb h.f).size) := Lib.hid (by rw [hn]; rfl)
  rw [← hn] at c2 hk hc
  obtain ⟨X, hX⟩ : ∃ X, X = endOf h.f k := ⟨_, rfl⟩
  obtain ⟨a, ha⟩ : ∃ a, a = Dk.sz (h.f.recs.take (h.f.syn + k)) := ⟨_, rfl⟩
  rw [← hX] at HX ⊢
  rw [← ha] at a1 ⊢
  have q3 : (k : Int) < (n : Int) := by omega
  have q4 : (0 : Int) ≤ (k : Int) := by omega
  by_cases hlt : k + 1 < n
  · have a2 := hc (k + 1) hlt
    obtain ⟨b, hb⟩ : ∃ b, b = Dk.sz (h.f.recs.take (h.f.syn + (k + 1))) := ⟨_, rfl⟩
    rw [← hb] at a2
    have q1 : decide ((k : Int) + 1 < (n : Int)) = true := by simp; omega
    have q2 : decide (k + 1 < n) = true := by simp; omega
    have q5 : (k : Int) + 1 < (n : Int) := by omega
    have q6 : (0 : Int) ≤ (k : Int) + 1 := by omega
    have E : Hid (X = b) := Lib.hid (by rw [HX.out, if_pos hlt, hb])
    have t1 : ((k : Int) + 1).toNat = k + 1 := by omega
    clear hf hn hX ha hb HX hc hg hl hnl c0 c1 c3
    go_enter Tryz.func135, Tryz.ntmps135
    go_wp2_with fail
    go_region
    all_goals go_wp2_with fail
    all_goals go_ret2
    all_goals exact ⟨by rw [E.out]; rfl, ⟨1, rfl⟩⟩
  · have q1 : decide ((k : Int) + 1 < (n : Int)) = false := by simp; omega
    have q2 : decide (k + 1 < n) = false := by simp; omega
    obtain ⟨z, hz⟩ : ∃ z, z = (cb h.f).size := ⟨_, rfl⟩
    rw [← hz] at c0
    have E : Hid (X = z) := Lib.hid (by rw [HX.out, if_neg hlt, hz])
    clear hf hn hX ha hz HX hc hg hl hnl c1 c3
    go_enter Tryz.func135, Tryz.ntmps135
    go_wp2_with fail
    go_region
    all_goals go_wp2_with fail
    all_goals go_ret2
    all_goals exact ⟨by rw [E.out]; rfl, ⟨1, rfl⟩⟩
end Go.Proofs.YtjhbpcecdhdnoaaGreatDoor
namespace Go.Proofs.YtjhbpcecdhdnoaaGreatDoor
open Go.RowKit
namespace Dk
def crashF (f : Fl) (keep torn : Int) : Fl :=
  let n := min (f.syn + keep.toNat) f.recs.length
  ⟨f.name, f.recs.take n, n, f.cut || decide (n < f.recs.length), if n < f.recs.length then (f.recs.getD n e0).extract 0 (torn % ((f.recs.getD n e0).size : Int)).toNat else f.torn⟩
theorem crashF_leave {f : Fl} (ho : Okf f) (hu : f.syn < f.recs.length) (ks ts : List Int) (k : Nat) : crashF f (ks.getD k 0) (ts.getD k 0) = leave f ks ts k := by
  have hc : f.cut = false := by
    cases h : f.cut
    · rfl
    · have := ho.cut h; omega
  unfold crashF leave kept
  simp only
  congr 1
  by_cases h1 : min (f.syn + (ks.getD k 0).toNat) f.recs.length < f.recs.length
  · rw [if_pos h1]
    by_cases h2 : k < ts.length
    · rw [if_pos ⟨h1, h2⟩]
    · rw [if_neg (fun h => h2 h.2), ho.torn hc, List.getD_eq_getElem?_getD (l := ts), List.getElem?_eq_none (by omega)]
      have e0e : ∀ r : ByteArray, r.extract 0 0 = e0 := fun r => by
        apply ByteArray.ext
        simp [e0, ByteArray.data_extract]
      simp [e0e]
      rfl
  · rw [if_neg h1, if_neg (fun h => h1 h.1)]
theorem sz_succ (l : List ByteArray) (n : Nat) (h : n < l.length) : sz (l.take (n + 1)) = sz (l.take n) + (l.getD n e0).size := by
  rw [List.take_succ_eq_append_getElem h, sz_append, List.getD_eq_getElem?_getD, List.getElem?_eq_getElem h]
  simp [sz]
end Dk
def cutF (f : Dk.Fl) (n : Nat) (t : ByteArray) : Dk.Fl := ⟨f.name, f.recs.take n, f.syn, true, t⟩
theorem endOf_eq {f : Dk.Fl} (ht : f.torn = Dk.e0) (k : Nat) (hk : k < (Dk.starts f).length) : endOf f k = Dk.sz (f.recs.take (f.syn + k)) + (f.recs.getD (f.syn + k) Dk.e0).size := by
  have hl := Dk.starts_length f
  rw [← Dk.sz_succ f.recs (f.syn + k) (by omega)]
  unfold endOf
  split
  · rw [Nat.add_assoc]
  · rw [cb_size, ht, show f.syn + k + 1 = f.recs.length by omega, List.take_length]; rfl
theorem cutF_starts (f : Dk.Fl) (k : Nat) (hk : k < (Dk.starts f).length) (t : ByteArray) : Dk.starts (cutF f (f.syn + k) t) = (Dk.starts f).take k := by
  have hl := Dk.starts_length f
  have h1 : (Dk.starts (cutF f (f.syn + k) t)).length = k := by
    rw [Dk.starts_length]
    show (f.recs.take (f.syn + k)).length - f.syn = k
    rw [List.length_take]; omega
  apply List.ext_getElem?
  intro i
  by_cases hi : i < k
  · rw [List.getElem?_take_of_lt hi, Dk.starts_at f i (by omega), Dk.starts_at (cutF f (f.syn + k) t) i (by rw [← Dk.starts_length, h1]; exact hi)]
    show some ((Dk.sz ((f.recs.take (f.syn + k)).take (f.syn + i)) : Nat) : Int) = _
    rw [List.take_take, show min (f.syn + i) (f.syn + k) = f.syn + i by omega]
  · rw [List.getElem?_eq_none (by omega), List.getElem?_eq_none (by rw [List.length_take]; omega)]
theorem cutF_cb {f : Dk.Fl} (ht : f.torn = Dk.e0) (n : Nat) (hn : n < f.recs.length) (m : Nat) (hm : m ≤ (f.recs.getD n Dk.e0).size) : cb (cutF f n ((f.recs.getD n Dk.e0).extract 0 m)) = (cb f).extract 0 (Dk.sz (f.recs.take n) + m) := by
  have h1 : (cb f).data.toList = Dk.cat (f.recs.take n) ++ ((f.recs.getD n Dk.e0).data.toList ++ Dk.cat (f.recs.drop (n + 1))) := by
    show (Dk.bytes f).toArray.toList = _
    rw [List.toList_toArray, Dk.bytes, ht]
    conv => lhs; rw [Dk.cat_take_drop f.recs n]
    have hd : Dk.cat (f.recs.drop n) = (f.recs.getD n Dk.e0).data.toList ++ Dk.cat (f.recs.drop (n + 1)) := by
      rw [List.drop_eq_getElem_cons hn, List.getD_eq_getElem?_getD, List.getElem?_eq_getElem hn]; rfl
    rw [hd]
    exact List.append_nil _
  apply ByteArray.ext; apply Array.toList_inj.1
  rw [ByteArray.data_extract, Array.toList_extract, List.extract_eq_take_drop, List.drop_zero, h1]
  show (Dk.bytes _).toArray.toList = _
  rw [List.toList_toArray]
  show Dk.cat (f.recs.take n) ++ ((f.recs.getD n Dk.e0).extract 0 m).data.toList = _
  rw [ByteArray.data_extract, Array.toList_extract, List.extract_eq_take_drop, List.drop_zero, Nat.sub_zero, Nat.sub_zero, ← Dk.cat_length, List.take_length_add_append, List.take_append_of_le_length (by rw [← Lib.size_eq]; exact hm)]
theorem strCells_take (s : ByteArray) (n : Nat) : Lib.strCells (s.extract 0 n) = (Lib.strCells s).take n := by
  unfold Lib.strCells
  rw [ByteArray.data_extract, Array.toList_extract, List.extract_eq_take_drop, List.drop_zero, Nat.sub_zero, List.map_take]
theorem FAt.ko {W W' : World} {h : Hm} {S : Nat → Prop} (hf : FAt W h) (hk : Ko S W W') (hs : ∀ k, h.Blk k → ¬ S k) : FAt W' h := hf.kept fun k h2 => hk.block k (hf.lt h2) (hs k h2)
theorem own_blk (A : Option Addr) (n m c d : Nat) : (Value.slice A n c).ownBlock = (Value.slice A m d).ownBlock := by cases A <;> rfl
theorem cut_end {W w1 : World} {h : Hm} (hf : FAt W h) (hb : Below W.heap.size W w1) (K m : Nat) (t : ByteArray) (hK : K < (Dk.starts h.f).length) {A' : Option Addr} {c' : Nat}
    (ho : w1.ownsRow W.heap.size 5 1 (.slice A' m c') m (Lib.strCells (cb (cutF h.f (h.f.syn + K) t)))) (hm : m = (cb (cutF h.f (h.f.syn + K) t)).size) :
    FAt (((w1.setCell ⟨h.b, 0, none⟩ (.slice A' m c')).setCell ⟨h.b, 2, none⟩ (.slice h.ua K h.uc)).setCell ⟨h.b, 3, none⟩ (.bool true)) ⟨cutF h.f (h.f.syn + K) t, h.b, A', c', h.ua, h.uc⟩ ∧
    Ko (atB h.b) W (((w1.setCell ⟨h.b, 0, none⟩ (.slice A' m c')).setCell ⟨h.b, 2, none⟩ (.slice h.ua K h.uc)).setCell ⟨h.b, 3, none⟩ (.bool true)) ∧
    (∀ k, (Value.slice A' m c').ownBlock = some k → W.heap.size ≤ k) := by
  have hbl := hf.lt (.inl rfl)
  have hr1 : w1.heap[h.b]? = some (.cells (fileC h) 143 (0, 0)) := (hb.block _ hbl).trans hf.row
  have hnew : ∀ k, (Value.slice A' m c').ownBlock = some k → W.heap.size ≤ k := fun k hk => (own_lt ho hk).2
  have hne : (Value.slice A' m c').ownBlock ≠ some h.b := fun hk => by have := hnew _ hk; omega
  have hst := cutF_starts h.f K hK t
  have hsl : (Dk.starts (cutF h.f (h.f.syn + K) t)).length = K := by rw [hst, List.length_take]; omega
  have hu1 : w1.ownsRow 0 3 1 (.slice h.ua (Dk.starts h.f).length h.uc) (Dk.starts h.f).length (ic (Dk.starts h.f)) := own_kept hf.unsy fun k hk => hb.block k (own_lt hf.unsy hk).1
  have hu2 : w1.ownsRow 0 3 1 (.slice h.ua K h.uc) K (ic ((Dk.starts h.f).take K)) := by
    refine ⟨by rw [ic_length, List.length_take]; omega, ?_⟩
    rcases hu1.2 with ⟨_, h2⟩ | ⟨g, cap, cur, hv, h1, h2, h3, h4, h5, h6⟩
    · omega
    · injection hv with a b c
      rw [a, c]
      refine .inr ⟨g, cap, cur, rfl, h1, h2, by omega, h4, h5, ?_⟩
      rw [ic, List.map_take, ← show ic (Dk.starts h.f) = List.map _ (Dk.starts h.f) from rfl, ← h6, List.take_take]
      congr 1; omega
  refine ⟨⟨?_, ?_, ?_⟩, ((Ko.bel (S := atB h.b) hb).set (show atB h.b h.b from rfl) 0 _).set (show atB h.b h.b from rfl) 2 _ |>.set (show atB h.b h.b from rfl) 3 _, hnew⟩
  · refine (heap_setCell_same _ h.b 3 _ _ _ (heap_setCell_same _ h.b 2 _ _ _ (heap_setCell_same w1 h.b 0 _ _ _ hr1))).trans ?_
    show some (Obj.cells #[.slice A' m c', .int .i64 (h.f.syn : Int), .slice h.ua K h.uc, .bool true] _ _) = some (Obj.cells #[.slice A' (cb (cutF h.f (h.f.syn + K) t)).size c', .int .i64 (h.f.syn : Int), .slice h.ua (Dk.starts (cutF h.f (h.f.syn + K) t)).length h.uc, .bool true] _ _)
    rw [hsl, hm]
  · subst hm
    exact own_setb (own_setb (own_setb (own_zero ho) hne _) hne _) hne _
  · show World.ownsRow _ _ _ _ (Value.slice h.ua (Dk.starts (cutF h.f (h.f.syn + K) t)).length h.uc) (Dk.starts (cutF h.f (h.f.syn + K) t)).length (ic (Dk.starts (cutF h.f (h.f.syn + K) t)))
    rw [hsl, hst]
    have hne2 : (Value.slice h.ua K h.uc).ownBlock ≠ some h.b := by rw [own_blk h.ua K (Dk.starts h.f).length h.uc h.uc]; exact hf.unsy_ne
    exact own_setb (own_setb (own_setb hu2 hne2 _) hne2 _) hne2 _
set_option maxRecDepth 100000 in
set_option maxHeartbeats 2000000 in
theorem fcrash_any (W : World) (h : Hm) (hf : FAt W h) (ho : Dk.Okf h.f) (hu : h.f.syn < h.f.recs.length) (hl : Dk.flLoad h.f ≤ 100000000) (kz tz : Int) (hk : -9223372036854775808 ≤ kz ∧ kz ≤ 9223372036854775807) (ht : -9223372036854775808 ≤ tz ∧ tz ≤ 9223372036854775807) :
    Calls Tryz.prog 84 #[.pointer (some ⟨h.b, 0, none⟩), .int .i64 kz, .int .i64 tz] W fun e w' => e = .returned (.tuple #[]) ∧ ∃ h', FAt w' h' ∧ h'.b = h.b ∧ h'.f = Dk.crashF h.f kz tz ∧ Ko h.Blk W w' ∧ ∀ k, h'.Blk k → h.Blk k ∨ W.heap.size ≤ k := by
  obtain ⟨c0, c1, c2, c3⟩ := hf.c
  have hnl := Dk.starts_length h.f
  have hld : 1 + h.f.name.size + h.f.recs.length + Dk.sz h.f.recs + h.f.torn.size ≤ 100000000 := hl
  obtain ⟨K, hK⟩ : ∃ K, K = kz.toNat := ⟨_, rfl⟩
  have hmax : max kz 0 = (K : Int) := by omega
  obtain ⟨n, hn⟩ : ∃ n, n = (Dk.starts h.f).length := ⟨_, rfl⟩
  have hcut : h.f.cut = false := by
    cases hc : h.f.cut
    · rfl
    · have := ho.cut hc; omega
  have htn := ho.torn hcut
  by_cases hlt : K < n
  case neg =>
    have hF : Dk.crashF h.f kz tz = h.sync.f := by
      unfold Dk.crashF
      rw [← hK]
      have e : min (h.f.syn + K) h.f.recs.length = h.f.recs.length := by omega
      simp only [e, Nat.lt_irrefl, if_false, decide_false, Bool.or_false, List.take_length]
      rfl
    have HS := Lib.hid (fsync_any W h hf (by omega) (by omega))
    have HF := Lib.hid hF
    have q1 : decide ((K : Int) < (n : Int)) = false := by simp; omega
    have q2 : decide (K < n) = false := by simp; omega
    have q3 : ¬ (K : Int) < (n : Int) := by omega
    rw [← hn] at c2
    clear hf ho hF hn hlt hK c0 c1 c3 hcut htn hl hld hnl hu
    go_enter Tryz.func84, Tryz.ntmps84
    go_wp2_with fail
    refine (HS.out).mono ?_
    rintro e w1 ⟨rfl, h1, h2⟩
    go_wp2_with fail
    go_end0
    exact ⟨rfl, h.sync, h1, rfl, HF.out.symm, h2.mono (fun k _ hk => .inl hk), fun k hk => by
      rcases hk with hk | hk | hk
      · exact .inl (.inl hk)
      · exact .inl (.inr (.inl hk))
      · cases hk⟩
  case pos =>
    obtain ⟨r, hr⟩ : ∃ r, r = h.f.recs.getD (h.f.syn + K) Dk.e0 := ⟨_, rfl⟩
    have hrl : h.f.syn + K < h.f.recs.length := by omega
    have hr0 : r.size ≠ 0 := by
      rw [hr, List.getD_eq_getElem?_getD, List.getElem?_eq_getElem hrl]
      exact ho.recs _ (List.getElem_mem hrl)
    have hE := endOf_eq htn K (by omega)
    rw [← hr] at hE
    have hsz := Dk.sz_take_get h.f.recs (h.f.syn + K) hrl
    rw [← hr] at hsz
    obtain ⟨q, hq⟩ : ∃ q : Nat, tz % (r.size : Int) = (q : Int) := ⟨(tz % (r.size : Int)).toNat, by have := Int.emod_nonneg tz (show (r.size : Int) ≠ 0 by omega); omega⟩
    have hqr : q < r.size := by have := Int.emod_lt_of_pos tz (show (0 : Int) < (r.size : Int) by omega); omega
    have hF : Dk.crashF h.f kz tz = { cutF h.f (h.f.syn + K) (r.extract 0 q) with syn := h.f.syn + K } := by
      unfold Dk.crashF
      rw [← hK]
      have e : min (h.f.syn + K) h.f.recs.length = h.f.syn + K := by omega
      simp only [e, if_pos hrl, decide_eq_true hrl, Bool.or_true]
      rw [← hr, hq]; rfl
    have hcbz := cutF_cb htn (h.f.syn + K) hrl q (by rw [← hr]; omega)
    rw [← hr] at hcbz
    obtain ⟨t, htt⟩ : ∃ t, t = r.extract 0 q := ⟨_, rfl⟩
    rw [← htt] at hF hcbz
    have hsy : (cutF h.f (h.f.syn + K) t).recs.length = h.f.syn + K := by
      show (h.f.recs.take (h.f.syn + K)).length = _
      rw [List.length_take]; omega
    have HFS : Hid (∀ (A' : Option Addr) (c' : Nat), (Hm.sync ⟨cutF h.f (h.f.syn + K) t, h.b, A', c', h.ua, h.uc⟩).f = Dk.crashF h.f kz tz) := Lib.hid fun A' c' => by
      rw [hF]
      show ({ cutF h.f (h.f.syn + K) t with syn := (cutF h.f (h.f.syn + K) t).recs.length } : Dk.Fl) = _
      rw [hsy]
    have hB := bounds_any W h hf K (by omega) (by omega)
    obtain ⟨a, ha⟩ : ∃ a, a = Dk.sz (h.f.recs.take (h.f.syn + K)) := ⟨_, rfl⟩
    obtain ⟨b, hb⟩ : ∃ b, b = endOf h.f K := ⟨_, rfl⟩
    rw [← ha, ← hb] at hB
    rw [← ha, ← hb] at hE
    rw [← ha] at hsz hcbz
    have hzz := cb_size h.f
    obtain ⟨g, hg⟩ : ∃ g, h.ca = some ⟨g, 0, none⟩ := by
      rcases own_cells hf.cont with ⟨_, h2, _⟩ | ⟨g, hg, _⟩
      · omega
      · exact ⟨g, hg⟩
    obtain ⟨g2, hg2, _⟩ := hf.at_ K (by omega)
    have hr1 := own_room hf.cont
    have hr2 := own_room hf.unsy
    have hcc : (cb (cutF h.f (h.f.syn + K) t)).size = a + q := by
      rw [hcbz, ByteArray.size_extract, hzz]; omega
    have HB := Lib.hid hB
    have HM := Lib.hid (fun W => modulo_any W tz r.size ht hr0 (by omega))
    rw [hq] at HM
    obtain ⟨rz, hrz⟩ : ∃ rz, rz = r.size := ⟨_, rfl⟩
    rw [← hrz] at HM hE hqr
    have hsub : (b : Int) - (a : Int) = (rz : Int) := by omega
    have q1 : decide ((K : Int) < (n : Int)) = true := by simp; omega
    have q2 : decide (K < n) = true := by simp; omega
    have q3 : (K : Int) < (n : Int) := by omega
    have b1 : (a : Int) + (q : Int) ≤ 9223372036854775807 := by omega
    have b2 : a + q ≤ 100000000 := by omega
    have b3 : (a : Int) + (q : Int) ≤ (h.cc : Int) := by omega
    have b4 : (0 : Int) ≤ (a : Int) + (q : Int) := by omega
    have b5 : a + q ≤ h.cc := by omega
    have b6 : (K : Int) ≤ (h.uc : Int) := by omega
    have b7 : (0 : Int) ≤ (K : Int) := by omega
    have b8 : K ≤ h.uc := by omega
    have b9 : b ≤ 100000000 := by omega
    have t1 : ((a : Int) + (q : Int)).toNat = a + q := by omega
    have HN : Hid (K < (Dk.starts h.f).length ∧ (Dk.starts h.f).length = n) := Lib.hid ⟨by omega, hn.symm⟩
    have HC : Hid ((cb (cutF h.f (h.f.syn + K) t)).size = a + q ∧ Lib.strCells (cb (cutF h.f (h.f.syn + K) t)) = (Lib.strCells (cb h.f)).take (a + q)) := Lib.hid ⟨hcc, by rw [hcbz, strCells_take]⟩
    have HSy : Hid ((cutF h.f (h.f.syn + K) t).syn ≤ (cutF h.f (h.f.syn + K) t).recs.length ∧ (cutF h.f (h.f.syn + K) t).recs.length ≤ 100000000) := Lib.hid ⟨by rw [hsy]; show h.f.syn ≤ _; omega, by rw [hsy]; omega⟩
    rw [← hn] at c2
    have HFt := Lib.hid hf
    have HG := Lib.hid (And.intro hg hg2)
    clear hf ho hF hcbz hsy hB ha hb hE hsz hzz hr1 hr2 hcc hr hr0 hrl htt hg hg2 hn hlt hK hcut htn hl hld hnl hu c0 c1 c3 hk ht hq hrz
    go_enter Tryz.func84, Tryz.ntmps84
    go_wp2_with fail
    refine (HB.out).mono ?_
    rintro e w1 ⟨rfl, hw1⟩
    have hf1 : FAt w1 h := by obtain ⟨m, rfl⟩ := hw1; exact HFt.out.kept fun k _ => rfl
    have HB1 : Hid (Below W.heap.size W w1 ∧ w1.heap.size = W.heap.size) := Lib.hid (by obtain ⟨m, rfl⟩ := hw1; exact ⟨below_drewN (Below.refl _ _) m, rfl⟩)
    clear hw1 c2
    obtain ⟨c0, c1, c2, c3⟩ := hf1.c
    have HFt1 := Lib.hid hf1
    rw [HN.out.2] at c2
    rw [HG.out.1] at c0
    rw [HG.out.2] at c2
    obtain ⟨Z, hZ⟩ : ∃ Z, Z = (cb h.f).size := ⟨_, rfl⟩
    rw [← hZ] at c0
    clear hf1 hZ c1 c3
    go_wp2_with fail
    refine (HM.out _).mono ?_
    rintro e w2 ⟨rfl, rfl⟩
    have HCl : Hid (Calls Tryz.prog 137 #[.slice (some ⟨g, 0, none⟩) (a + q) h.cc] w1 fun e w' => ∃ A' c', e = .returned (.slice A' (a + q) c') ∧ w'.ownsRow w1.heap.size 5 1 (.slice A' (a + q) c') (a + q) (Lib.strCells (cb (cutF h.f (h.f.syn + K) t))) ∧ Below w1.heap.size w1 w') := Lib.hid
      (cloneB_any w1 (some ⟨g, 0, none⟩) (a + q) h.cc (cb (cutF h.f (h.f.syn + K) t)) HC.out.1 (.inr ⟨g, rfl, fun j u hu => by
        rw [HC.out.2] at hu
        have hu2 : (Lib.strCells (cb h.f))[j]? = some u := by
          rw [List.getElem?_take] at hu
          split at hu
          · exact hu
          · cases hu
        exact HFt1.out.cont.cells (g := g) (by rw [HG.out.1]; rfl) j u hu2⟩) (by omega))
    go_wp2_with fail
    refine (HCl.out).mono ?_
    rintro e w2 ⟨A', c', rfl, ho2, hb2⟩
    have hE := cut_end HFt1.out hb2 K (a + q) t HN.out.1 ho2 HC.out.1.symm
    rw [HG.out.2] at hE
    have hf2 : FAt w2 h := HFt1.out.kept fun k hk => hb2.block k (HFt1.out.lt hk)
    have d2 := hf2.c.2.2.1
    rw [HN.out.2, HG.out.2] at d2
    have d0 := hf2.c.1
    have d3 := hf2.c.2.2.2
    rw [HG.out.1] at d0
    obtain ⟨Z2, hZ2⟩ : ∃ Z2, Z2 = (cb h.f).size := ⟨_, rfl⟩
    rw [← hZ2] at d0
    clear hZ2
    have f0 := hf2.fz 0
    have f2 := hf2.fz 2
    have f3 := hf2.fz 3
    have HS := Lib.hid (fsync_any _ _ hE.1 HSy.out.1 HSy.out.2)
    have HE := Lib.hid hE
    clear hf2 hE ho2 hb2 c0 c2
    go_wp2_with fail
    refine (HS.out).mono ?_
    rintro e w3 ⟨rfl, h1, h2⟩
    go_wp2_with fail
    go_end0
    obtain ⟨hE1, hE2, hE3⟩ := HE.out
    refine ⟨rfl, _, h1, rfl, by rw [← HG.out.2]; exact HFS.out A' c', ?_, ?_⟩
    · exact ((Ko.bel (S := h.Blk) HB1.out.1).trans (hE2.mono (T := h.Blk) fun k _ hk => .inl hk) (fun _ hk => .inl hk)).trans (h2.mono (T := h.Blk) fun k _ hk => .inl hk) (fun _ hk => .inl hk)
    · intro k hk
      rcases hk with hk | hk | hk
      · exact .inl (.inl hk)
      · refine .inr ?_
        have := hE3 k (by rw [own_blk A' (a + q) (cb (Hm.sync ⟨cutF h.f (h.f.syn + K) t, h.b, A', c', some ⟨g2, 0, none⟩, h.uc⟩).f).size c' c']; exact hk)
        rw [HB1.out.2] at this; exact this
      · cases hk
end Go.Proofs.YtjhbpcecdhdnoaaGreatDoor
namespace Go.Proofs.YtjhbpcecdhdnoaaGreatDoor
open Go.RowKit
theorem step_app_own {P : Program} {ops : Array Oper} {o : Oper} {a : Act} {w : World} {K : Act → World → Prop} {Q : Exit → Act → World → Prop} {E : Prop}
    (hg : o.guard = none) (s x : Operand) (t : TypeId) (hop : o.op = Op.call { callee := Callee.builtin Builtin.append, args := #[s, x], argTypes := #[t, t] })
    (base : Nat) (e : TypeId) (i : TypeInfo) (z : Value) (size bytes : Nat) (ht : P.underlying t = some (.slice e)) (hi : P.info? e = some i) (hz : i.zero = some z)
    (hsize : i.size = size) (hby : i.bytes = bytes) (hzs : z.cells.size = size) (hsz : 0 < size)
    (v : Value) (n : Nat) (xs : List Value) (hs : a.eval s = v) (hown : w.ownsRow base e size v n xs)
    (ad : Addr) (m c : Nat) (news : List Value) (hx : a.eval x = .slice (some ad) m c) (hl : news.length = m * size) (hnews : ∀ j u, news[j]? = some u → w.cell? (ad.add j) = some u) (h1 : ∀ u ∈ news, u.oneCell' = true)
    (h63 : n + m ≤ maxLen) (hbytes : (n + m) * bytes ≤ 140737488355328) (hbase : base ≤ w.heap.size)
    (hK : ∀ v' w', w'.ownsRow base e size v' (n + m) (xs ++ news) → w.grownBy w' v.ownBlock → (∀ k, v'.ownBlock = some k → v.ownBlock = some k ∨ w.heap.size ≤ k) → K (a.put o.dst v') w') :
    if Region.wanted o (yielded ops a.tmps) = true then Oper.wp P o a w K Q else E := by
  have hw : Region.wanted o (yielded ops a.tmps) = true := by simp [Region.wanted, hg]
  rw [if_pos hw]
  obtain ⟨v', w', hr, h2, h3, h4⟩ := run_app_own (P := P) w base t o.type e i z size bytes ht hi hz hsize hby hzs hsz v n xs hown ad m c news hl hnews h1 h63 hbytes hbase
  unfold Oper.wp execOp
  simp only [hop, resolve, invoke, builtin, Sem.run_bind, Sem.run_pure, Result.andThen_ok, List.map_toArray, List.map_cons, List.map_nil, hs, hx, hr]
  exact hK _ _ h2 h3 h4
def addF (f : Dk.Fl) (r : ByteArray) : Dk.Fl := { f with recs := f.recs ++ [r] }
theorem addF_starts (f : Dk.Fl) (r : ByteArray) (ht : f.torn = Dk.e0) (hs : f.syn ≤ f.recs.length) : Dk.starts (addF f r) = Dk.starts f ++ [((cb f).size : Int)] := by
  have h1 := Dk.starts_length f
  have h2 : (Dk.starts (addF f r)).length = f.recs.length + 1 - f.syn := by
    rw [Dk.starts_length]
    show (f.recs ++ [r]).length - f.syn = _
    rw [List.length_append]; rfl
  apply List.ext_getElem?
  intro i
  by_cases hi : i < (Dk.starts (addF f r)).length
  · rw [Dk.starts_at (addF f r) i (by rw [← Dk.starts_length]; exact hi)]
    show some ((Dk.sz ((f.recs ++ [r]).take (f.syn + i)) : Nat) : Int) = _
    rw [List.take_append_of_le_length (by omega)]
    by_cases hj : i < (Dk.starts f).length
    · rw [List.getElem?_append_left hj, Dk.starts_at f i (by omega)]
    · rw [List.getElem?_append_right (by omega), show i - (Dk.starts f).length = 0 by omega, cb_size, ht, show f.syn + i = f.recs.length by omega, List.take_length]
      rfl
  · rw [List.getElem?_eq_none (by omega), List.getElem?_eq_none (by rw [List.length_append, List.length_singleton]; omega)]
theorem addF_cb (f : Dk.Fl) (r : ByteArray) (ht : f.torn = Dk.e0) : Lib.strCells (cb (addF f r)) = Lib.strCells (cb f) ++ Lib.strCells r := by
  unfold Lib.strCells
  rw [← List.map_append]
  congr 1
  show (Dk.bytes (addF f r)).toArray.toList = (Dk.bytes f).toArray.toList ++ _
  rw [List.toList_toArray, List.toList_toArray, Dk.bytes, Dk.bytes]
  show Dk.cat (f.recs ++ [r]) ++ f.torn.data.toList = _
  rw [ht, Dk.cat_append]
  simp [Dk.cat, Dk.e0]
theorem addF_size (f : Dk.Fl) (r : ByteArray) (ht : f.torn = Dk.e0) : (cb (addF f r)).size = (cb f).size + r.size := by
  have := congrArg List.length (addF_cb f r ht)
  rw [List.length_append, Lib.strCells_length, Lib.strCells_length, Lib.strCells_length] at this
  exact this
structure AddMid (W V : World) (h : Hm) (A1 : Option Addr) (cap1 Z n : Nat) : Prop where
  row : V.heap[h.b]? = some (.cells #[.slice h.ca Z h.cc, .int .i64 (h.f.syn : Int), .slice A1 (n + 1) cap1, .bool h.f.cut] 143 (0, 0))
  cont : V.ownsRow 0 5 1 (.slice h.ca Z h.cc) Z (Lib.strCells (cb h.f))
  unsy : V.ownsRow 0 3 1 (.slice A1 (n + 1) cap1) (n + 1) (ic (Dk.starts h.f) ++ [.int .i64 (Z : Int)])
  ko : Ko h.Blk W V
  blk : ∀ k, (Value.slice A1 (n + 1) cap1).ownBlock = some k → h.Blk k ∨ W.heap.size ≤ k
  ne : (Value.slice h.ca Z h.cc).ownBlock ≠ some h.b
theorem add_mid {W w1 : World} {h : Hm} (hf : FAt W h) {Z n : Nat} (hZ : Z = (cb h.f).size) (hn : n = (Dk.starts h.f).length) {x : Obj} (hg : ((W.alloc x).drew).grownBy w1 (Value.slice h.ua n h.uc).ownBlock) {A1 : Option Addr} {cap1 : Nat}
    (ho : w1.ownsRow 0 3 1 (.slice A1 (n + 1) cap1) (n + 1) (ic (Dk.starts h.f) ++ [.int .i64 (Z : Int)])) (hk1 : ∀ k, (Value.slice A1 (n + 1) cap1).ownBlock = some k → (Value.slice h.ua n h.uc).ownBlock = some k ∨ W.heap.size + 1 ≤ k) :
    AddMid W (w1.setCell ⟨h.b, 2, none⟩ (.slice A1 (n + 1) cap1)) h A1 cap1 Z n := by
  have hbl := hf.lt (.inl rfl)
  subst hZ hn
  have hsz : W.heap.size + 1 ≤ w1.heap.size := by have := hg.size; simpa using this
  have hkb : ∀ k, k < W.heap.size → (Value.slice h.ua (Dk.starts h.f).length h.uc).ownBlock ≠ some k → w1.heap[k]? = W.heap[k]? := fun k hk hne =>
    (hg.block k (by simp; omega) (fun he => hne he.symm)).trans ((bnew (Below.refl W.heap.size W) x).block k hk)
  have hr1 := (hkb h.b hbl hf.unsy_ne).trans hf.row
  have hkw : Ko h.Blk W w1 := ⟨hg.os, hg.tape, hg.output, by omega, fun k hk hn => hkb k hk fun he => hn (.inr (.inr he))⟩
  have hne1 : (Value.slice A1 ((Dk.starts h.f).length + 1) cap1).ownBlock ≠ some h.b := fun he => by
    rcases hk1 _ he with h2 | h2
    · exact hf.unsy_ne h2
    · omega
  refine ⟨?_, ?_, own_setb ho hne1 _, hkw.set (.inl rfl) 2 _, fun k hk => ?_, hf.cont_ne⟩
  · exact heap_setCell_same w1 h.b 2 _ _ _ hr1
  · exact own_setb (own_kept hf.cont fun k hk => hkb k (own_lt hf.cont hk).1 fun he => hf.apart hk he) hf.cont_ne _
  · rcases hk1 k hk with h2 | h2
    · exact .inl (.inr (.inr h2))
    · exact .inr (by omega)
theorem add_end {W V w2 : World} {h : Hm} {A1 : Option Addr} {cap1 Z n : Nat} (hm : AddMid W V h A1 cap1 Z n) (hZ : Z = (cb h.f).size) (hn : n = (Dk.starts h.f).length) (ht : h.f.torn = Dk.e0) (hs : h.f.syn ≤ h.f.recs.length) (r : ByteArray)
    (hg : V.grownBy w2 (Value.slice h.ca Z h.cc).ownBlock) {A2 : Option Addr} {cap2 : Nat}
    (ho : w2.ownsRow 0 5 1 (.slice A2 (Z + r.size) cap2) (Z + r.size) (Lib.strCells (cb h.f) ++ Lib.strCells r)) (hk2 : ∀ k, (Value.slice A2 (Z + r.size) cap2).ownBlock = some k → (Value.slice h.ca Z h.cc).ownBlock = some k ∨ V.heap.size ≤ k) :
    w2.heap[h.b]? = some (.cells #[.slice h.ca Z h.cc, .int .i64 (h.f.syn : Int), .slice A1 (n + 1) cap1, .bool h.f.cut] 143 (0, 0)) ∧
    (let w3 := w2.setCell ⟨h.b, 0, none⟩ (.slice A2 (Z + r.size) cap2)
    let h' : Hm := ⟨addF h.f r, h.b, A2, cap2, A1, cap1⟩
    FAt w3 h' ∧ Ko h.Blk W w3 ∧ ∀ k, h'.Blk k → h.Blk k ∨ W.heap.size ≤ k) := by
  have hbl : h.b < V.heap.size := (Array.getElem?_eq_some_iff.1 hm.row).1
  have hkb : ∀ k, k < V.heap.size → (Value.slice h.ca Z h.cc).ownBlock ≠ some k → w2.heap[k]? = V.heap[k]? := fun k hk hne => hg.block k hk (fun he => hne he.symm)
  have hr2 := (hkb h.b hbl hm.ne).trans hm.row
  have hkw : Ko h.Blk W w2 := hm.ko.trans (T := h.Blk) ⟨hg.os, hg.tape, hg.output, hg.size, fun k hk hn => hkb k hk fun he => hn (.inr (.inl (by rw [← hZ]; exact he)))⟩ fun _ hk => .inl hk
  have hne2 : (Value.slice A2 (Z + r.size) cap2).ownBlock ≠ some h.b := fun he => by
    rcases hk2 _ he with h2 | h2
    · exact hm.ne h2
    · omega
  have hcz := addF_size h.f r ht
  have hst := addF_starts h.f r ht hs
  have hsl : (Dk.starts (addF h.f r)).length = n + 1 := by rw [hst, List.length_append, ← hn]; rfl
  have hcc : (cb (addF h.f r)).size = Z + r.size := by rw [hcz, hZ]
  have hne1 : (Value.slice A1 (n + 1) cap1).ownBlock ≠ some h.b := fun he => by
    obtain ⟨cur, hc⟩ := own_obj hm.unsy he
    have := hm.row
    rw [hc] at this
    simp at this
  have hap : ∀ k, (Value.slice A1 (n + 1) cap1).ownBlock = some k → (Value.slice h.ca Z h.cc).ownBlock ≠ some k := fun k h1 h2 => by
    obtain ⟨d1, e1⟩ := own_obj hm.unsy h1
    obtain ⟨d2, e2⟩ := own_obj hm.cont h2
    rw [e1] at e2
    simp at e2
  refine ⟨hr2, ⟨?_, ?_, ?_⟩, hkw.set (.inl rfl) 0 _, fun k hk => ?_⟩
  · refine (heap_setCell_same w2 h.b 0 _ _ _ hr2).trans ?_
    show some (Obj.cells #[.slice A2 (Z + r.size) cap2, .int .i64 (h.f.syn : Int), .slice A1 (n + 1) cap1, .bool h.f.cut] _ _) = some (Obj.cells #[.slice A2 (cb (addF h.f r)).size cap2, .int .i64 (h.f.syn : Int), .slice A1 (Dk.starts (addF h.f r)).length cap1, .bool h.f.cut] _ _)
    rw [hsl, hcc]
  · show World.ownsRow _ _ _ _ (Value.slice A2 (cb (addF h.f r)).size cap2) (cb (addF h.f r)).size (Lib.strCells (cb (addF h.f r)))
    rw [addF_cb h.f r ht, hcc]
    exact own_setb ho hne2 _
  · show World.ownsRow _ _ _ _ (Value.slice A1 (Dk.starts (addF h.f r)).length cap1) (Dk.starts (addF h.f r)).length (ic (Dk.starts (addF h.f r)))
    rw [hsl, hst, ic, List.map_append]
    have := own_setb (own_kept hm.unsy fun k hk => hkb k (own_lt hm.unsy hk).1 (hap k hk)) hne1 (i := 0) (Value.slice A2 (Z + r.size) cap2)
    rw [hZ] at this ⊢
    exact this
  · rcases hk with hk | hk | hk
    · exact .inl (.inl hk)
    · replace hk : (Value.slice A2 (Z + r.size) cap2).ownBlock = some k := by rw [own_blk A2 (Z + r.size) (cb (addF h.f r)).size cap2 cap2]; exact hk
      rcases hk2 k hk with h2 | h2
      · exact .inl (.inr (.inl (by rw [← hZ]; exact h2)))
      · exact .inr (by have := hm.ko.size; omega)
    · exact hm.blk k (by rw [own_blk A1 (n + 1) (Dk.starts (addF h.f r)).length cap1 cap1]; exact hk)
set_option maxRecDepth 100000 in
set_option maxHeartbeats 1000000 in
theorem fadd_any (W : World) (h : Hm) (hf : FAt W h) (ht : h.f.torn = Dk.e0) (hs : h.f.syn ≤ h.f.recs.length) (r : ByteArray) (hl : Dk.flLoad h.f + r.size ≤ 100000000) :
    Calls Tryz.prog 71 #[.pointer (some ⟨h.b, 0, none⟩), .string r] W fun e w' => e = .returned (.tuple #[]) ∧ ∃ h', FAt w' h' ∧ h'.b = h.b ∧ h'.f = { h.f with recs := h.f.recs ++ [r] } ∧ Ko h.Blk W w' ∧ ∀ k, h'.Blk k → h.Blk k ∨ W.heap.size ≤ k := by
  obtain ⟨c0, c1, c2, c3⟩ := hf.c
  have f0 := hf.fz 0
  have f2 := hf.fz 2
  obtain ⟨i1, hi, hz0, hz1, hz2⟩ := info_parts dm_infoInt
  obtain ⟨i0, hj, hy0, hy1, hy2⟩ := info_parts Tryz.infoByte
  obtain ⟨Z, hZ⟩ : ∃ Z, Z = (cb h.f).size := ⟨_, rfl⟩
  obtain ⟨n, hn⟩ : ∃ n, n = (Dk.starts h.f).length := ⟨_, rfl⟩
  rw [← hZ] at c0
  rw [← hn] at c2
  have Hu : Hid (World.ownsRow ((W.alloc (.cells #[.int .i64 (Z : Int)] 3)).drew) 0 3 1 (.slice h.ua n h.uc) n (ic (Dk.starts h.f))) := Lib.hid (by
    rw [hn]
    exact own_kept hf.unsy fun k hk => (bnew (Below.refl W.heap.size W) _).block k (own_lt hf.unsy hk).1)
  have Hnw : Hid (∀ j u, [Value.int .i64 (Z : Int)][j]? = some u → ((W.alloc (.cells #[.int .i64 (Z : Int)] 3)).drew).cell? ((⟨W.heap.size, 0, none⟩ : Addr).add j) = some u) := Lib.hid (news_fl W [.int .i64 (Z : Int)] 3)
  have hnl := Dk.starts_length h.f
  have hld : 1 + h.f.name.size + h.f.recs.length + Dk.sz h.f.recs + h.f.torn.size + r.size ≤ 100000000 := hl
  have hzz := cb_size h.f
  have bn : n ≤ 100000000 := by omega
  have bZ : Z + r.size ≤ 100000000 := by omega
  have HF := Lib.hid hf
  have HN := Lib.hid (And.intro hn hZ)
  have HS := Lib.hid (And.intro hs ht)
  have HR : Hid (∀ w1, ((W.alloc (.cells #[.int .i64 (Z : Int)] 3)).drew).grownBy w1 (Value.slice h.ua n h.uc).ownBlock → w1.heap[h.b]? = some (.cells (fileC h) 143 (0, 0))) := Lib.hid fun w1 hg => by
    have hbl := hf.lt (.inl rfl)
    refine (hg.block h.b (by simp; omega) (fun he => hf.unsy_ne (by rw [← hn]; exact he.symm))).trans ?_
    exact ((bnew (Below.refl W.heap.size W) _).block _ hbl).trans hf.row
  have c2' : (W.alloc (.cells #[.int .i64 (Z : Int)] 3)).cell? ⟨h.b, 2, none⟩ = some (.slice h.ua n h.uc) := later (bnew (Below.refl _ _) _) c2
  have HK2 : Hid (∀ w1 : World, w1.heap[h.b]? = some (.cells (fileC h) 143 (0, 0)) → w1.cell? ⟨h.b, 2, none⟩ = some (.slice h.ua n h.uc)) := Lib.hid fun w1 hr1 => by
    have := cell_of_row w1 h.b 2 _ _ _ hr1
    rw [this, hn]; rfl
  clear c1 c3 hf hn hZ hzz hld hnl hl ht hs
  go_enter Tryz.func71, Tryz.ntmps71
  go_wp2_with fail
  go_region_law (refine step_app_own rfl (.tmp 8) (.tmp 14) 43 rfl 0 3 i1 (.int .i64 0) 1 8 Tryz.underlying43 hi hz0 hz1 hz2 rfl (by decide) _ _ _ rfl Hu.out ⟨W.heap.size, 0, none⟩ 1 1 [.int .i64 (Z : Int)] rfl rfl Hnw.out (ic_one [(Z : Int)]) (by simp only [maxLen]; omega) (by omega) (by simp) ?_; intro v1 w1 ho1 hg1 hn1; obtain ⟨A1, cap1, rfl, _⟩ := own_slice ho1; have hr1 := HR.out w1 hg1; have k2 := HK2.out w1 hr1; have g2 := frozen_of_row w1 h.b 2 _ _ hr1; have HO1 := Lib.hid (And.intro ho1 (And.intro hg1 hn1)); have HR1 := Lib.hid hr1; clear ho1 hg1 hn1 hr1)
  all_goals
    have hm := add_mid HF.out HN.out.2 HN.out.1 HO1.out.2.1 HO1.out.1 (fun k hk => by rcases HO1.out.2.2 k hk with h2 | h2; exact .inl h2; exact .inr (by simpa using h2))
    obtain ⟨V, hV⟩ : ∃ V, V = w1.setCell ⟨h.b, 2, none⟩ (.slice A1 (n + 1) cap1) := ⟨_, rfl⟩
    rw [← hV] at hm ⊢
    have Hm := Lib.hid hm
    have d0 : V.cell? ⟨h.b, 0, none⟩ = some (.slice h.ca Z h.cc) := cell_of_row V h.b 0 _ _ _ hm.row
    have Hct : Hid (V.ownsRow 0 5 1 (.slice h.ca Z h.cc) Z (Lib.strCells (cb h.f))) := Lib.hid hm.cont
    clear hm hV k2 g2 c0 c2 c2' f0 f2 Hu Hnw HR HK2 HO1 HR1
    go_wp2_with (at_builtin; refine wpList_app_str rfl (.tmp 22) (.tmp 23) 141 9 rfl 0 5 i0 Tryz.underlying141 Tryz.underlying9 hj hy0 hy1 hy2 _ _ _ rfl Hct.out r rfl (by simp only [maxLen]; omega) (by omega) (by omega) ?_)
    intro v2 w2 ho2 hg2 hn2
    obtain ⟨A2, cap2, rfl, _⟩ := own_slice ho2
    have hend := add_end Hm.out HN.out.2 HN.out.1 HS.out.2 HS.out.1 r hg2 ho2 hn2
    have k2 : w2.cell? ⟨h.b, 0, none⟩ = some (.slice h.ca Z h.cc) := cell_of_row w2 h.b 0 _ _ _ hend.1
    have g2 := frozen_of_row w2 h.b 0 _ _ hend.1
    have HE := Lib.hid hend
    clear ho2 hg2 hn2 hend
    all_goals go_wp2_with fail
    all_goals go_end0
    all_goals exact ⟨rfl, _, HE.out.2.1, rfl, rfl, HE.out.2.2.1, HE.out.2.2.2⟩
end Go.Proofs.YtjhbpcecdhdnoaaGreatDoor
